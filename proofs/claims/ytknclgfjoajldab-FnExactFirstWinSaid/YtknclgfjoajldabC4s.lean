/-
  Races: the program's firstWin.
-/
import Derived.Test.YtknclgfjoajldabC4r
import Derived.Test.YtknclgfjoajldabC1i
namespace Go.Proofs.Ytknclgfjoajldab
open Go.RowKit

/-- What is told of the first of the fewest throws by which somebody wins. -/
def WinR (nx : Nat → Nat → Nat) (won : Nat → Int) (m : Nat) (who : Int) (q0 : Nat) (R : List Int × Bool) : Prop :=
  (∃ p : List Nat, FirstW nx won m who q0 p ∧ R = (p.map (fun i : Nat => (i : Int)), true)) ∨ ((∀ ys, ¬ WinL nx won m who q0 ys) ∧ R = ([], false))
theorem map_ints (p : List Nat) : (p.map (fun i : Nat => (i : Int))).map (Value.int .i64) = p.map (fun i : Nat => Value.int .i64 i) := by rw [List.map_map]; rfl

set_option maxRecDepth 100000 in
set_option maxHeartbeats 3000000 in
theorem firstWin_any (g : Nat) (s f o me fi ot who : Int) (js : List (Int × Int)) (R : List Int × Bool) (w : World) (hN : NV w g s f o (fun i => jumpOf js i) (me == 1) fi ot) (hgw : g < w.heap.size) (hr : raceOk s f o js me fi ot = true) (hwho : 0 < who)
    (hR : WinR (nxP s o js me) (wonQ s) f.toNat who (cd (s.toNat + 1) fi.toNat ot.toNat 0) R) :
    Calls Try.prog 55 #[.pointer (some ⟨g, 0, none⟩), .int .i64 who] w (IntsBack w R) := by
  obtain ⟨hg, h40, _, _, _, _⟩ := raceOk_parts hr
  have hz := good_sizes hg
  obtain ⟨q0, hq0⟩ : ∃ q, q = cd (s.toNat + 1) fi.toNat ot.toNat 0 := ⟨_, rfl⟩
  rw [← hq0] at hR
  obtain ⟨W1, hW1⟩ : ∃ W1, W1 = (w.alloc (.cells #[.pointer (some ⟨g, 0, none⟩)] 103)).alloc (.cells #[.int .i64 who] 3) := ⟨_, rfl⟩
  have z1 : W1.heap.size = w.heap.size + 2 := by rw [hW1]; simp
  have hB1 : Below w.heap.size w W1 := by rw [hW1]; exact below2 _ _ _
  have kM : W1.heap[w.heap.size]? = some (.cells #[.pointer (some ⟨g, 0, none⟩)] 103 (0, 0)) := by rw [hW1]; exact (Below.heap_alloc _ _ _ (by simp)).trans (heap_alloc_at _ _ _ rfl)
  have kL : W1.heap[w.heap.size + 1]? = some (.cells #[.int .i64 who] 3 (0, 0)) := by rw [hW1]; exact heap_alloc_at _ _ _ (by simp)
  have HQ0 := Lib.hid hq0; have HR := Lib.hid hR; have HN := Lib.hid hN; have HRO := Lib.hid hr; have HG := Lib.hid hg; have HW1 := Lib.hid hW1
  obtain ⟨j0, hji, hjz0, hjz1, hjz2⟩ := info_parts infoInt1
  clear hq0 hR hN hr hg hW1
  go_enter Try.func55, Try.ntmps55
  go_wp2_with fail
  rw [← HW1.out]
  refine (ways_any g s f o me fi ot js W1 (HN.out.below hB1 hgw) (by omega) HRO.out).mono ?_
  rintro e w2 ⟨L, v, rfl, hown, hWa, hx2⟩
  rw [← HQ0.out] at hWa
  have hs2 := hx2.size
  have hpos := hWa.pos
  have hlen : L.length ≤ 3362 := by
    have h1 := hWa.len (n := 2 * ((s.toNat + 1) * (s.toNat + 1))) (fun x hx => okQ_lt hx)
    have h2 : (s.toNat + 1) * (s.toNat + 1) ≤ 41 * 41 := Nat.mul_le_mul (by omega) (by omega)
    omega
  obtain ⟨b, c, rfl, hb0, hbc, hbw, hcells⟩ := own_openW hown rfl hpos
  have hB2 := hB1.trans (hx2.mono (by omega))
  have hN2 := HN.out.below hB2 hgw
  have k1 : w2.cell? ⟨w.heap.size, 0, none⟩ = some (.pointer (some ⟨g, 0, none⟩)) := (bcell hx2 (by omega)).trans (cell_of_row W1 w.heap.size 0 _ _ _ kM)
  have k2 : w2.cell? ⟨w.heap.size + 1, 0, none⟩ = some (.int .i64 who) := (bcell hx2 (by omega)).trans (cell_of_row W1 (w.heap.size + 1) 0 _ _ _ kL)
  have HWA := Lib.hid hWa
  clear hWa hx2 kM kL hown
  go_wp2_with fail
  refine (wonIdx_any g w.heap.size (w.heap.size + 1) b c s f o _ _ _ _ who L w2 hN2 (by omega) (by omega) (by omega) k1 k2 hbw (by omega) hcells).mono ?_
  rintro e w3 ⟨rfl, hx3⟩
  have hs3 := hx3.size
  have hB3 := hB2.trans (hx3.mono (by omega))
  have hcells3 : ∀ k (hk : k < L.length), w3.cell? ⟨b, k * 5 + 3, none⟩ = some (.int .i64 (L[k].face : Nat)) ∧ w3.cell? ⟨b, k * 5 + 4, none⟩ = some (.int .i64 (L[k].before : Nat)) := fun k hk => ⟨(bcell hx3 hbw).trans (hcells k hk).2.2.2.1, (bcell hx3 hbw).trans (hcells k hk).2.2.2.2⟩
  clear hcells k1 k2 hN2 hx3 hB2 hB1
  rcases wonIdx_is s who L with ⟨i, hi, hix, hwi, hno⟩ | ⟨hix, hno⟩
  · rw [hix]
    have hfw := HWA.out.first hwho hi hwi hno
    obtain ⟨p, hp⟩ : ∃ p, p = L[i].path := ⟨_, rfl⟩
    rw [← hp] at hfw
    have hRp : R = (p.map (fun i : Nat => (i : Int)), true) := by
      rcases HR.out with ⟨p', h', e⟩ | ⟨h', _⟩
      · rw [e, hfw.uniq h']
      · exact absurd hfw.1 (h' _)
    have hpl : p.length ≤ 3362 := by rw [hp]; have := HWA.out.short i i hi (Nat.le_refl _); omega
    subst hRp
    have hat : ∃ hk : i < L.length, L[i].path ++ ([] : List Nat).reverse = p := ⟨hi, by rw [hp]; simp⟩
    have HAT := Lib.hid hat; have HC := Lib.hid hcells3; have HPL := Lib.hid hpl
    have hn0 : ¬ (i : Int) < 0 := by omega
    have hi0 : i ≤ 3362 := by omega
    have hbw3 : b < w3.heap.size := by omega
    have hw03 : w.heap.size ≤ w3.heap.size := by omega
    have hB03 := Lib.hid hB3
    clear hix hwi hno hfw hp HR hat hcells3 hpl hB3 hi hs2 hs3 hb0 hbc hbw z1 HN HRO HG HW1 HQ0
    go_wp2_with fail
    go_loopw [8, 7] (fun v iv wr => ∃ (k : Nat) (ys : List Nat), iv = .int .i64 (k : Int) ∧ (∃ hk : k < L.length, L[k].path ++ ys.reverse = p) ∧ Below w3.heap.size w3 wr ∧ wr.ownsRow w3.heap.size 3 1 v ys.length (ys.map (fun i : Nat => Value.int .i64 i))) (fun _ iv _ => (intOf iv).toNat)
    case atStart => exact ⟨i, [], rfl, HAT.out, Below.refl _ _, World.ownsRow_nil _ _ _ _⟩
    case round =>
      clear HAT hi0 hn0
      obtain ⟨k, ys, rfl, ⟨hk, hpk⟩, hX, hown⟩ := hrel
      have hXs := hX.size
      by_cases h0 : k = 0
      · subst h0
        have h3 : ¬ ((0 : Nat) : Int) > 0 := by simp
        have hpr : p = ys.reverse := by rw [← hpk, HWA.out.start hk]; rfl
        subst hpr
        have hown0 := hown
        rw [← map_ints] at hown0
        have HO := Lib.hid hown0; have HX := Lib.hid hX
        clear hpk HC hX hown hown0
        go_wp2_with fail
        refine (rev_any w3.heap.size ys.length _ (ys.map (fun i : Nat => (i : Int))) wr HO.out (by have := HPL.out; simp at this ⊢; omega)).mono ?_
        rintro e w4 ⟨rfl, hown4, hbel⟩
        have hB4 := hB03.out.trans ((hbel _ HX.out).mono hw03)
        rw [← List.map_reverse] at hown4
        clear hbel HO HX
        go_wp2
        obtain ⟨A', c', rfl, ho⟩ := own_oi hown4 (by simp)
        go_ret2
        refine ⟨A', c', rfl, ?_, hB4⟩
        rcases ho with h | ⟨g', e, hg', hr⟩
        · exact .inl h
        · exact .inr ⟨g', e, by omega, hr⟩
      · have h3 : (k : Int) > 0 := by omega
        have hk5 : k ≤ 3362 := by omega
        have hyl : ys.length ≤ 3362 := by
          have h1 := congrArg List.length hpk
          have h2 := HPL.out
          simp at h1; omega
        obtain ⟨t, face, htk, hpt, d3, d4⟩ : ∃ t face : Nat, t < k ∧ (∃ h : t < L.length, L[t].path ++ [face] = L[k].path) ∧ w3.cell? ⟨b, k * 5 + 3, none⟩ = some (.int .i64 (face : Int)) ∧ w3.cell? ⟨b, k * 5 + 4, none⟩ = some (.int .i64 (t : Int)) := by
          obtain ⟨hbk, _, _, _, _, hpth, _⟩ := HWA.out.par k hk (by omega)
          exact ⟨L[k].before, L[k].face, hbk, ⟨by omega, hpth.symm⟩, HC.out k hk⟩
        have hat2 : ∃ hk : t < L.length, L[t].path ++ (ys ++ [face]).reverse = p := by
          obtain ⟨h, e⟩ := hpt
          exact ⟨h, by rw [← hpk, ← e, List.reverse_append, List.append_assoc]; rfl⟩
        have HAT2 := Lib.hid hat2
        have hkl : (k : Int) < (L.length : Int) := by omega
        have hk00 : (0 : Int) ≤ (k : Int) := by omega
        have e3 := (bcell hX hbw3).trans d3
        have hf := own_from hown
        clear hpk hpt hat2 HWA HC HPL hB03 d3 h0
        go_wp2_with (at_builtin; go_loud (refine wpList_append_own _ rfl _ _ 23 rfl w3.heap.size 3 j0 (.int .i64 0) 1 8 Try.underlying23 hji hjz0 hjz1 hjz2 rfl (by decide) _ _ _ rfl (hown.alloc _) ⟨wr.heap.size, 0, none⟩ 1 1 [.int .i64 (face : Int)] rfl rfl (cell_new1 _ _ _) (one_int _) (by unfold maxLen; omega) (by omega) (by simp; omega) ?_; intro v1 w5 hown5 hg5 _; have hX5 : Below w3.heap.size w3 w5 := (hX.alloc (by omega) (.cells #[.int .i64 (face : Int)] 3)).grown hg5 (by simp; omega) (fun j e => by have := hf _ e; omega); have e5 := (bcell hX5 hbw3).trans d4; clear hX hown hg5))
        go_roundw
        case rel =>
          refine ⟨t, ys ++ [face], rfl, HAT2.out, hX5, ?_⟩
          rw [List.length_append, List.map_append]
          exact hown5
        case measure => simp [intOf]; omega
  · rw [hix]
    have hRn : R = ([], false) := by
      rcases HR.out with ⟨p', h', _⟩ | ⟨_, e⟩
      · exact absurd h'.1 (HWA.out.none hwho hno _)
      · exact e
    subst hRn
    clear hix hno HWA hcells3 HR
    go_wp2
    go_ret2
    exact ⟨none, 0, rfl, .inl rfl, hB3⟩
end Go.Proofs.Ytknclgfjoajldab

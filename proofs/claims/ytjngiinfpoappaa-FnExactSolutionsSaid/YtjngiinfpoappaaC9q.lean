/-
  Puzzles: each of the boards listed is hidden; whether it fits a clue, by both sides' contracts. Puzzles: the boards that fit all clues, the model's pzAll.
-/
import Derived.Test.YtjngiinfpoappaaC9m
import Derived.Test.YtjngiinfpoappaaC9o
namespace Go.Proofs.Ytjngiinfpoappaa
open Go.RowKit

theorem good_none {s f o : Int} (hs : 1 ≤ s ∧ s ≤ 10) (hf : 1 ≤ f ∧ f ≤ 8) (ho : 0 ≤ o ∧ o ≤ 2) : good ⟨s, f, o, []⟩ = true := by
  rw [good, sizes_iff.2 ⟨⟨hs.1, by omega⟩, hf, ho, by simp⟩]; rfl
theorem good_one {s f o a b : Int} (hs : 1 ≤ s ∧ s ≤ 10) (hf : 1 ≤ f ∧ f ≤ 8) (ho : 0 ≤ o ∧ o ≤ 2) (ha : 1 ≤ a ∧ a ≤ s - 1) (hb : 0 ≤ b ∧ b ≤ s) (hne : ¬ b = a) : good ⟨s, f, o, [(a, b)]⟩ = true := by
  have h1 : inB a 1 (s - 1) = true := inB_iff.2 ha
  have h2 : inB b 0 s = true := inB_iff.2 hb
  have h3 : (a == b) = false := beq_eq_false_iff_ne.2 fun e => hne e.symm
  have h4 : decide ((0 : Int) < a) = true := by simp; omega
  rw [good, sizes_iff.2 ⟨⟨hs.1, by omega⟩, hf, ho, by simp⟩]
  simp [jumpsOk, h1, h2, h3, h4, jumpOf]
/-- A hidden board of these sizes. -/
def HidX (s f : Int) (x : Brd) : Prop := x.1.1 = s ∧ x.1.2.1 = f ∧ hidB x.1.1 x.1.2.1 x.1.2.2 x.2 = true
theorem hidX_of {s f o : Int} {js : List (Int × Int)} (h : good ⟨s, f, o, js⟩ = true) (hs : s ≤ 10) (hl : js.length ≤ 1) : HidX s f ((s, f, o), js) := by
  refine ⟨rfl, rfl, ?_⟩
  rw [hidB, h, decide_eq_true hs, decide_eq_true hl]; rfl
theorem tosL_hid {s f o a : Int} (hs : 1 ≤ s ∧ s ≤ 10) (hf : 1 ≤ f ∧ f ≤ 8) (ho : 0 ≤ o ∧ o ≤ 2) (ha : 1 ≤ a ∧ a ≤ s - 1) : ∀ (t : Nat), (t : Int) ≤ s + 1 → ∀ x ∈ tosL s f o a t, HidX s f x
  | 0, _, x, hx => by cases hx
  | t + 1, ht, x, hx => by
    rw [tosL, List.mem_append] at hx
    rcases hx with hx | hx
    · exact tosL_hid hs hf ho ha t (by omega) x hx
    · split at hx
      · cases hx
      · rename_i hne
        obtain rfl := List.mem_singleton.1 hx
        exact hidX_of (good_one hs hf ho ha ⟨by omega, by omega⟩ hne) hs.2 (by simp)
theorem fromsL_hid {s f o : Int} {S : Nat} (hS : s = (S : Int)) (hs : 1 ≤ s ∧ s ≤ 10) (hf : 1 ≤ f ∧ f ≤ 8) (ho : 0 ≤ o ∧ o ≤ 2) : ∀ (k : Nat), (k : Int) ≤ s - 1 → ∀ x ∈ fromsL s f o S k, HidX s f x
  | 0, _, x, hx => by cases hx
  | k + 1, hk, x, hx => by
    rw [fromsL, List.mem_append] at hx
    rcases hx with hx | hx
    · exact fromsL_hid hS hs hf ho k (by omega) x hx
    · exact tosL_hid hs hf ho ⟨by omega, by omega⟩ (S + 1) (by omega) x hx
theorem oversL_hid {f : Int} {S : Nat} (hs : 1 ≤ S ∧ S ≤ 10) (hf : 1 ≤ f ∧ f ≤ 8) : ∀ (m : Nat), m ≤ 3 → ∀ x ∈ oversL (S : Int) f S m, HidX (S : Int) f x
  | 0, _, x, hx => by cases hx
  | m + 1, hm, x, hx => by
    rw [oversL, List.mem_append, List.mem_append] at hx
    have hs' : 1 ≤ (S : Int) ∧ (S : Int) ≤ 10 := ⟨by omega, by omega⟩
    have ho : 0 ≤ (m : Int) ∧ (m : Int) ≤ 2 := ⟨by omega, by omega⟩
    rcases hx with (hx | hx) | hx
    · exact oversL_hid hs hf m (by omega) x hx
    · obtain rfl := List.mem_singleton.1 hx
      exact hidX_of (good_none hs' hf ho) hs'.2 (by simp)
    · exact fromsL_hid rfl hs' hf ho (S - 1) (by omega) x hx

/-- v tells, on both sides, whether a board fits a clue. -/
def FitIs (x : Brd) (q : Qd) (v : Bool) : Prop :=
  (∀ (A : Option Addr) (c : Nat) (w : World), RJ w w.heap.size A x.2 → Calls Try.prog 85 #[.agg #[.int .i64 q.1, .int .i64 q.2.1, .int .i64 q.2.2.1, .int .i64 q.2.2.2], .agg #[.int .i64 x.1.1, .int .i64 x.1.2.1, .int .i64 x.1.2.2, .slice A x.2.length c]] w fun e w' => e = .returned (.bool v) ∧ Below w.heap.size w w') ∧
  (∀ (A : Option Addr) (c : Nat) (w : World), RJ w w.heap.size A x.2 → Calls Try.prog 94 #[.agg #[.int .i64 x.1.1, .int .i64 x.1.2.1, .int .i64 x.1.2.2, .slice A x.2.length c], .agg #[.int .i64 q.1, .int .i64 q.2.1, .int .i64 q.2.2.1, .int .i64 q.2.2.2]] w fun e w' => e = .returned (.bool v) ∧ Below w.heap.size w w')
theorem fit_ex {s f : Int} {x : Brd} {q : Qd} (hx : HidX s f x) (hq : clQ s f q = true) : ∃ v, FitIs x q v := by
  obtain ⟨⟨s', f', o⟩, js⟩ := x
  obtain ⟨k, a, b, d⟩ := q
  obtain ⟨rfl, rfl, hh⟩ := hx
  dsimp only at hh hq
  have hp := hidB_parts hh
  have hc : clB s' f' k a b d = true := hq
  obtain ⟨R, hR⟩ : ∃ R, FewR s' f' o js 0 R := by
    rcases Classical.em (∃ t, Way (eB s' f' o js) 0 t s'.toNat) with ⟨t, ht⟩ | hn
    · obtain ⟨t, ht⟩ := least_ex (W := fun t => Way (eB s' f' o js) 0 t s'.toNat) ht
      exact ⟨(t, true), .inl ⟨rfl, t, rfl, ht⟩⟩
    · exact ⟨(0, false), .inr ⟨rfl, rfl, fun t ht => hn ⟨t, ht⟩⟩⟩
  obtain ⟨P, hP⟩ : ∃ P, HopeIs s' f' o js P := ⟨fun i => @decide _ (Classical.propDecidable (onSq s' js i = true ∧ ∀ t, ¬ Way (eB s' f' o js) i t s'.toNat)), fun i => by simp⟩
  exact ⟨fitB (toldV s' o js R.1 (selL P (s'.toNat + 1)).length k a b) d, fun A c w hj => pzFits_any s' f' o A c js k a b d R P _ w hj hp.1 hp.2.2 hR hP hc rfl, fun A c w hj => fits_any s' f' o A c js k a b d R P _ w hj hp.1 hR hP hc rfl⟩
open Classical in
/-- Whether a board fits a clue. -/
noncomputable def fitX (x : Brd) (q : Qd) : Bool := if h : ∃ v, FitIs x q v then Classical.choose h else false
theorem fitX_is {s f : Int} {x : Brd} {q : Qd} (hx : HidX s f x) (hq : clQ s f q = true) : FitIs x q (fitX x q) := by
  have h := fit_ex hx hq
  rw [fitX, dif_pos h]
  exact Classical.choose_spec h
/-- The boards that fit all of some clues. -/
noncomputable def keepL (L : List Brd) (cs : List Qd) : List Brd := L.filter fun x => cs.all (fitX x)
end Go.Proofs.Ytjngiinfpoappaa

namespace Go.Proofs.Ytjngiinfpoappaa
open Go.RowKit

theorem good_wfJ {s f o : Int} {js : List (Int × Int)} (h : good ⟨s, f, o, js⟩ = true) : wfJ js := by
  have hz := good_sizes h
  rw [good, Bool.and_eq_true, Bool.and_eq_true] at h
  have h2 := h.1.2
  rw [jumpsOk_eq, Bool.and_eq_true, List.all_eq_true] at h2
  intro j hj
  have h3 := h2.1 j hj
  dsimp only at h3
  rw [okJump, Bool.and_eq_true, Bool.and_eq_true, inB_iff, inB_iff] at h3
  exact ⟨wfi_of (by omega) (by omega), wfi_of (by omega) (by omega)⟩
set_option maxRecDepth 100000 in
set_option maxHeartbeats 1000000 in
theorem pzAll_any (S : Nat) (f : Int) (A0 A : Option Addr) (n0 c0 cp : Nat) (cs : List Qd) (w : World) (hS : 1 ≤ S ∧ S ≤ 10) (hf : 1 ≤ f ∧ f ≤ 8) (hL : RQ w w.heap.size A cs) (hq : ∀ q ∈ cs, clQ (S : Int) f q = true) :
    Calls Try.prog 62 #[.agg #[.int .i64 (S : Int), .int .i64 f, .slice A0 n0 c0], .slice A cs.length cp] w fun e w' => ∃ v, e = .returned v ∧ OwnB w' w.heap.size w.heap.size 44 101 v (keepL (oversL S f S 3) cs) ∧ Below w.heap.size w w' := by
  have hl := hL.1
  obtain ⟨ti, hi, hz0, hz1, hz2⟩ := info_parts infoBoardW
  have hLh := oversL_hid hS hf 3 (Nat.le_refl _)
  have hLl := oversL_len (S : Int) f S hS.2 3
  obtain ⟨L, hLL⟩ : ∃ L, L = oversL (S : Int) f S 3 := ⟨_, rfl⟩
  rw [← hLL] at hLh hLl ⊢
  have HLL := Lib.hid hLL; have HLH := Lib.hid hLh
  clear hLL hLh
  go_enter Try.func62, Try.ntmps62
  go_wp2_with fail
  refine (pzBoards_any S f _ hS).mono ?_
  rintro e w2 ⟨vb, rfl, hOb, hx⟩
  simp only [World.size_alloc] at hx hOb
  rw [← HLL.out] at hOb
  obtain ⟨Ab, cb, rfl, hcb⟩ := hOb.slice
  have hb2 : Below w.heap.size w w2 := (below1 _ _).trans (hx.mono (by omega))
  have hs2 : w.heap.size + 1 ≤ w2.heap.size := by have := hx.size; simpa using this
  have HOB := Lib.hid hOb
  clear hOb hx
  go_wp2
  go_loopw [5, 17] (fun v q wr => ∃ i : Nat, i ≤ L.length ∧ q = .int .i64 (i : Int) ∧ OwnB wr w2.heap.size (w.heap.size + 1) 44 101 v (keepL (L.take i) cs) ∧ Below w2.heap.size w2 wr) (fun _ q _ => L.length - (intOf q).toNat)
  case atStart => exact ⟨0, by omega, rfl, by simpa [keepL] using OwnB.nil w2 w2.heap.size (w.heap.size + 1) 44 101, Below.refl _ _⟩
  case round =>
    obtain ⟨i, hi1, rfl, hB, hb⟩ := hrel
    have hsr := hb.size
    by_cases hlt : i < L.length
    · have h1 : (i : Int) < (L.length : Int) := by omega
      obtain ⟨g, c1, vk, e1, hg1, hg2, hJV, x0, x1, x2, x3⟩ := HOB.out.at_ hlt
      injection e1 with e1 _ e2
      subst e1 e2
      have hX := HLH.out _ (List.getElem_mem hlt)
      have hkl : (keepL (L.take i) cs).length ≤ i := Nat.le_trans (List.length_filter_le _ _) (List.length_take_le _ _)
      have hst : keepL (L.take (i + 1)) cs = keepL (L.take i) cs ++ (if cs.all (fitX L[i]) then [L[i]] else []) := by
        rw [keepL, List.take_succ_eq_append_getElem hlt, List.filter_append, keepL]
        congr 1
        cases h : cs.all (fitX L[i]) <;> simp [h]
      obtain ⟨x, hxe⟩ : ∃ x, x = L[i] := ⟨_, rfl⟩
      rw [← hxe] at hst hX hJV x0 x1 x2
      have HST := Lib.hid hst; have HX := Lib.hid hX
      obtain ⟨⟨s', f', o'⟩, js⟩ := x
      obtain ⟨Aj, cj, rfl, hcj, hOJ⟩ := hJV
      dsimp only at x0 x1 x2 hOJ hcj
      have d0 := (bcell hb hg2).trans x0
      have d1 := (bcell hb hg2).trans x1
      have d2 := (bcell hb hg2).trans x2
      have d3 := (bcell hb hg2).trans x3
      have hgr : g < wr.heap.size := by omega
      clear hst hX hxe x0 x1 x2 x3
      go_wp2
      have hgd : good ⟨s', f', o', js⟩ = true := (hidB_parts HX.out.2.2).1
      have hwf := good_wfJ hgd
      have hjl : js.length ≤ 1048576 := by have := (good_sizes hgd).2.2.2; omega
      have HRJ := Lib.hid (show ∀ w', Below w2.heap.size w2 w' → RJ w' w'.heap.size Aj js from fun w' h => (hOJ.below h (Nat.le_refl _)).rj hjl hwf)
      obtain ⟨al, hal⟩ : ∃ al : Nat → Bool, al = fun j => (cs.take j).all (fitX ((s', f', o'), js)) := ⟨_, rfl⟩
      have ha0 : al 0 = true := by rw [hal]; rfl
      have haS : ∀ j (h : j < cs.length), al (j + 1) = (al j && fitX ((s', f', o'), js) cs[j]) := fun j h => by
        rw [hal]
        show (cs.take (j + 1)).all _ = _
        rw [List.take_succ_eq_append_getElem h, List.all_append]
        simp
      have haE : al cs.length = cs.all (fitX ((s', f', o'), js)) := by
        rw [hal]
        show (cs.take cs.length).all _ = _
        rw [List.take_of_length_le (Nat.le_refl _)]
      rw [← haE] at HST
      have HA0 := Lib.hid ha0; have HAS := Lib.hid haS
      have HOJ := Lib.hid hOJ
      clear hal ha0 haS haE hgd hwf hjl hOJ
      go_loopw [8, 23] (fun ok q wr2 => ∃ j : Nat, j ≤ cs.length ∧ q = .int .i64 (j : Int) ∧ ok = .bool (al j) ∧ Below (wr.heap.size + 1) (wr.alloc (.cells #[.int .i64 s', .int .i64 f', .int .i64 o', .slice Aj js.length cj] 44)) wr2) (fun _ q _ => cs.length - (intOf q).toNat)
      case atStart => exact ⟨0, by omega, rfl, by rw [HA0.out], Below.refl _ _⟩
      case round =>
        obtain ⟨j, hj1, rfl, rfl, hbx⟩ := hrel
        have hsx := hbx.size
        simp only [World.size_alloc] at hsx
        have hb3 := hb.trans (((below1 _ _).trans (hbx.mono (by omega))).mono hsr)
        by_cases hlj : j < cs.length
        · have h5 : (j : Int) < (cs.length : Int) := by omega
          have hw3 : Below w.heap.size w wr := hb2.trans (hb3.mono (by omega))
          obtain ⟨gb, off, rfl, hgb, hq4⟩ := hL.at_ hw3 hlj
          have hqc := hq _ (List.getElem_mem hlj)
          obtain ⟨q, hqe⟩ : ∃ q, q = cs[j] := ⟨_, rfl⟩
          have hSj := HAS.out j hlj
          rw [← hqe] at hq4 hqc hSj
          obtain ⟨q0, q1, q2, q3⟩ := hq4
          have HSJ := Lib.hid hSj
          have hgr2 : gb < wr.heap.size := by omega
          have qx := boxcells hbx
          clear hqe hSj
          cases hok : al j
          · have HOK := Lib.hid hok
            go_wp2
            go_roundw
            case rel => exact ⟨j + 1, by omega, by go_num, by rw [HSJ.out, HOK.out]; rfl, hbx.alloc hsx _⟩
            case measure => simp [intOf]; omega
          · have HOK := Lib.hid hok
            clear hok
            have hxb : wr.heap.size + 1 ≤ wr.heap.size + 1 := Nat.le_refl _
            have hba := hbx.alloc hsx (.cells #[.int .i64 q.1, .int .i64 q.2.1, .int .i64 q.2.2.1, .int .i64 q.2.2.2] 104)
            have qxa := boxcells hba
            go_wp2_with (go_at_call 85; go_loud (refine ((fitX_is HX.out hqc).1 Aj cj _ (HRJ.out _ (hb3.alloc hb3.size _))).mono ?_; rintro e w5 ⟨rfl, hx5⟩))
            go_roundw
            case rel => exact ⟨j + 1, by omega, by go_num, by rw [HSJ.out, HOK.out]; rfl, hba.trans (hx5.mono (by simp; omega))⟩
            case measure => simp [intOf]; omega
        · obtain rfl : j = cs.length := by omega
          have h5 : ¬ (cs.length : Int) < (cs.length : Int) := by omega
          have qx := boxcells hbx
          cases hok : al cs.length
          · rw [hok] at HST
            have HOK := Lib.hid hok
            clear hok
            go_wp2
            go_roundw
            case rel => exact ⟨i + 1, by omega, by go_num, by rw [HST.out]; simpa using hB.go ((below1 _ _).trans (hbx.mono (by omega))), hb3⟩
            case measure => simp [intOf]; omega
          · rw [hok] at HST
            have HOK := Lib.hid hok
            obtain ⟨ys, hye, hown, hyj⟩ := hB.go ((below1 _ (.cells #[.int .i64 s', .int .i64 f', .int .i64 o', .slice Aj js.length cj] 44)).trans (hbx.mono (by omega)))
            have hjv : JV wr (w.heap.size + 1) 101 js (.slice Aj js.length cj) := ⟨Aj, cj, rfl, hcj, HOJ.out.below hb3 (Nat.le_refl _)⟩
            have hs4 : w2.heap.size ≤ wr.heap.size := by omega
            clear hok
            go_wp2_with (at_builtin; go_loud (refine wpList_append_own _ rfl _ _ 29 rfl w2.heap.size 44 ti (.agg #[.int .i64 0, .int .i64 0, .int .i64 0, .slice none 0 0]) 4 48 Try.underlying29 hi hz0 hz1 hz2 rfl (by decide) _ _ _ rfl (hown.alloc _) ⟨wr.heap.size, 0, none⟩ 1 1 (cellsB (((s', f', o'), js), Value.slice Aj js.length cj)) rfl rfl (cellsB_new wr 44 (((s', f', o'), js), Value.slice Aj js.length cj) _ (by simp)) (cellsB_one _ rfl) (by unfold maxLen; omega) (by omega) (by simp; omega) ?_; intro v1 w4 ho4 hg4 _))
            have hO4 := OwnB.snoc (x := (((s', f', o'), js), Value.slice Aj js.length cj)) hye (hown.alloc _) (fun y hy => (hyj y hy).go (below1 _ _)) (hjv.go (below1 _ _)) hg4 (show 101 ≠ 44 by decide) ho4
            have hb4 := (hb3.alloc hb3.size _).grown hg4 (by simp; omega) (fun g hg => own_from hown g hg)
            clear hown hyj hye ho4 hg4
            go_roundw
            case rel => exact ⟨i + 1, by omega, by go_num, by rw [HST.out]; exact hO4, hb4⟩
            case measure => simp [intOf]; omega
    · obtain rfl : i = L.length := by omega
      have h1 : ¬ (L.length : Int) < (L.length : Int) := by omega
      rw [List.take_of_length_le (Nat.le_refl _)] at hB
      go_wp2
      go_ret
      exact ⟨_, rfl, hB.lower (by omega) (by omega), hb2.trans (hb.mono (by omega))⟩
end Go.Proofs.Ytjngiinfpoappaa

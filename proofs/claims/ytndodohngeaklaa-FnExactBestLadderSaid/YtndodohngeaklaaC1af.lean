/-
  A jump put in its place, the model's: sqWith.
-/
import Derived.Test.YtndodohngeaklaaC1a
import Derived.Test.YtndodohngeaklaaC1ba
import Derived.Test.YtndodohngeaklaaM12
import Derived.Test.YtndodohngeaklaaWReg
namespace Go.Proofs.Ytndodohngeaklaa
open Go.RowKit

theorem infoJumpW : (Try.prog.info? 38).map (fun i => (i.zero, i.size, i.bytes)) = some (some (.agg #[.int .i64 0, .int .i64 0]), 2, 16) := by kernel_rfl
/-- An empty slice literal. -/
theorem own_made0 {N : Nat} {W0 w : World} (_ : Below N W0 w) (hN : N ≤ w.heap.size) (t : TypeId) (g : Nat) (hg : g = w.heap.size) : (w.alloc (.cells #[] t)).ownsRow N t 2 (.slice (some ⟨g, 0, none⟩) 0 0) 0 [] :=
  ⟨rfl, .inr ⟨g, 0, #[], rfl, by omega, heap_alloc_at _ _ _ hg, Nat.le_refl _, by decide, rfl, rfl⟩⟩
/-- Block g holds one jump. -/
def One2 (w : World) (g : Nat) (t : TypeId) (a b : Int) : Prop := w.heap[g]? = some (.cells #[.int .i64 a, .int .i64 b] t (0, 0))
theorem One2.made {N : Nat} {W0 w : World} (_ : Below N W0 w) (t : TypeId) (a b : Int) (g : Nat) (hg : g = w.heap.size) : One2 (w.alloc (.cells #[.int .i64 a, .int .i64 b] t)) g t a b := heap_alloc_at _ _ _ hg
theorem One2.lt {w : World} {g : Nat} {t : TypeId} {a b : Int} (h : One2 w g t a b) : g < w.heap.size := heap_lt h
theorem One2.alloc {w : World} {g : Nat} {t : TypeId} {a b : Int} (h : One2 w g t a b) (o : Obj) : One2 (w.alloc o) g t a b := (Below.heap_alloc w o g h.lt).trans h
theorem One2.grown {w w' : World} {g : Nat} {t : TypeId} {a b : Int} {row : Option Nat} (h : One2 w g t a b) (hg : w.grownBy w' row) (hne : some g ≠ row) : One2 w' g t a b := (hg.block g h.lt hne).trans h
theorem One2.cells {w : World} {g : Nat} {t : TypeId} {a b : Int} (h : One2 w g t a b) : ∀ (j : Nat) x, [Value.int .i64 a, .int .i64 b][j]? = some x → w.cell? ((⟨g, 0, none⟩ : Addr).add j) = some x := by
  intro j x hx
  match j, hx with
  | 0, hx => simp at hx; subst hx; exact cell_of_row w g 0 _ _ _ h
  | 1, hx => simp at hx; subst hx; exact cell_of_row w g 1 _ _ _ h
theorem flatJ_len : ∀ js : List (Int × Int), (flatJ js).length = js.length * 2
  | [] => rfl
  | j :: t => by
    have e : flatJ (j :: t) = .int .i64 j.1 :: .int .i64 j.2 :: flatJ t := rfl
    rw [e, List.length_cons, List.length_cons, flatJ_len t, List.length_cons]; omega
/-- Cells of jumps in memory. -/
theorem jumps_cells {w : World} {b off : Nat} {js : List (Int × Int)} (h : ∀ k (h : k < js.length), w.cell? ⟨b, off + k * 2, none⟩ = some (.int .i64 js[k].1) ∧ w.cell? ⟨b, off + k * 2 + 1, none⟩ = some (.int .i64 js[k].2)) (p : Nat) (hp : p ≤ js.length) :
    ∀ (j : Nat) x, (flatJ (js.drop p))[j]? = some x → w.cell? ((⟨b, off + p * 2, none⟩ : Addr).add j) = some x := by
  intro j x hx
  have hlen := flatJ_len (js.drop p)
  have hj : j < (js.drop p).length * 2 := by
    rw [← hlen]
    exact (List.getElem?_eq_some_iff.1 hx).1
  have hk : j / 2 < (js.drop p).length := by omega
  have hk2 : p + j / 2 < js.length := by simp at hk; omega
  obtain ⟨h1, h2⟩ := flatJ_at (js.drop p) (j / 2) hk
  obtain ⟨h3, h4⟩ := h (p + j / 2) hk2
  rw [List.getElem_drop] at h1 h2
  have e : j = j / 2 * 2 ∨ j = j / 2 * 2 + 1 := by omega
  rcases e with e | e
  · rw [e, h1] at hx
    injection hx with hx
    rw [← hx, ← h3]
    simp only [Addr.add]
    rw [show off + p * 2 + j = off + (p + j / 2) * 2 by omega]
    split
    · rw [show off + p * 2 = off + (p + j / 2) * 2 by omega]
    · rfl
  · rw [e, h2] at hx
    injection hx with hx
    rw [← hx, ← h4]
    simp only [Addr.add]
    rw [show off + p * 2 + j = off + (p + j / 2) * 2 + 1 by omega, if_neg (by omega)]
theorem jumps_behind {w : World} {b off : Nat} {js : List (Int × Int)} (h : ∀ k (h : k < js.length), w.cell? ⟨b, off + k * 2, none⟩ = some (.int .i64 js[k].1) ∧ w.cell? ⟨b, off + k * 2 + 1, none⟩ = some (.int .i64 js[k].2)) (p c : Nat) (hp : p ≤ js.length) (hc : js.length ≤ c) :
    ∀ (j : Nat) x, (flatJ (js.drop p))[j]? = some x → w.cell? ((⟨b, if c = p then off else off + p * 2, none⟩ : Addr).add j) = some x := by
  intro j x hx
  by_cases e : c = p
  · rw [List.drop_eq_nil_of_le (by omega)] at hx
    simp [flatJ] at hx
  · rw [if_neg e]
    exact jumps_cells h p hp j x hx
theorem slice_ite (c k b x y n m : Nat) : Value.slice (if c = k then some ⟨b, x, none⟩ else some ⟨b, y, none⟩) n m = .slice (some ⟨b, if c = k then x else y, none⟩) n m := by split <;> rfl
theorem jumps_front {w : World} {b off : Nat} {js : List (Int × Int)} (h : ∀ k (h : k < js.length), w.cell? ⟨b, off + k * 2, none⟩ = some (.int .i64 js[k].1) ∧ w.cell? ⟨b, off + k * 2 + 1, none⟩ = some (.int .i64 js[k].2)) (p : Nat) :
    ∀ (j : Nat) x, (flatJ (js.take p))[j]? = some x → w.cell? ((⟨b, off, none⟩ : Addr).add j) = some x := by
  intro j x hx
  refine jumps_cells h 0 (Nat.zero_le _) j x ?_
  have hlt := (List.getElem?_eq_some_iff.1 hx).1
  rw [List.drop_zero, ← List.take_append_drop p js, flatJ_app, List.getElem?_append_left hlt]
  exact hx
theorem flat_one (js : List (Int × Int)) : ∀ u ∈ flatJ js, u.oneCell' = true := by
  intro u hu
  simp only [flatJ, List.mem_flatMap] at hu
  obtain ⟨j, _, hj⟩ := hu
  simp at hj
  rcases hj with rfl | rfl <;> rfl

theorem own_base {w : World} {base b0 e size n : Nat} {v : Value} {xs : List Value} (h : w.ownsRow base e size v n xs) (hb : b0 ≤ base) : w.ownsRow b0 e size v n xs := by
  obtain ⟨h0, h | ⟨g, cap, cs, e1, hg, r⟩⟩ := h
  · exact ⟨h0, .inl h⟩
  · exact ⟨h0, .inr ⟨g, cap, cs, e1, Nat.le_trans hb hg, r⟩⟩
theorem own_sl {w : World} {base e size n : Nat} {v : Value} {xs : List Value} (h : w.ownsRow base e size v n xs) : ∃ A c, v = .slice A n c := by
  rcases h.2 with ⟨rfl, h0⟩ | ⟨g', cap, cs, rfl, _⟩
  · exact ⟨none, 0, by rw [h0]⟩
  · exact ⟨_, _, rfl⟩
theorem put_flat (js : List (Int × Int)) (a b : Int) (p : Nat) (hp : place js a js.length = p) : [] ++ flatJ (js.take p) ++ [.int .i64 a, .int .i64 b] ++ flatJ (js.drop p) = flatJ (put js (a, b)) := by
  unfold put
  rw [hp, flatJ_app]
  have e : flatJ ((a, b) :: js.drop p) = .int .i64 a :: .int .i64 b :: flatJ (js.drop p) := rfl
  rw [e]
  simp

set_option maxRecDepth 100000 in
set_option maxHeartbeats 2000000 in
theorem sqWith_some (s f o a b : Int) (bb off c : Nat) (js : List (Int × Int)) (w : World) (hj : RJ w w.heap.size (some ⟨bb, off, none⟩) js) (hc : js.length ≤ c) (hl : js.length ≤ 1000) :
    Calls Try.prog 38 #[.agg #[.int .i64 s, .int .i64 f, .int .i64 o, .slice (some ⟨bb, off, none⟩) js.length c], .agg #[.int .i64 a, .int .i64 b]] w fun e w' =>
      ∃ v, e = .returned (.agg #[.int .i64 s, .int .i64 f, .int .i64 o, v]) ∧ w'.ownsRow w.heap.size 38 2 v (js.length + 1) (flatJ (put js (a, b))) ∧ Below w.heap.size w w' := by
  obtain ⟨ti, hi, hz0, hz1, hz2⟩ := info_parts infoJumpW
  go_enter Try.func38, Try.ntmps38
  go_wp2_with fail
  obtain ⟨W0, hW0⟩ : ∃ W0, W0 = ((w.alloc (.cells #[.int .i64 s, .int .i64 f, .int .i64 o, .slice (some ⟨bb, off, none⟩) js.length c] 30)).alloc (.cells #[.int .i64 a, .int .i64 b] 38)).alloc (.cells #[.int .i64 0, .int .i64 0, .int .i64 0, .slice none 0 0] 30) := ⟨_, rfl⟩
  have z0 : W0.heap.size = w.heap.size + 3 := by rw [hW0]; simp
  have h0 : Below w.heap.size w W0 := by rw [hW0]; exact below3 _ _ _ _
  have k1 : W0.heap[w.heap.size]? = some (.cells #[.int .i64 s, .int .i64 f, .int .i64 o, .slice (some ⟨bb, off, none⟩) js.length c] 30 (0, 0)) := by rw [hW0]; exact (Below.heap_alloc _ _ _ (by simp; omega)).trans ((Below.heap_alloc _ _ _ (by simp)).trans (heap_alloc_at _ _ _ rfl))
  have k2 : W0.heap[w.heap.size + 1]? = some (.cells #[.int .i64 a, .int .i64 b] 38 (0, 0)) := by rw [hW0]; exact (Below.heap_alloc _ _ _ (by simp)).trans (heap_alloc_at _ _ _ (by simp))
  have k3 : W0.heap[w.heap.size + 2]? = some (.cells #[.int .i64 0, .int .i64 0, .int .i64 0, .slice none 0 0] 30 (0, 0)) := by rw [hW0]; exact heap_alloc_at _ _ _ (by simp)
  rw [← hW0]
  have HW0 := Lib.hid hW0; clear hW0
  have hSo : ∀ B, w.heap.size + 2 ≤ B → ∀ w', Below B W0 w' → (Below B W0 w' ∧ (∀ i, w'.cell? ⟨w.heap.size, i, none⟩ = #[.int .i64 s, .int .i64 f, .int .i64 o, .slice (some ⟨bb, off, none⟩) js.length c][i]?) ∧ (∀ i, w'.cell? ⟨w.heap.size + 1, i, none⟩ = #[.int .i64 a, .int .i64 b][i]?)) :=
    fun B hB w' hb => ⟨hb, fun i => (bcell hb (by omega)).trans (cell_of_row W0 w.heap.size i _ _ _ k1), fun i => (bcell hb (by omega)).trans (cell_of_row W0 (w.heap.size + 1) i _ _ _ k2)⟩
  have hcl : ∀ w', Below (w.heap.size + 3) W0 w' → ∀ k (h : k < js.length), w'.cell? ⟨bb, off + k * 2, none⟩ = some (.int .i64 js[k].1) ∧ w'.cell? ⟨bb, off + k * 2 + 1, none⟩ = some (.int .i64 js[k].2) := by
    intro w' hb k hk
    rcases hj.2.2 with rfl | ⟨b', off', e', hbw, hcell⟩
    · simp at hk
    · injection e' with e'; injection e' with e1 e2 _; subst e1; subst e2
      exact ⟨(bcell hb (by omega)).trans ((bcell h0 hbw).trans (hcell k hk).1), (bcell hb (by omega)).trans ((bcell h0 hbw).trans (hcell k hk).2)⟩
  have HSO := Lib.hid hSo; have HCL := Lib.hid hcl; clear hSo hcl
  go_loopw [5] (fun v wr => ∃ k : Nat, k ≤ js.length ∧ v = .int .i64 (k : Int) ∧ Below (w.heap.size + 3) W0 wr ∧ place js a js.length = place js a k) (fun v _ => (intOf v).toNat)
  case atStart => exact ⟨js.length, Nat.le_refl _, rfl, Below.refl _ _, rfl⟩
  case round =>
    obtain ⟨k, hk, rfl, hb, hp⟩ := hrel
    have HP := Lib.hid hp; clear hp
    have hs := hb.size
    have q1 : ∀ i, wr.cell? ⟨w.heap.size, i, none⟩ = #[.int .i64 s, .int .i64 f, .int .i64 o, .slice (some ⟨bb, off, none⟩) js.length c][i]? := fun i => (bcell hb (by omega)).trans (cell_of_row W0 w.heap.size i _ _ _ k1)
    have q2 : ∀ i, wr.cell? ⟨w.heap.size + 1, i, none⟩ = #[.int .i64 a, .int .i64 b][i]? := fun i => (bcell hb (by omega)).trans (cell_of_row W0 (w.heap.size + 1) i _ _ _ k2)
    have hB := hj.2.2
    by_cases hk0 : 0 < k
    · have hg : decide (0 < (k : Int)) = true := by simpa using hk0
      obtain ⟨b', off', e', hbw, hcell⟩ : ∃ b' off', some (⟨bb, off, none⟩ : Addr) = some ⟨b', off', none⟩ ∧ b' < w.heap.size ∧ ∀ k (h : k < js.length), w.cell? ⟨b', off' + k * 2, none⟩ = some (.int .i64 js[k].1) ∧ w.cell? ⟨b', off' + k * 2 + 1, none⟩ = some (.int .i64 js[k].2) := by
        rcases hB with rfl | h
        · simp at hk; omega
        · exact h
      injection e' with e'; injection e' with e1 e2 _; subst e1; subst e2
      have h3 : wr.cell? ⟨bb, off + (k - 1) * 2, none⟩ = some (.int .i64 (js[k - 1]'(by omega)).1) := (bcell hb (by omega)).trans ((bcell h0 hbw).trans (hcell (k - 1) (by omega)).1)
      have hpl : place js a k = if a < (js[k - 1]'(by omega)).1 then place js a (k - 1) else k := by
        obtain ⟨m, rfl⟩ : ∃ m, k = m + 1 := ⟨k - 1, by omega⟩
        rw [place, List.getD_eq_getElem?_getD, List.getElem?_eq_getElem (by omega)]; rfl
      have HPL := Lib.hid hpl; clear hpl
      have i0 : (0 : Int) ≤ (k : Int) - 1 := by omega
      have i4 : (1 : Int) ≤ (k : Int) := by omega
      have hBr : bb < wr.heap.size := by omega
      have i1 : (k : Int) - 1 < (js.length : Int) := by omega
      have i2 : ((k : Int) - 1).toNat = k - 1 := by omega
      have i3 : IntKind.i64.wrap ((k : Int) - 1) = (k : Int) - 1 := IntWalk.i64_in _ (by omega)
      clear hcell hB
      go_wp2_with fail
      go_quiet (fail)
      clear i2
      go_wp2
      · have h5 : a < (js[k - 1]'(by omega)).1 := by assumption
        go_roundw
        case rel => exact ⟨k - 1, by omega, by congr 1; omega, drewB hb _, by rw [HP.out, HPL.out, if_pos h5]⟩
        case measure => simp [intOf]; omega
      · have h5 : ¬ a < (js[k - 1]'(by omega)).1 := Int.not_lt.2 (by assumption)
        have hp : place js a js.length = k := by rw [HP.out, HPL.out, if_neg h5]
        have hb0 := hb
        clear hb hg h3 HPL HP q1 q2
        have hpl : k ≤ js.length := by omega
        have HP2 := Lib.hid hp; clear hp
        have HNN := Lib.hid (show 0 + k + 1 + (js.length - k) = js.length + 1 by omega)
        have pz1 : (0 : Int) ≤ (k : Int) := by omega
        have pz2 : (k : Int) ≤ (c : Int) := by omega
        have pz3 : (k : Int) ≤ (js.length : Int) := by omega
        go_wp2_with fail
        refine wp_region_held_drew (S := (fun w' => Below (w.heap.size + 3) W0 w' ∧ (∀ i, w'.cell? ⟨w.heap.size, i, none⟩ = #[.int .i64 s, .int .i64 f, .int .i64 o, .slice (some ⟨bb, off, none⟩) js.length c][i]?) ∧ (∀ i, w'.cell? ⟨w.heap.size + 1, i, none⟩ = #[.int .i64 a, .int .i64 b][i]?))) (by kernel_rfl) (HSO.out (w.heap.size + 3) (by omega) _ (drewB hb0 _).drew) (fun hS => ?_)
        refine wpAnyH_take (i := 1) (oi := ⟨some 27, _, _, _, _, _⟩) (v := ?va1) rfl (by kernel_rfl) (by kernel_rfl) (by kernel_rfl) (fun _ _ _ h => h) (Or.inl ⟨by rfl, ?ha1⟩) hS ?ra1
        case ha1 => (intro w' hSw; (try dsimp only at hSw); go_simp; (try with_reducible rfl))
        try simp only [Act.put, List.setIfInBounds_toArray, List.set_cons_zero, List.set_cons_succ]
        refine wpAnyH_take (i := 2) (oi := ⟨some 28, _, _, _, _, _⟩) (v := ?va2) rfl (by kernel_rfl) (by kernel_rfl) (by kernel_rfl) (fun _ _ _ h => h) (Or.inl ⟨by rfl, ?ha2⟩) hS ?ra2
        case ha2 => (intro w' hSw; (try dsimp only at hSw); go_simp; (try with_reducible rfl))
        try simp only [Act.put, List.setIfInBounds_toArray, List.set_cons_zero, List.set_cons_succ]
        refine wpAnyH_take (i := 3) (oi := ⟨some 29, _, _, _, _, _⟩) (v := ?va3) rfl (by kernel_rfl) (by kernel_rfl) (by kernel_rfl) (fun _ _ _ h => h) (Or.inl ⟨by rfl, ?ha3⟩) hS ?ra3
        case ha3 => (intro w' hSw; (try dsimp only at hSw); go_simp; (try with_reducible rfl))
        try simp only [Act.put, List.setIfInBounds_toArray, List.set_cons_zero, List.set_cons_succ]
        refine wpAnyH_take (i := 4) (oi := ⟨some 30, _, _, _, _, _⟩) (v := ?va4) rfl (by kernel_rfl) (by kernel_rfl) (by kernel_rfl) (fun _ _ _ h => h) (Or.inl ⟨by rfl, ?ha4⟩) hS ?ra4
        case ha4 => (intro w' hSw; (try dsimp only at hSw); go_simp; (try with_reducible rfl))
        try simp only [Act.put, List.setIfInBounds_toArray, List.set_cons_zero, List.set_cons_succ]
        refine wpAnyH_take (i := 6) (oi := ⟨some 32, _, _, _, _, _⟩) (v := ?va5) rfl (by kernel_rfl) (by kernel_rfl) (by kernel_rfl) (fun _ _ _ h => h) (Or.inl ⟨by rfl, ?ha5⟩) hS ?ra5
        case ha5 => (intro w' hSw; (try dsimp only at hSw); go_simp; (try with_reducible rfl))
        try simp only [Act.put, List.setIfInBounds_toArray, List.set_cons_zero, List.set_cons_succ]
        refine wpAnyH_ready (rs := [0, 7]) (by kernel_rfl) (by simp) ?_
        refine AllReadyH.cons (o := ⟨some 26, _, _, _, _, _⟩) rfl (fun K' hK' => ?_) (AllReadyH.cons (o := ⟨some 33, _, _, _, _, _⟩) rfl (fun K' hK' => ?_) AllReadyH.nil)
        focus
          go_simp
          have hb := (by first | exact hb | exact hS.1 : Below (w.heap.size + 3) W0 _)
          have hN := hb.size
          have o26 := own_made0 hb (Nat.le_trans (Nat.le_of_eq z0.symm) hb.size) 38
          (try replace e33 := fun g hg => (e33 g hg).alloc (.cells #[] 38))
          replace hb := hb.alloc (Nat.le_trans (Nat.le_of_eq z0.symm) hb.size) (.cells #[] 38)
          refine hK'.out _ _ (HSO.out (w.heap.size + 3) (by omega) _ hb) (fun _ => ?_)
          clear hK' K'
          try simp only [Act.put, List.setIfInBounds_toArray, List.set_cons_zero, List.set_cons_succ]
          refine wpAnyH_ready (rs := [5, 7]) (by kernel_rfl) (by simp) ?_
          refine AllReadyH.cons (o := ⟨some 31, _, _, _, _, _⟩) rfl (fun K' hK' => ?_) (AllReadyH.cons (o := ⟨some 33, _, _, _, _, _⟩) rfl (fun K' hK' => ?_) AllReadyH.nil)
          focus
            rw [if_pos (wanted_plain rfl)]
            have hN := hb.size
            refine wp_append_own _ _ _ 28 rfl (w.heap.size + 3) 38 ti (.agg #[.int .i64 0, .int .i64 0]) 2 16 Try.underlying28 hi hz0 hz1 hz2 rfl (by decide) _ _ _ rfl (o26 _ (by simp)) ⟨bb, off, none⟩ k c (flatJ (js.take k)) rfl (by rw [flatJ_len, List.length_take]; omega) (jumps_front (HCL.out _ hb) k) (flat_one _) (by unfold maxLen; omega) (by omega) (Nat.le_trans (Nat.le_of_eq z0.symm) hb.size) ?_
            intro v31 w31 o31 hg31 _
            have hg31' : World.grownBy _ w31 (some _) := hg31
            (try replace e33 := fun g hg => (e33 g hg).grown hg31' (by rw [hg]; simp))
            replace hb := hb.grown hg31 (Nat.le_trans (Nat.le_of_eq z0.symm) hb.size) (fun g hg => own_from (o26 _ (by simp)) g hg)
            clear o26
            refine hK'.out _ _ (HSO.out (w.heap.size + 3) (by omega) _ hb) (fun _ => ?_)
            clear hK' K'
            try simp only [Act.put, List.setIfInBounds_toArray, List.set_cons_zero, List.set_cons_succ]
            refine wpAnyH_ready (rs := [7]) (by kernel_rfl) (by simp) ?_
            refine AllReadyH.cons (o := ⟨some 33, _, _, _, _, _⟩) rfl (fun K' hK' => ?_) AllReadyH.nil
            go_simp
            have hb := (by first | exact hb | exact hS.1 : Below (w.heap.size + 3) W0 _)
            have hN := hb.size
            have e33 := One2.made hb 38 a b
            (try replace o26 := fun g hg => (o26 g hg).alloc (.cells #[.int .i64 a, .int .i64 b] 38))
            (try replace o31 := o31.alloc (.cells #[.int .i64 a, .int .i64 b] 38))
            replace hb := hb.alloc (Nat.le_trans (Nat.le_of_eq z0.symm) hb.size) (.cells #[.int .i64 a, .int .i64 b] 38)
            refine hK'.out _ _ (HSO.out (w.heap.size + 3) (by omega) _ hb) (fun _ => ?_)
            clear hK' K'
            try simp only [Act.put, List.setIfInBounds_toArray, List.set_cons_zero, List.set_cons_succ]
            refine wpAnyH_ready (rs := [8]) (by kernel_rfl) (by simp) ?_
            refine AllReadyH.cons (o := ⟨some 34, _, _, _, _, _⟩) rfl (fun K' hK' => ?_) AllReadyH.nil
            rw [if_pos (wanted_plain rfl)]
            have hN := hb.size
            refine wp_append_own _ _ _ 28 rfl (w.heap.size + 3) 38 ti (.agg #[.int .i64 0, .int .i64 0]) 2 16 Try.underlying28 hi hz0 hz1 hz2 rfl (by decide) _ _ _ rfl o31 ⟨_, 0, none⟩ 1 1 [.int .i64 a, .int .i64 b] rfl rfl (e33 _ (by simp)).cells (two_int _ _) (by unfold maxLen; omega) (by omega) (Nat.le_trans (Nat.le_of_eq z0.symm) hb.size) ?_
            intro v34 w34 o34 hg34 _
            replace hb := hb.grown hg34 (Nat.le_trans (Nat.le_of_eq z0.symm) hb.size) (fun g hg => own_from o31 g hg)
            clear o31 e33
            refine hK'.out _ _ (HSO.out (w.heap.size + 3) (by omega) _ hb) (fun _ => ?_)
            clear hK' K'
            try simp only [Act.put, List.setIfInBounds_toArray, List.set_cons_zero, List.set_cons_succ]
            refine wpAnyH_ready (rs := [9]) (by kernel_rfl) (by simp) ?_
            refine AllReadyH.cons (o := ⟨some 6, _, _, _, _, _⟩) rfl (fun K' hK' => ?_) AllReadyH.nil
            go_simp
            refine hK'.out _ _ (HSO.out (w.heap.size + 3) (by omega) _ hb) (fun _ => ?_)
            clear hK' K'
            try simp only [Act.put, List.setIfInBounds_toArray, List.set_cons_zero, List.set_cons_succ]
            refine wpAnyH_done (by kernel_rfl) ?_ _
          rotate_left 1
          focus
            go_simp
            have hb := (by first | exact hb | exact hS.1 : Below (w.heap.size + 3) W0 _)
            have hN := hb.size
            have e33 := One2.made hb 38 a b
            (try replace o26 := fun g hg => (o26 g hg).alloc (.cells #[.int .i64 a, .int .i64 b] 38))
            (try replace o31 := o31.alloc (.cells #[.int .i64 a, .int .i64 b] 38))
            replace hb := hb.alloc (Nat.le_trans (Nat.le_of_eq z0.symm) hb.size) (.cells #[.int .i64 a, .int .i64 b] 38)
            refine hK'.out _ _ (HSO.out (w.heap.size + 3) (by omega) _ hb) (fun _ => ?_)
            clear hK' K'
            try simp only [Act.put, List.setIfInBounds_toArray, List.set_cons_zero, List.set_cons_succ]
            refine wpAnyH_ready (rs := [5]) (by kernel_rfl) (by simp) ?_
            refine AllReadyH.cons (o := ⟨some 31, _, _, _, _, _⟩) rfl (fun K' hK' => ?_) AllReadyH.nil
            rw [if_pos (wanted_plain rfl)]
            have hN := hb.size
            refine wp_append_own _ _ _ 28 rfl (w.heap.size + 3) 38 ti (.agg #[.int .i64 0, .int .i64 0]) 2 16 Try.underlying28 hi hz0 hz1 hz2 rfl (by decide) _ _ _ rfl (o26 _ (by simp)) ⟨bb, off, none⟩ k c (flatJ (js.take k)) rfl (by rw [flatJ_len, List.length_take]; omega) (jumps_front (HCL.out _ hb) k) (flat_one _) (by unfold maxLen; omega) (by omega) (Nat.le_trans (Nat.le_of_eq z0.symm) hb.size) ?_
            intro v31 w31 o31 hg31 _
            have hg31' : World.grownBy _ w31 (some _) := hg31
            (try replace e33 := fun g hg => (e33 g hg).grown hg31' (by rw [hg]; simp))
            replace hb := hb.grown hg31 (Nat.le_trans (Nat.le_of_eq z0.symm) hb.size) (fun g hg => own_from (o26 _ (by simp)) g hg)
            clear o26
            refine hK'.out _ _ (HSO.out (w.heap.size + 3) (by omega) _ hb) (fun _ => ?_)
            clear hK' K'
            try simp only [Act.put, List.setIfInBounds_toArray, List.set_cons_zero, List.set_cons_succ]
            refine wpAnyH_ready (rs := [8]) (by kernel_rfl) (by simp) ?_
            refine AllReadyH.cons (o := ⟨some 34, _, _, _, _, _⟩) rfl (fun K' hK' => ?_) AllReadyH.nil
            rw [if_pos (wanted_plain rfl)]
            have hN := hb.size
            refine wp_append_own _ _ _ 28 rfl (w.heap.size + 3) 38 ti (.agg #[.int .i64 0, .int .i64 0]) 2 16 Try.underlying28 hi hz0 hz1 hz2 rfl (by decide) _ _ _ rfl o31 ⟨_, 0, none⟩ 1 1 [.int .i64 a, .int .i64 b] rfl rfl (e33 _ (by simp)).cells (two_int _ _) (by unfold maxLen; omega) (by omega) (Nat.le_trans (Nat.le_of_eq z0.symm) hb.size) ?_
            intro v34 w34 o34 hg34 _
            replace hb := hb.grown hg34 (Nat.le_trans (Nat.le_of_eq z0.symm) hb.size) (fun g hg => own_from o31 g hg)
            clear o31 e33
            refine hK'.out _ _ (HSO.out (w.heap.size + 3) (by omega) _ hb) (fun _ => ?_)
            clear hK' K'
            try simp only [Act.put, List.setIfInBounds_toArray, List.set_cons_zero, List.set_cons_succ]
            refine wpAnyH_ready (rs := [9]) (by kernel_rfl) (by simp) ?_
            refine AllReadyH.cons (o := ⟨some 6, _, _, _, _, _⟩) rfl (fun K' hK' => ?_) AllReadyH.nil
            go_simp
            refine hK'.out _ _ (HSO.out (w.heap.size + 3) (by omega) _ hb) (fun _ => ?_)
            clear hK' K'
            try simp only [Act.put, List.setIfInBounds_toArray, List.set_cons_zero, List.set_cons_succ]
            refine wpAnyH_done (by kernel_rfl) ?_ _
          rotate_left 1
        rotate_left 2
        focus
          go_simp
          have hb := (by first | exact hb | exact hS.1 : Below (w.heap.size + 3) W0 _)
          have hN := hb.size
          have e33 := One2.made hb 38 a b
          (try replace o26 := fun g hg => (o26 g hg).alloc (.cells #[.int .i64 a, .int .i64 b] 38))
          (try replace o31 := o31.alloc (.cells #[.int .i64 a, .int .i64 b] 38))
          replace hb := hb.alloc (Nat.le_trans (Nat.le_of_eq z0.symm) hb.size) (.cells #[.int .i64 a, .int .i64 b] 38)
          refine hK'.out _ _ (HSO.out (w.heap.size + 3) (by omega) _ hb) (fun _ => ?_)
          clear hK' K'
          try simp only [Act.put, List.setIfInBounds_toArray, List.set_cons_zero, List.set_cons_succ]
          refine wpAnyH_ready (rs := [0]) (by kernel_rfl) (by simp) ?_
          refine AllReadyH.cons (o := ⟨some 26, _, _, _, _, _⟩) rfl (fun K' hK' => ?_) AllReadyH.nil
          go_simp
          have hb := (by first | exact hb | exact hS.1 : Below (w.heap.size + 3) W0 _)
          have hN := hb.size
          have o26 := own_made0 hb (Nat.le_trans (Nat.le_of_eq z0.symm) hb.size) 38
          (try replace e33 := fun g hg => (e33 g hg).alloc (.cells #[] 38))
          replace hb := hb.alloc (Nat.le_trans (Nat.le_of_eq z0.symm) hb.size) (.cells #[] 38)
          refine hK'.out _ _ (HSO.out (w.heap.size + 3) (by omega) _ hb) (fun _ => ?_)
          clear hK' K'
          try simp only [Act.put, List.setIfInBounds_toArray, List.set_cons_zero, List.set_cons_succ]
          refine wpAnyH_ready (rs := [5]) (by kernel_rfl) (by simp) ?_
          refine AllReadyH.cons (o := ⟨some 31, _, _, _, _, _⟩) rfl (fun K' hK' => ?_) AllReadyH.nil
          rw [if_pos (wanted_plain rfl)]
          have hN := hb.size
          refine wp_append_own _ _ _ 28 rfl (w.heap.size + 3) 38 ti (.agg #[.int .i64 0, .int .i64 0]) 2 16 Try.underlying28 hi hz0 hz1 hz2 rfl (by decide) _ _ _ rfl (o26 _ (by simp)) ⟨bb, off, none⟩ k c (flatJ (js.take k)) rfl (by rw [flatJ_len, List.length_take]; omega) (jumps_front (HCL.out _ hb) k) (flat_one _) (by unfold maxLen; omega) (by omega) (Nat.le_trans (Nat.le_of_eq z0.symm) hb.size) ?_
          intro v31 w31 o31 hg31 _
          have hg31' : World.grownBy _ w31 (some _) := hg31
          (try replace e33 := fun g hg => (e33 g hg).grown hg31' (by rw [hg]; simp))
          replace hb := hb.grown hg31 (Nat.le_trans (Nat.le_of_eq z0.symm) hb.size) (fun g hg => own_from (o26 _ (by simp)) g hg)
          clear o26
          refine hK'.out _ _ (HSO.out (w.heap.size + 3) (by omega) _ hb) (fun _ => ?_)
          clear hK' K'
          try simp only [Act.put, List.setIfInBounds_toArray, List.set_cons_zero, List.set_cons_succ]
          refine wpAnyH_ready (rs := [8]) (by kernel_rfl) (by simp) ?_
          refine AllReadyH.cons (o := ⟨some 34, _, _, _, _, _⟩) rfl (fun K' hK' => ?_) AllReadyH.nil
          rw [if_pos (wanted_plain rfl)]
          have hN := hb.size
          refine wp_append_own _ _ _ 28 rfl (w.heap.size + 3) 38 ti (.agg #[.int .i64 0, .int .i64 0]) 2 16 Try.underlying28 hi hz0 hz1 hz2 rfl (by decide) _ _ _ rfl o31 ⟨_, 0, none⟩ 1 1 [.int .i64 a, .int .i64 b] rfl rfl (e33 _ (by simp)).cells (two_int _ _) (by unfold maxLen; omega) (by omega) (Nat.le_trans (Nat.le_of_eq z0.symm) hb.size) ?_
          intro v34 w34 o34 hg34 _
          replace hb := hb.grown hg34 (Nat.le_trans (Nat.le_of_eq z0.symm) hb.size) (fun g hg => own_from o31 g hg)
          clear o31 e33
          refine hK'.out _ _ (HSO.out (w.heap.size + 3) (by omega) _ hb) (fun _ => ?_)
          clear hK' K'
          try simp only [Act.put, List.setIfInBounds_toArray, List.set_cons_zero, List.set_cons_succ]
          refine wpAnyH_ready (rs := [9]) (by kernel_rfl) (by simp) ?_
          refine AllReadyH.cons (o := ⟨some 6, _, _, _, _, _⟩) rfl (fun K' hK' => ?_) AllReadyH.nil
          go_simp
          refine hK'.out _ _ (HSO.out (w.heap.size + 3) (by omega) _ hb) (fun _ => ?_)
          clear hK' K'
          try simp only [Act.put, List.setIfInBounds_toArray, List.set_cons_zero, List.set_cons_succ]
          refine wpAnyH_done (by kernel_rfl) ?_ _
        rotate_left 1
        · go_wp2_with fail
          have hbd := hb.drew
          have o34d : World.ownsRow w34.drew (w.heap.size + 3) 38 2 v34 _ _ := o34
          refine wp_region_held_drew (S := (fun w' => Below (w.heap.size + 2) W0 w' ∧ (∀ i, w'.cell? ⟨w.heap.size, i, none⟩ = #[.int .i64 s, .int .i64 f, .int .i64 o, .slice (some ⟨bb, off, none⟩) js.length c][i]?) ∧ (∀ i, w'.cell? ⟨w.heap.size + 1, i, none⟩ = #[.int .i64 a, .int .i64 b][i]?))) (by kernel_rfl) (HSO.out (w.heap.size + 2) (by omega) _ (hbd.mono (by omega))) (fun hS => ?_)
          refine wpAnyH_take (i := 0) (oi := ⟨some 35, _, _, _, _, _⟩) (v := ?vb1) rfl (by kernel_rfl) (by kernel_rfl) (by kernel_rfl) (fun _ _ _ h => h) (Or.inl ⟨by rfl, ?hb1⟩) hS ?rb1
          case hb1 => (intro w' hSw; (try dsimp only at hSw); go_simp; (try with_reducible rfl))
          try simp only [Act.put, List.setIfInBounds_toArray, List.set_cons_zero, List.set_cons_succ]
          refine wpAnyH_take (i := 1) (oi := ⟨some 36, _, _, _, _, _⟩) (v := ?vb2) rfl (by kernel_rfl) (by kernel_rfl) (by kernel_rfl) (fun _ _ _ h => h) (Or.inl ⟨by rfl, ?hb2⟩) hS ?rb2
          case hb2 => (intro w' hSw; (try dsimp only at hSw); go_simp; (try with_reducible rfl))
          try simp only [Act.put, List.setIfInBounds_toArray, List.set_cons_zero, List.set_cons_succ]
          refine wpAnyH_take (i := 2) (oi := ⟨some 37, _, _, _, _, _⟩) (v := ?vb3) rfl (by kernel_rfl) (by kernel_rfl) (by kernel_rfl) (fun _ _ _ h => h) (Or.inl ⟨by rfl, ?hb3⟩) hS ?rb3
          case hb3 => (intro w' hSw; (try dsimp only at hSw); go_simp; (try with_reducible rfl))
          try simp only [Act.put, List.setIfInBounds_toArray, List.set_cons_zero, List.set_cons_succ]
          refine wpAnyH_take (i := 3) (oi := ⟨some 38, _, _, _, _, _⟩) (v := ?vb4) rfl (by kernel_rfl) (by kernel_rfl) (by kernel_rfl) (fun _ _ _ h => h) (Or.inl ⟨by rfl, ?hb4⟩) hS ?rb4
          case hb4 => (intro w' hSw; (try dsimp only at hSw); go_simp; (try with_reducible rfl))
          try simp only [Act.put, List.setIfInBounds_toArray, List.set_cons_zero, List.set_cons_succ]
          refine wpAnyH_take (i := 4) (oi := ⟨some 39, _, _, _, _, _⟩) (v := ?vb5) rfl (by kernel_rfl) (by kernel_rfl) (by kernel_rfl) (fun _ _ _ h => h) (Or.inl ⟨by rfl, ?hb5⟩) hS ?rb5
          case hb5 => (intro w' hSw; (try dsimp only at hSw); go_simp; (try with_reducible rfl))
          try simp only [Act.put, List.setIfInBounds_toArray, List.set_cons_zero, List.set_cons_succ]
          refine wpAnyH_take (i := 5) (oi := ⟨some 40, _, _, _, _, _⟩) (v := ?vb6) rfl (by kernel_rfl) (by kernel_rfl) (by kernel_rfl) (fun _ _ _ h => h) (Or.inl ⟨by rfl, ?hb6⟩) hS ?rb6
          case hb6 => (intro w' hSw; (try dsimp only at hSw); go_simp; (try with_reducible rfl))
          try simp only [Act.put, List.setIfInBounds_toArray, List.set_cons_zero, List.set_cons_succ]
          refine wpAnyH_take (i := 6) (oi := ⟨some 41, _, _, _, _, _⟩) (v := ?vb7) rfl (by kernel_rfl) (by kernel_rfl) (by kernel_rfl) (fun _ _ _ h => h) (Or.inl ⟨by rfl, ?hb7⟩) hS ?rb7
          case hb7 => (intro w' hSw; (try dsimp only at hSw); go_simp; (try with_reducible rfl))
          try simp only [Act.put, List.setIfInBounds_toArray, List.set_cons_zero, List.set_cons_succ]
          refine wpAnyH_take (i := 7) (oi := ⟨some 42, _, _, _, _, _⟩) (v := ?vb8) rfl (by kernel_rfl) (by kernel_rfl) (by kernel_rfl) (fun _ _ _ h => h) (Or.inl ⟨by rfl, ?hb8⟩) hS ?rb8
          case hb8 => (intro w' hSw; (try dsimp only at hSw); go_simp; (try with_reducible rfl))
          try simp only [Act.put, List.setIfInBounds_toArray, List.set_cons_zero, List.set_cons_succ]
          refine wpAnyH_take (i := 8) (oi := ⟨some 43, _, _, _, _, _⟩) (v := ?vb9) rfl (by kernel_rfl) (by kernel_rfl) (by kernel_rfl) (fun _ _ _ h => h) (Or.inl ⟨by rfl, ?hb9⟩) hS ?rb9
          case hb9 => (intro w' hSw; (try dsimp only at hSw); go_simp; (try with_reducible rfl))
          try simp only [Act.put, List.setIfInBounds_toArray, List.set_cons_zero, List.set_cons_succ]
          refine wpAnyH_take (i := 9) (oi := ⟨some 44, _, _, _, _, _⟩) (v := ?vb10) rfl (by kernel_rfl) (by kernel_rfl) (by kernel_rfl) (fun _ _ _ h => h) (Or.inl ⟨by rfl, ?hb10⟩) hS ?rb10
          case hb10 => (intro w' hSw; (try dsimp only at hSw); go_simp; (try with_reducible rfl))
          try simp only [Act.put, List.setIfInBounds_toArray, List.set_cons_zero, List.set_cons_succ]
          refine wpAnyH_take (i := 10) (oi := ⟨some 45, _, _, _, _, _⟩) (v := ?vb11) rfl (by kernel_rfl) (by kernel_rfl) (by kernel_rfl) (fun _ _ _ h => h) (Or.inl ⟨by rfl, ?hb11⟩) hS ?rb11
          case hb11 => (intro w' hSw; (try dsimp only at hSw); go_simp; (try with_reducible rfl))
          try simp only [Act.put, List.setIfInBounds_toArray, List.set_cons_zero, List.set_cons_succ]
          refine wpAnyH_ready (rs := [11]) (by kernel_rfl) (by simp) ?_
          refine AllReadyH.cons (o := ⟨some 46, _, _, _, _, _⟩) rfl (fun K' hK' => ?_) AllReadyH.nil
          rw [if_pos (wanted_plain rfl)]
          refine wp_append_own _ _ _ 28 rfl (w.heap.size + 3) 38 ti (.agg #[.int .i64 0, .int .i64 0]) 2 16 Try.underlying28 hi hz0 hz1 hz2 rfl (by decide) _ _ _ rfl o34d ⟨bb, if c = k then off else off + k * 2, none⟩ (js.length - k) (c - k) (flatJ (js.drop k)) (slice_ite c k bb off (off + k * 2) (js.length - k) (c - k)) (by rw [flatJ_len, List.length_drop]) (jumps_behind (HCL.out _ hbd) k c hpl hc) (flat_one _) (by unfold maxLen; omega) (by omega) (Nat.le_trans (Nat.le_of_eq z0.symm) hbd.size) ?_
          intro v46 w46 o46 hg46 _
          rw [put_flat js a b k HP2.out, HNN.out] at o46
          obtain ⟨A46, c46, rfl⟩ := own_sl o46
          have hb3 := hbd.grown hg46 (Nat.le_trans (Nat.le_of_eq z0.symm) hbd.size) (fun g hg => own_from o34d g hg)
          have k4 := (hb3.block (w.heap.size + 2) (by omega)).trans k3
          have q3 : ∀ i, w46.cell? ⟨w.heap.size + 1 + 1, i, none⟩ = #[.int .i64 0, .int .i64 0, .int .i64 0, .slice none 0 0][i]? := fun i => cell_of_row w46 (w.heap.size + 2) i _ _ _ k4
          have f3 : ∀ i, w46.frozen? ⟨w.heap.size + 1 + 1, i, none⟩ = false := fun i => frozen_row (i := i) k4
          refine hK'.out _ _ (HSO.out (w.heap.size + 2) (by omega) _ (hb3.mono (by omega))) (fun _ => ?_)
          clear hK' K'
          try simp only [Act.put, List.setIfInBounds_toArray, List.set_cons_zero, List.set_cons_succ]
          refine wpAnyH_take (i := 12) (oi := ⟨some 47, _, _, _, _, _⟩) (v := ?vb12) rfl (by kernel_rfl) (by kernel_rfl) (by kernel_rfl) (fun _ _ _ h => h) (Or.inl ⟨by rfl, ?hb12⟩) (HSO.out (w.heap.size + 2) (by omega) _ (hb3.mono (by omega))) ?rb12
          case hb12 => (intro w' hSw; (try dsimp only at hSw); go_simp; (try with_reducible rfl))
          try simp only [Act.put, List.setIfInBounds_toArray, List.set_cons_zero, List.set_cons_succ]
          refine wpAnyH_ready (rs := [13]) (by kernel_rfl) (by simp) ?_
          refine AllReadyH.cons (o := ⟨none, _, _, _, _, _⟩) rfl (fun K' hK' => ?_) AllReadyH.nil
          go_simp
          have hb4 := ((((hb3.mono (show w.heap.size + 2 ≤ w.heap.size + 3 by omega)).setCell (p := ⟨w.heap.size + 1 + 1, 0, none⟩) (by dsimp only; omega) (.int .i64 s)).setCell (p := ⟨w.heap.size + 1 + 1, 1, none⟩) (by dsimp only; omega) (.int .i64 f)).setCell (p := ⟨w.heap.size + 1 + 1, 2, none⟩) (by dsimp only; omega) (.int .i64 o)).setCell (p := ⟨w.heap.size + 1 + 1, 3, none⟩) (by dsimp only; omega) (.slice A46 (js.length + 1) c46)
          refine hK'.out _ _ (HSO.out (w.heap.size + 2) (by omega) _ hb4) (fun _ => ?_)
          clear hK' K'
          try simp only [Act.put, List.setIfInBounds_toArray, List.set_cons_zero, List.set_cons_succ]
          refine wpAnyH_done (by kernel_rfl) ?_ _
          go_wp2_with fail
          all_goals
            refine bodyPost_ret (v := .agg #[.int .i64 s, .int .i64 f, .int .i64 o, .slice A46 (js.length + 1) c46]) (by simp [results, Try.results38, go_sem, q3]) rfl ?_
            refine ⟨_, rfl, ?_, h0.trans (hb4.mono (by omega))⟩
            exact own_base ((((ownsRow_setCell_below (a := ⟨w.heap.size + 1 + 1, 3, none⟩) (ownsRow_setCell_below (a := ⟨w.heap.size + 1 + 1, 2, none⟩) (ownsRow_setCell_below (a := ⟨w.heap.size + 1 + 1, 1, none⟩) (ownsRow_setCell_below (a := ⟨w.heap.size + 1 + 1, 0, none⟩) o46 (by dsimp only; omega) _) (by dsimp only; omega) _) (by dsimp only; omega) _) (by dsimp only; omega) _)))) (by omega)
        · go_wp2_with fail
          have hbd := hb.drew
          have o34d : World.ownsRow w34.drew (w.heap.size + 3) 38 2 v34 _ _ := o34
          refine wp_region_held_drew (S := (fun w' => Below (w.heap.size + 2) W0 w' ∧ (∀ i, w'.cell? ⟨w.heap.size, i, none⟩ = #[.int .i64 s, .int .i64 f, .int .i64 o, .slice (some ⟨bb, off, none⟩) js.length c][i]?) ∧ (∀ i, w'.cell? ⟨w.heap.size + 1, i, none⟩ = #[.int .i64 a, .int .i64 b][i]?))) (by kernel_rfl) (HSO.out (w.heap.size + 2) (by omega) _ (hbd.mono (by omega))) (fun hS => ?_)
          refine wpAnyH_take (i := 0) (oi := ⟨some 35, _, _, _, _, _⟩) (v := ?vc1) rfl (by kernel_rfl) (by kernel_rfl) (by kernel_rfl) (fun _ _ _ h => h) (Or.inl ⟨by rfl, ?hc1⟩) hS ?rc1
          case hc1 => (intro w' hSw; (try dsimp only at hSw); go_simp; (try with_reducible rfl))
          try simp only [Act.put, List.setIfInBounds_toArray, List.set_cons_zero, List.set_cons_succ]
          refine wpAnyH_take (i := 1) (oi := ⟨some 36, _, _, _, _, _⟩) (v := ?vc2) rfl (by kernel_rfl) (by kernel_rfl) (by kernel_rfl) (fun _ _ _ h => h) (Or.inl ⟨by rfl, ?hc2⟩) hS ?rc2
          case hc2 => (intro w' hSw; (try dsimp only at hSw); go_simp; (try with_reducible rfl))
          try simp only [Act.put, List.setIfInBounds_toArray, List.set_cons_zero, List.set_cons_succ]
          refine wpAnyH_take (i := 2) (oi := ⟨some 37, _, _, _, _, _⟩) (v := ?vc3) rfl (by kernel_rfl) (by kernel_rfl) (by kernel_rfl) (fun _ _ _ h => h) (Or.inl ⟨by rfl, ?hc3⟩) hS ?rc3
          case hc3 => (intro w' hSw; (try dsimp only at hSw); go_simp; (try with_reducible rfl))
          try simp only [Act.put, List.setIfInBounds_toArray, List.set_cons_zero, List.set_cons_succ]
          refine wpAnyH_take (i := 3) (oi := ⟨some 38, _, _, _, _, _⟩) (v := ?vc4) rfl (by kernel_rfl) (by kernel_rfl) (by kernel_rfl) (fun _ _ _ h => h) (Or.inl ⟨by rfl, ?hc4⟩) hS ?rc4
          case hc4 => (intro w' hSw; (try dsimp only at hSw); go_simp; (try with_reducible rfl))
          try simp only [Act.put, List.setIfInBounds_toArray, List.set_cons_zero, List.set_cons_succ]
          refine wpAnyH_take (i := 4) (oi := ⟨some 39, _, _, _, _, _⟩) (v := ?vc5) rfl (by kernel_rfl) (by kernel_rfl) (by kernel_rfl) (fun _ _ _ h => h) (Or.inl ⟨by rfl, ?hc5⟩) hS ?rc5
          case hc5 => (intro w' hSw; (try dsimp only at hSw); go_simp; (try with_reducible rfl))
          try simp only [Act.put, List.setIfInBounds_toArray, List.set_cons_zero, List.set_cons_succ]
          refine wpAnyH_take (i := 5) (oi := ⟨some 40, _, _, _, _, _⟩) (v := ?vc6) rfl (by kernel_rfl) (by kernel_rfl) (by kernel_rfl) (fun _ _ _ h => h) (Or.inl ⟨by rfl, ?hc6⟩) hS ?rc6
          case hc6 => (intro w' hSw; (try dsimp only at hSw); go_simp; (try with_reducible rfl))
          try simp only [Act.put, List.setIfInBounds_toArray, List.set_cons_zero, List.set_cons_succ]
          refine wpAnyH_take (i := 6) (oi := ⟨some 41, _, _, _, _, _⟩) (v := ?vc7) rfl (by kernel_rfl) (by kernel_rfl) (by kernel_rfl) (fun _ _ _ h => h) (Or.inl ⟨by rfl, ?hc7⟩) hS ?rc7
          case hc7 => (intro w' hSw; (try dsimp only at hSw); go_simp; (try with_reducible rfl))
          try simp only [Act.put, List.setIfInBounds_toArray, List.set_cons_zero, List.set_cons_succ]
          refine wpAnyH_take (i := 7) (oi := ⟨some 42, _, _, _, _, _⟩) (v := ?vc8) rfl (by kernel_rfl) (by kernel_rfl) (by kernel_rfl) (fun _ _ _ h => h) (Or.inl ⟨by rfl, ?hc8⟩) hS ?rc8
          case hc8 => (intro w' hSw; (try dsimp only at hSw); go_simp; (try with_reducible rfl))
          try simp only [Act.put, List.setIfInBounds_toArray, List.set_cons_zero, List.set_cons_succ]
          refine wpAnyH_take (i := 8) (oi := ⟨some 43, _, _, _, _, _⟩) (v := ?vc9) rfl (by kernel_rfl) (by kernel_rfl) (by kernel_rfl) (fun _ _ _ h => h) (Or.inl ⟨by rfl, ?hc9⟩) hS ?rc9
          case hc9 => (intro w' hSw; (try dsimp only at hSw); go_simp; (try with_reducible rfl))
          try simp only [Act.put, List.setIfInBounds_toArray, List.set_cons_zero, List.set_cons_succ]
          refine wpAnyH_take (i := 9) (oi := ⟨some 44, _, _, _, _, _⟩) (v := ?vc10) rfl (by kernel_rfl) (by kernel_rfl) (by kernel_rfl) (fun _ _ _ h => h) (Or.inl ⟨by rfl, ?hc10⟩) hS ?rc10
          case hc10 => (intro w' hSw; (try dsimp only at hSw); go_simp; (try with_reducible rfl))
          try simp only [Act.put, List.setIfInBounds_toArray, List.set_cons_zero, List.set_cons_succ]
          refine wpAnyH_take (i := 10) (oi := ⟨some 45, _, _, _, _, _⟩) (v := ?vc11) rfl (by kernel_rfl) (by kernel_rfl) (by kernel_rfl) (fun _ _ _ h => h) (Or.inl ⟨by rfl, ?hc11⟩) hS ?rc11
          case hc11 => (intro w' hSw; (try dsimp only at hSw); go_simp; (try with_reducible rfl))
          try simp only [Act.put, List.setIfInBounds_toArray, List.set_cons_zero, List.set_cons_succ]
          refine wpAnyH_ready (rs := [11]) (by kernel_rfl) (by simp) ?_
          refine AllReadyH.cons (o := ⟨some 46, _, _, _, _, _⟩) rfl (fun K' hK' => ?_) AllReadyH.nil
          rw [if_pos (wanted_plain rfl)]
          refine wp_append_own _ _ _ 28 rfl (w.heap.size + 3) 38 ti (.agg #[.int .i64 0, .int .i64 0]) 2 16 Try.underlying28 hi hz0 hz1 hz2 rfl (by decide) _ _ _ rfl o34d ⟨bb, if c = k then off else off + k * 2, none⟩ (js.length - k) (c - k) (flatJ (js.drop k)) (slice_ite c k bb off (off + k * 2) (js.length - k) (c - k)) (by rw [flatJ_len, List.length_drop]) (jumps_behind (HCL.out _ hbd) k c hpl hc) (flat_one _) (by unfold maxLen; omega) (by omega) (Nat.le_trans (Nat.le_of_eq z0.symm) hbd.size) ?_
          intro v46 w46 o46 hg46 _
          rw [put_flat js a b k HP2.out, HNN.out] at o46
          obtain ⟨A46, c46, rfl⟩ := own_sl o46
          have hb3 := hbd.grown hg46 (Nat.le_trans (Nat.le_of_eq z0.symm) hbd.size) (fun g hg => own_from o34d g hg)
          have k4 := (hb3.block (w.heap.size + 2) (by omega)).trans k3
          have q3 : ∀ i, w46.cell? ⟨w.heap.size + 1 + 1, i, none⟩ = #[.int .i64 0, .int .i64 0, .int .i64 0, .slice none 0 0][i]? := fun i => cell_of_row w46 (w.heap.size + 2) i _ _ _ k4
          have f3 : ∀ i, w46.frozen? ⟨w.heap.size + 1 + 1, i, none⟩ = false := fun i => frozen_row (i := i) k4
          refine hK'.out _ _ (HSO.out (w.heap.size + 2) (by omega) _ (hb3.mono (by omega))) (fun _ => ?_)
          clear hK' K'
          try simp only [Act.put, List.setIfInBounds_toArray, List.set_cons_zero, List.set_cons_succ]
          refine wpAnyH_take (i := 12) (oi := ⟨some 47, _, _, _, _, _⟩) (v := ?vc12) rfl (by kernel_rfl) (by kernel_rfl) (by kernel_rfl) (fun _ _ _ h => h) (Or.inl ⟨by rfl, ?hc12⟩) (HSO.out (w.heap.size + 2) (by omega) _ (hb3.mono (by omega))) ?rc12
          case hc12 => (intro w' hSw; (try dsimp only at hSw); go_simp; (try with_reducible rfl))
          try simp only [Act.put, List.setIfInBounds_toArray, List.set_cons_zero, List.set_cons_succ]
          refine wpAnyH_ready (rs := [13]) (by kernel_rfl) (by simp) ?_
          refine AllReadyH.cons (o := ⟨none, _, _, _, _, _⟩) rfl (fun K' hK' => ?_) AllReadyH.nil
          go_simp
          have hb4 := ((((hb3.mono (show w.heap.size + 2 ≤ w.heap.size + 3 by omega)).setCell (p := ⟨w.heap.size + 1 + 1, 0, none⟩) (by dsimp only; omega) (.int .i64 s)).setCell (p := ⟨w.heap.size + 1 + 1, 1, none⟩) (by dsimp only; omega) (.int .i64 f)).setCell (p := ⟨w.heap.size + 1 + 1, 2, none⟩) (by dsimp only; omega) (.int .i64 o)).setCell (p := ⟨w.heap.size + 1 + 1, 3, none⟩) (by dsimp only; omega) (.slice A46 (js.length + 1) c46)
          refine hK'.out _ _ (HSO.out (w.heap.size + 2) (by omega) _ hb4) (fun _ => ?_)
          clear hK' K'
          try simp only [Act.put, List.setIfInBounds_toArray, List.set_cons_zero, List.set_cons_succ]
          refine wpAnyH_done (by kernel_rfl) ?_ _
          go_wp2_with fail
          all_goals
            refine bodyPost_ret (v := .agg #[.int .i64 s, .int .i64 f, .int .i64 o, .slice A46 (js.length + 1) c46]) (by simp [results, Try.results38, go_sem, q3]) rfl ?_
            refine ⟨_, rfl, ?_, h0.trans (hb4.mono (by omega))⟩
            exact own_base ((((ownsRow_setCell_below (a := ⟨w.heap.size + 1 + 1, 3, none⟩) (ownsRow_setCell_below (a := ⟨w.heap.size + 1 + 1, 2, none⟩) (ownsRow_setCell_below (a := ⟨w.heap.size + 1 + 1, 1, none⟩) (ownsRow_setCell_below (a := ⟨w.heap.size + 1 + 1, 0, none⟩) o46 (by dsimp only; omega) _) (by dsimp only; omega) _) (by dsimp only; omega) _) (by dsimp only; omega) _)))) (by omega)
        · go_wp2_with fail
          have hbd := hb.drew
          have o34d : World.ownsRow w34.drew (w.heap.size + 3) 38 2 v34 _ _ := o34
          refine wp_region_held_drew (S := (fun w' => Below (w.heap.size + 2) W0 w' ∧ (∀ i, w'.cell? ⟨w.heap.size, i, none⟩ = #[.int .i64 s, .int .i64 f, .int .i64 o, .slice (some ⟨bb, off, none⟩) js.length c][i]?) ∧ (∀ i, w'.cell? ⟨w.heap.size + 1, i, none⟩ = #[.int .i64 a, .int .i64 b][i]?))) (by kernel_rfl) (HSO.out (w.heap.size + 2) (by omega) _ (hbd.mono (by omega))) (fun hS => ?_)
          refine wpAnyH_take (i := 0) (oi := ⟨some 35, _, _, _, _, _⟩) (v := ?vd1) rfl (by kernel_rfl) (by kernel_rfl) (by kernel_rfl) (fun _ _ _ h => h) (Or.inl ⟨by rfl, ?hd1⟩) hS ?rd1
          case hd1 => (intro w' hSw; (try dsimp only at hSw); go_simp; (try with_reducible rfl))
          try simp only [Act.put, List.setIfInBounds_toArray, List.set_cons_zero, List.set_cons_succ]
          refine wpAnyH_take (i := 1) (oi := ⟨some 36, _, _, _, _, _⟩) (v := ?vd2) rfl (by kernel_rfl) (by kernel_rfl) (by kernel_rfl) (fun _ _ _ h => h) (Or.inl ⟨by rfl, ?hd2⟩) hS ?rd2
          case hd2 => (intro w' hSw; (try dsimp only at hSw); go_simp; (try with_reducible rfl))
          try simp only [Act.put, List.setIfInBounds_toArray, List.set_cons_zero, List.set_cons_succ]
          refine wpAnyH_take (i := 2) (oi := ⟨some 37, _, _, _, _, _⟩) (v := ?vd3) rfl (by kernel_rfl) (by kernel_rfl) (by kernel_rfl) (fun _ _ _ h => h) (Or.inl ⟨by rfl, ?hd3⟩) hS ?rd3
          case hd3 => (intro w' hSw; (try dsimp only at hSw); go_simp; (try with_reducible rfl))
          try simp only [Act.put, List.setIfInBounds_toArray, List.set_cons_zero, List.set_cons_succ]
          refine wpAnyH_take (i := 3) (oi := ⟨some 38, _, _, _, _, _⟩) (v := ?vd4) rfl (by kernel_rfl) (by kernel_rfl) (by kernel_rfl) (fun _ _ _ h => h) (Or.inl ⟨by rfl, ?hd4⟩) hS ?rd4
          case hd4 => (intro w' hSw; (try dsimp only at hSw); go_simp; (try with_reducible rfl))
          try simp only [Act.put, List.setIfInBounds_toArray, List.set_cons_zero, List.set_cons_succ]
          refine wpAnyH_take (i := 4) (oi := ⟨some 39, _, _, _, _, _⟩) (v := ?vd5) rfl (by kernel_rfl) (by kernel_rfl) (by kernel_rfl) (fun _ _ _ h => h) (Or.inl ⟨by rfl, ?hd5⟩) hS ?rd5
          case hd5 => (intro w' hSw; (try dsimp only at hSw); go_simp; (try with_reducible rfl))
          try simp only [Act.put, List.setIfInBounds_toArray, List.set_cons_zero, List.set_cons_succ]
          refine wpAnyH_take (i := 5) (oi := ⟨some 40, _, _, _, _, _⟩) (v := ?vd6) rfl (by kernel_rfl) (by kernel_rfl) (by kernel_rfl) (fun _ _ _ h => h) (Or.inl ⟨by rfl, ?hd6⟩) hS ?rd6
          case hd6 => (intro w' hSw; (try dsimp only at hSw); go_simp; (try with_reducible rfl))
          try simp only [Act.put, List.setIfInBounds_toArray, List.set_cons_zero, List.set_cons_succ]
          refine wpAnyH_take (i := 6) (oi := ⟨some 41, _, _, _, _, _⟩) (v := ?vd7) rfl (by kernel_rfl) (by kernel_rfl) (by kernel_rfl) (fun _ _ _ h => h) (Or.inl ⟨by rfl, ?hd7⟩) hS ?rd7
          case hd7 => (intro w' hSw; (try dsimp only at hSw); go_simp; (try with_reducible rfl))
          try simp only [Act.put, List.setIfInBounds_toArray, List.set_cons_zero, List.set_cons_succ]
          refine wpAnyH_take (i := 7) (oi := ⟨some 42, _, _, _, _, _⟩) (v := ?vd8) rfl (by kernel_rfl) (by kernel_rfl) (by kernel_rfl) (fun _ _ _ h => h) (Or.inl ⟨by rfl, ?hd8⟩) hS ?rd8
          case hd8 => (intro w' hSw; (try dsimp only at hSw); go_simp; (try with_reducible rfl))
          try simp only [Act.put, List.setIfInBounds_toArray, List.set_cons_zero, List.set_cons_succ]
          refine wpAnyH_take (i := 8) (oi := ⟨some 43, _, _, _, _, _⟩) (v := ?vd9) rfl (by kernel_rfl) (by kernel_rfl) (by kernel_rfl) (fun _ _ _ h => h) (Or.inl ⟨by rfl, ?hd9⟩) hS ?rd9
          case hd9 => (intro w' hSw; (try dsimp only at hSw); go_simp; (try with_reducible rfl))
          try simp only [Act.put, List.setIfInBounds_toArray, List.set_cons_zero, List.set_cons_succ]
          refine wpAnyH_take (i := 9) (oi := ⟨some 44, _, _, _, _, _⟩) (v := ?vd10) rfl (by kernel_rfl) (by kernel_rfl) (by kernel_rfl) (fun _ _ _ h => h) (Or.inl ⟨by rfl, ?hd10⟩) hS ?rd10
          case hd10 => (intro w' hSw; (try dsimp only at hSw); go_simp; (try with_reducible rfl))
          try simp only [Act.put, List.setIfInBounds_toArray, List.set_cons_zero, List.set_cons_succ]
          refine wpAnyH_take (i := 10) (oi := ⟨some 45, _, _, _, _, _⟩) (v := ?vd11) rfl (by kernel_rfl) (by kernel_rfl) (by kernel_rfl) (fun _ _ _ h => h) (Or.inl ⟨by rfl, ?hd11⟩) hS ?rd11
          case hd11 => (intro w' hSw; (try dsimp only at hSw); go_simp; (try with_reducible rfl))
          try simp only [Act.put, List.setIfInBounds_toArray, List.set_cons_zero, List.set_cons_succ]
          refine wpAnyH_ready (rs := [11]) (by kernel_rfl) (by simp) ?_
          refine AllReadyH.cons (o := ⟨some 46, _, _, _, _, _⟩) rfl (fun K' hK' => ?_) AllReadyH.nil
          rw [if_pos (wanted_plain rfl)]
          refine wp_append_own _ _ _ 28 rfl (w.heap.size + 3) 38 ti (.agg #[.int .i64 0, .int .i64 0]) 2 16 Try.underlying28 hi hz0 hz1 hz2 rfl (by decide) _ _ _ rfl o34d ⟨bb, if c = k then off else off + k * 2, none⟩ (js.length - k) (c - k) (flatJ (js.drop k)) (slice_ite c k bb off (off + k * 2) (js.length - k) (c - k)) (by rw [flatJ_len, List.length_drop]) (jumps_behind (HCL.out _ hbd) k c hpl hc) (flat_one _) (by unfold maxLen; omega) (by omega) (Nat.le_trans (Nat.le_of_eq z0.symm) hbd.size) ?_
          intro v46 w46 o46 hg46 _
          rw [put_flat js a b k HP2.out, HNN.out] at o46
          obtain ⟨A46, c46, rfl⟩ := own_sl o46
          have hb3 := hbd.grown hg46 (Nat.le_trans (Nat.le_of_eq z0.symm) hbd.size) (fun g hg => own_from o34d g hg)
          have k4 := (hb3.block (w.heap.size + 2) (by omega)).trans k3
          have q3 : ∀ i, w46.cell? ⟨w.heap.size + 1 + 1, i, none⟩ = #[.int .i64 0, .int .i64 0, .int .i64 0, .slice none 0 0][i]? := fun i => cell_of_row w46 (w.heap.size + 2) i _ _ _ k4
          have f3 : ∀ i, w46.frozen? ⟨w.heap.size + 1 + 1, i, none⟩ = false := fun i => frozen_row (i := i) k4
          refine hK'.out _ _ (HSO.out (w.heap.size + 2) (by omega) _ (hb3.mono (by omega))) (fun _ => ?_)
          clear hK' K'
          try simp only [Act.put, List.setIfInBounds_toArray, List.set_cons_zero, List.set_cons_succ]
          refine wpAnyH_take (i := 12) (oi := ⟨some 47, _, _, _, _, _⟩) (v := ?vd12) rfl (by kernel_rfl) (by kernel_rfl) (by kernel_rfl) (fun _ _ _ h => h) (Or.inl ⟨by rfl, ?hd12⟩) (HSO.out (w.heap.size + 2) (by omega) _ (hb3.mono (by omega))) ?rd12
          case hd12 => (intro w' hSw; (try dsimp only at hSw); go_simp; (try with_reducible rfl))
          try simp only [Act.put, List.setIfInBounds_toArray, List.set_cons_zero, List.set_cons_succ]
          refine wpAnyH_ready (rs := [13]) (by kernel_rfl) (by simp) ?_
          refine AllReadyH.cons (o := ⟨none, _, _, _, _, _⟩) rfl (fun K' hK' => ?_) AllReadyH.nil
          go_simp
          have hb4 := ((((hb3.mono (show w.heap.size + 2 ≤ w.heap.size + 3 by omega)).setCell (p := ⟨w.heap.size + 1 + 1, 0, none⟩) (by dsimp only; omega) (.int .i64 s)).setCell (p := ⟨w.heap.size + 1 + 1, 1, none⟩) (by dsimp only; omega) (.int .i64 f)).setCell (p := ⟨w.heap.size + 1 + 1, 2, none⟩) (by dsimp only; omega) (.int .i64 o)).setCell (p := ⟨w.heap.size + 1 + 1, 3, none⟩) (by dsimp only; omega) (.slice A46 (js.length + 1) c46)
          refine hK'.out _ _ (HSO.out (w.heap.size + 2) (by omega) _ hb4) (fun _ => ?_)
          clear hK' K'
          try simp only [Act.put, List.setIfInBounds_toArray, List.set_cons_zero, List.set_cons_succ]
          refine wpAnyH_done (by kernel_rfl) ?_ _
          go_wp2_with fail
          all_goals
            refine bodyPost_ret (v := .agg #[.int .i64 s, .int .i64 f, .int .i64 o, .slice A46 (js.length + 1) c46]) (by simp [results, Try.results38, go_sem, q3]) rfl ?_
            refine ⟨_, rfl, ?_, h0.trans (hb4.mono (by omega))⟩
            exact own_base ((((ownsRow_setCell_below (a := ⟨w.heap.size + 1 + 1, 3, none⟩) (ownsRow_setCell_below (a := ⟨w.heap.size + 1 + 1, 2, none⟩) (ownsRow_setCell_below (a := ⟨w.heap.size + 1 + 1, 1, none⟩) (ownsRow_setCell_below (a := ⟨w.heap.size + 1 + 1, 0, none⟩) o46 (by dsimp only; omega) _) (by dsimp only; omega) _) (by dsimp only; omega) _) (by dsimp only; omega) _)))) (by omega)
    · have hg : decide (0 < (k : Int)) = false := by simpa using hk0
      have hk00 : k = 0 := by omega
      have HK00 := Lib.hid hk00; clear hk00
      go_wp2_with fail
      go_quiet (fail)
      go_wp2
      have hp : place js a js.length = k := by rw [HP.out, HK00.out]; rfl
      have hb0 := hb
      clear hb hg HP q1 q2
      have hpl : k ≤ js.length := by omega
      have HP2 := Lib.hid hp; clear hp
      have HNN := Lib.hid (show 0 + k + 1 + (js.length - k) = js.length + 1 by omega)
      have pz1 : (0 : Int) ≤ (k : Int) := by omega
      have pz2 : (k : Int) ≤ (c : Int) := by omega
      have pz3 : (k : Int) ≤ (js.length : Int) := by omega
      go_wp2_with fail
      refine wp_region_held_drew (S := (fun w' => Below (w.heap.size + 3) W0 w' ∧ (∀ i, w'.cell? ⟨w.heap.size, i, none⟩ = #[.int .i64 s, .int .i64 f, .int .i64 o, .slice (some ⟨bb, off, none⟩) js.length c][i]?) ∧ (∀ i, w'.cell? ⟨w.heap.size + 1, i, none⟩ = #[.int .i64 a, .int .i64 b][i]?))) (by kernel_rfl) (HSO.out (w.heap.size + 3) (by omega) _ (drewB hb0 _).drew) (fun hS => ?_)
      refine wpAnyH_take (i := 1) (oi := ⟨some 27, _, _, _, _, _⟩) (v := ?ve1) rfl (by kernel_rfl) (by kernel_rfl) (by kernel_rfl) (fun _ _ _ h => h) (Or.inl ⟨by rfl, ?he1⟩) hS ?re1
      case he1 => (intro w' hSw; (try dsimp only at hSw); go_simp; (try with_reducible rfl))
      try simp only [Act.put, List.setIfInBounds_toArray, List.set_cons_zero, List.set_cons_succ]
      refine wpAnyH_take (i := 2) (oi := ⟨some 28, _, _, _, _, _⟩) (v := ?ve2) rfl (by kernel_rfl) (by kernel_rfl) (by kernel_rfl) (fun _ _ _ h => h) (Or.inl ⟨by rfl, ?he2⟩) hS ?re2
      case he2 => (intro w' hSw; (try dsimp only at hSw); go_simp; (try with_reducible rfl))
      try simp only [Act.put, List.setIfInBounds_toArray, List.set_cons_zero, List.set_cons_succ]
      refine wpAnyH_take (i := 3) (oi := ⟨some 29, _, _, _, _, _⟩) (v := ?ve3) rfl (by kernel_rfl) (by kernel_rfl) (by kernel_rfl) (fun _ _ _ h => h) (Or.inl ⟨by rfl, ?he3⟩) hS ?re3
      case he3 => (intro w' hSw; (try dsimp only at hSw); go_simp; (try with_reducible rfl))
      try simp only [Act.put, List.setIfInBounds_toArray, List.set_cons_zero, List.set_cons_succ]
      refine wpAnyH_take (i := 4) (oi := ⟨some 30, _, _, _, _, _⟩) (v := ?ve4) rfl (by kernel_rfl) (by kernel_rfl) (by kernel_rfl) (fun _ _ _ h => h) (Or.inl ⟨by rfl, ?he4⟩) hS ?re4
      case he4 => (intro w' hSw; (try dsimp only at hSw); go_simp; (try with_reducible rfl))
      try simp only [Act.put, List.setIfInBounds_toArray, List.set_cons_zero, List.set_cons_succ]
      refine wpAnyH_take (i := 6) (oi := ⟨some 32, _, _, _, _, _⟩) (v := ?ve5) rfl (by kernel_rfl) (by kernel_rfl) (by kernel_rfl) (fun _ _ _ h => h) (Or.inl ⟨by rfl, ?he5⟩) hS ?re5
      case he5 => (intro w' hSw; (try dsimp only at hSw); go_simp; (try with_reducible rfl))
      try simp only [Act.put, List.setIfInBounds_toArray, List.set_cons_zero, List.set_cons_succ]
      refine wpAnyH_ready (rs := [0, 7]) (by kernel_rfl) (by simp) ?_
      refine AllReadyH.cons (o := ⟨some 26, _, _, _, _, _⟩) rfl (fun K' hK' => ?_) (AllReadyH.cons (o := ⟨some 33, _, _, _, _, _⟩) rfl (fun K' hK' => ?_) AllReadyH.nil)
      focus
        go_simp
        have hb := (by first | exact hb | exact hS.1 : Below (w.heap.size + 3) W0 _)
        have hN := hb.size
        have o26 := own_made0 hb (Nat.le_trans (Nat.le_of_eq z0.symm) hb.size) 38
        (try replace e33 := fun g hg => (e33 g hg).alloc (.cells #[] 38))
        replace hb := hb.alloc (Nat.le_trans (Nat.le_of_eq z0.symm) hb.size) (.cells #[] 38)
        refine hK'.out _ _ (HSO.out (w.heap.size + 3) (by omega) _ hb) (fun _ => ?_)
        clear hK' K'
        try simp only [Act.put, List.setIfInBounds_toArray, List.set_cons_zero, List.set_cons_succ]
        refine wpAnyH_ready (rs := [5, 7]) (by kernel_rfl) (by simp) ?_
        refine AllReadyH.cons (o := ⟨some 31, _, _, _, _, _⟩) rfl (fun K' hK' => ?_) (AllReadyH.cons (o := ⟨some 33, _, _, _, _, _⟩) rfl (fun K' hK' => ?_) AllReadyH.nil)
        focus
          rw [if_pos (wanted_plain rfl)]
          have hN := hb.size
          refine wp_append_own _ _ _ 28 rfl (w.heap.size + 3) 38 ti (.agg #[.int .i64 0, .int .i64 0]) 2 16 Try.underlying28 hi hz0 hz1 hz2 rfl (by decide) _ _ _ rfl (o26 _ (by simp)) ⟨bb, off, none⟩ k c (flatJ (js.take k)) rfl (by rw [flatJ_len, List.length_take]; omega) (jumps_front (HCL.out _ hb) k) (flat_one _) (by unfold maxLen; omega) (by omega) (Nat.le_trans (Nat.le_of_eq z0.symm) hb.size) ?_
          intro v31 w31 o31 hg31 _
          have hg31' : World.grownBy _ w31 (some _) := hg31
          (try replace e33 := fun g hg => (e33 g hg).grown hg31' (by rw [hg]; simp))
          replace hb := hb.grown hg31 (Nat.le_trans (Nat.le_of_eq z0.symm) hb.size) (fun g hg => own_from (o26 _ (by simp)) g hg)
          clear o26
          refine hK'.out _ _ (HSO.out (w.heap.size + 3) (by omega) _ hb) (fun _ => ?_)
          clear hK' K'
          try simp only [Act.put, List.setIfInBounds_toArray, List.set_cons_zero, List.set_cons_succ]
          refine wpAnyH_ready (rs := [7]) (by kernel_rfl) (by simp) ?_
          refine AllReadyH.cons (o := ⟨some 33, _, _, _, _, _⟩) rfl (fun K' hK' => ?_) AllReadyH.nil
          go_simp
          have hb := (by first | exact hb | exact hS.1 : Below (w.heap.size + 3) W0 _)
          have hN := hb.size
          have e33 := One2.made hb 38 a b
          (try replace o26 := fun g hg => (o26 g hg).alloc (.cells #[.int .i64 a, .int .i64 b] 38))
          (try replace o31 := o31.alloc (.cells #[.int .i64 a, .int .i64 b] 38))
          replace hb := hb.alloc (Nat.le_trans (Nat.le_of_eq z0.symm) hb.size) (.cells #[.int .i64 a, .int .i64 b] 38)
          refine hK'.out _ _ (HSO.out (w.heap.size + 3) (by omega) _ hb) (fun _ => ?_)
          clear hK' K'
          try simp only [Act.put, List.setIfInBounds_toArray, List.set_cons_zero, List.set_cons_succ]
          refine wpAnyH_ready (rs := [8]) (by kernel_rfl) (by simp) ?_
          refine AllReadyH.cons (o := ⟨some 34, _, _, _, _, _⟩) rfl (fun K' hK' => ?_) AllReadyH.nil
          rw [if_pos (wanted_plain rfl)]
          have hN := hb.size
          refine wp_append_own _ _ _ 28 rfl (w.heap.size + 3) 38 ti (.agg #[.int .i64 0, .int .i64 0]) 2 16 Try.underlying28 hi hz0 hz1 hz2 rfl (by decide) _ _ _ rfl o31 ⟨_, 0, none⟩ 1 1 [.int .i64 a, .int .i64 b] rfl rfl (e33 _ (by simp)).cells (two_int _ _) (by unfold maxLen; omega) (by omega) (Nat.le_trans (Nat.le_of_eq z0.symm) hb.size) ?_
          intro v34 w34 o34 hg34 _
          replace hb := hb.grown hg34 (Nat.le_trans (Nat.le_of_eq z0.symm) hb.size) (fun g hg => own_from o31 g hg)
          clear o31 e33
          refine hK'.out _ _ (HSO.out (w.heap.size + 3) (by omega) _ hb) (fun _ => ?_)
          clear hK' K'
          try simp only [Act.put, List.setIfInBounds_toArray, List.set_cons_zero, List.set_cons_succ]
          refine wpAnyH_ready (rs := [9]) (by kernel_rfl) (by simp) ?_
          refine AllReadyH.cons (o := ⟨some 6, _, _, _, _, _⟩) rfl (fun K' hK' => ?_) AllReadyH.nil
          go_simp
          refine hK'.out _ _ (HSO.out (w.heap.size + 3) (by omega) _ hb) (fun _ => ?_)
          clear hK' K'
          try simp only [Act.put, List.setIfInBounds_toArray, List.set_cons_zero, List.set_cons_succ]
          refine wpAnyH_done (by kernel_rfl) ?_ _
        rotate_left 1
        focus
          go_simp
          have hb := (by first | exact hb | exact hS.1 : Below (w.heap.size + 3) W0 _)
          have hN := hb.size
          have e33 := One2.made hb 38 a b
          (try replace o26 := fun g hg => (o26 g hg).alloc (.cells #[.int .i64 a, .int .i64 b] 38))
          (try replace o31 := o31.alloc (.cells #[.int .i64 a, .int .i64 b] 38))
          replace hb := hb.alloc (Nat.le_trans (Nat.le_of_eq z0.symm) hb.size) (.cells #[.int .i64 a, .int .i64 b] 38)
          refine hK'.out _ _ (HSO.out (w.heap.size + 3) (by omega) _ hb) (fun _ => ?_)
          clear hK' K'
          try simp only [Act.put, List.setIfInBounds_toArray, List.set_cons_zero, List.set_cons_succ]
          refine wpAnyH_ready (rs := [5]) (by kernel_rfl) (by simp) ?_
          refine AllReadyH.cons (o := ⟨some 31, _, _, _, _, _⟩) rfl (fun K' hK' => ?_) AllReadyH.nil
          rw [if_pos (wanted_plain rfl)]
          have hN := hb.size
          refine wp_append_own _ _ _ 28 rfl (w.heap.size + 3) 38 ti (.agg #[.int .i64 0, .int .i64 0]) 2 16 Try.underlying28 hi hz0 hz1 hz2 rfl (by decide) _ _ _ rfl (o26 _ (by simp)) ⟨bb, off, none⟩ k c (flatJ (js.take k)) rfl (by rw [flatJ_len, List.length_take]; omega) (jumps_front (HCL.out _ hb) k) (flat_one _) (by unfold maxLen; omega) (by omega) (Nat.le_trans (Nat.le_of_eq z0.symm) hb.size) ?_
          intro v31 w31 o31 hg31 _
          have hg31' : World.grownBy _ w31 (some _) := hg31
          (try replace e33 := fun g hg => (e33 g hg).grown hg31' (by rw [hg]; simp))
          replace hb := hb.grown hg31 (Nat.le_trans (Nat.le_of_eq z0.symm) hb.size) (fun g hg => own_from (o26 _ (by simp)) g hg)
          clear o26
          refine hK'.out _ _ (HSO.out (w.heap.size + 3) (by omega) _ hb) (fun _ => ?_)
          clear hK' K'
          try simp only [Act.put, List.setIfInBounds_toArray, List.set_cons_zero, List.set_cons_succ]
          refine wpAnyH_ready (rs := [8]) (by kernel_rfl) (by simp) ?_
          refine AllReadyH.cons (o := ⟨some 34, _, _, _, _, _⟩) rfl (fun K' hK' => ?_) AllReadyH.nil
          rw [if_pos (wanted_plain rfl)]
          have hN := hb.size
          refine wp_append_own _ _ _ 28 rfl (w.heap.size + 3) 38 ti (.agg #[.int .i64 0, .int .i64 0]) 2 16 Try.underlying28 hi hz0 hz1 hz2 rfl (by decide) _ _ _ rfl o31 ⟨_, 0, none⟩ 1 1 [.int .i64 a, .int .i64 b] rfl rfl (e33 _ (by simp)).cells (two_int _ _) (by unfold maxLen; omega) (by omega) (Nat.le_trans (Nat.le_of_eq z0.symm) hb.size) ?_
          intro v34 w34 o34 hg34 _
          replace hb := hb.grown hg34 (Nat.le_trans (Nat.le_of_eq z0.symm) hb.size) (fun g hg => own_from o31 g hg)
          clear o31 e33
          refine hK'.out _ _ (HSO.out (w.heap.size + 3) (by omega) _ hb) (fun _ => ?_)
          clear hK' K'
          try simp only [Act.put, List.setIfInBounds_toArray, List.set_cons_zero, List.set_cons_succ]
          refine wpAnyH_ready (rs := [9]) (by kernel_rfl) (by simp) ?_
          refine AllReadyH.cons (o := ⟨some 6, _, _, _, _, _⟩) rfl (fun K' hK' => ?_) AllReadyH.nil
          go_simp
          refine hK'.out _ _ (HSO.out (w.heap.size + 3) (by omega) _ hb) (fun _ => ?_)
          clear hK' K'
          try simp only [Act.put, List.setIfInBounds_toArray, List.set_cons_zero, List.set_cons_succ]
          refine wpAnyH_done (by kernel_rfl) ?_ _
        rotate_left 1
      rotate_left 2
      focus
        go_simp
        have hb := (by first | exact hb | exact hS.1 : Below (w.heap.size + 3) W0 _)
        have hN := hb.size
        have e33 := One2.made hb 38 a b
        (try replace o26 := fun g hg => (o26 g hg).alloc (.cells #[.int .i64 a, .int .i64 b] 38))
        (try replace o31 := o31.alloc (.cells #[.int .i64 a, .int .i64 b] 38))
        replace hb := hb.alloc (Nat.le_trans (Nat.le_of_eq z0.symm) hb.size) (.cells #[.int .i64 a, .int .i64 b] 38)
        refine hK'.out _ _ (HSO.out (w.heap.size + 3) (by omega) _ hb) (fun _ => ?_)
        clear hK' K'
        try simp only [Act.put, List.setIfInBounds_toArray, List.set_cons_zero, List.set_cons_succ]
        refine wpAnyH_ready (rs := [0]) (by kernel_rfl) (by simp) ?_
        refine AllReadyH.cons (o := ⟨some 26, _, _, _, _, _⟩) rfl (fun K' hK' => ?_) AllReadyH.nil
        go_simp
        have hb := (by first | exact hb | exact hS.1 : Below (w.heap.size + 3) W0 _)
        have hN := hb.size
        have o26 := own_made0 hb (Nat.le_trans (Nat.le_of_eq z0.symm) hb.size) 38
        (try replace e33 := fun g hg => (e33 g hg).alloc (.cells #[] 38))
        replace hb := hb.alloc (Nat.le_trans (Nat.le_of_eq z0.symm) hb.size) (.cells #[] 38)
        refine hK'.out _ _ (HSO.out (w.heap.size + 3) (by omega) _ hb) (fun _ => ?_)
        clear hK' K'
        try simp only [Act.put, List.setIfInBounds_toArray, List.set_cons_zero, List.set_cons_succ]
        refine wpAnyH_ready (rs := [5]) (by kernel_rfl) (by simp) ?_
        refine AllReadyH.cons (o := ⟨some 31, _, _, _, _, _⟩) rfl (fun K' hK' => ?_) AllReadyH.nil
        rw [if_pos (wanted_plain rfl)]
        have hN := hb.size
        refine wp_append_own _ _ _ 28 rfl (w.heap.size + 3) 38 ti (.agg #[.int .i64 0, .int .i64 0]) 2 16 Try.underlying28 hi hz0 hz1 hz2 rfl (by decide) _ _ _ rfl (o26 _ (by simp)) ⟨bb, off, none⟩ k c (flatJ (js.take k)) rfl (by rw [flatJ_len, List.length_take]; omega) (jumps_front (HCL.out _ hb) k) (flat_one _) (by unfold maxLen; omega) (by omega) (Nat.le_trans (Nat.le_of_eq z0.symm) hb.size) ?_
        intro v31 w31 o31 hg31 _
        have hg31' : World.grownBy _ w31 (some _) := hg31
        (try replace e33 := fun g hg => (e33 g hg).grown hg31' (by rw [hg]; simp))
        replace hb := hb.grown hg31 (Nat.le_trans (Nat.le_of_eq z0.symm) hb.size) (fun g hg => own_from (o26 _ (by simp)) g hg)
        clear o26
        refine hK'.out _ _ (HSO.out (w.heap.size + 3) (by omega) _ hb) (fun _ => ?_)
        clear hK' K'
        try simp only [Act.put, List.setIfInBounds_toArray, List.set_cons_zero, List.set_cons_succ]
        refine wpAnyH_ready (rs := [8]) (by kernel_rfl) (by simp) ?_
        refine AllReadyH.cons (o := ⟨some 34, _, _, _, _, _⟩) rfl (fun K' hK' => ?_) AllReadyH.nil
        rw [if_pos (wanted_plain rfl)]
        have hN := hb.size
        refine wp_append_own _ _ _ 28 rfl (w.heap.size + 3) 38 ti (.agg #[.int .i64 0, .int .i64 0]) 2 16 Try.underlying28 hi hz0 hz1 hz2 rfl (by decide) _ _ _ rfl o31 ⟨_, 0, none⟩ 1 1 [.int .i64 a, .int .i64 b] rfl rfl (e33 _ (by simp)).cells (two_int _ _) (by unfold maxLen; omega) (by omega) (Nat.le_trans (Nat.le_of_eq z0.symm) hb.size) ?_
        intro v34 w34 o34 hg34 _
        replace hb := hb.grown hg34 (Nat.le_trans (Nat.le_of_eq z0.symm) hb.size) (fun g hg => own_from o31 g hg)
        clear o31 e33
        refine hK'.out _ _ (HSO.out (w.heap.size + 3) (by omega) _ hb) (fun _ => ?_)
        clear hK' K'
        try simp only [Act.put, List.setIfInBounds_toArray, List.set_cons_zero, List.set_cons_succ]
        refine wpAnyH_ready (rs := [9]) (by kernel_rfl) (by simp) ?_
        refine AllReadyH.cons (o := ⟨some 6, _, _, _, _, _⟩) rfl (fun K' hK' => ?_) AllReadyH.nil
        go_simp
        refine hK'.out _ _ (HSO.out (w.heap.size + 3) (by omega) _ hb) (fun _ => ?_)
        clear hK' K'
        try simp only [Act.put, List.setIfInBounds_toArray, List.set_cons_zero, List.set_cons_succ]
        refine wpAnyH_done (by kernel_rfl) ?_ _
      rotate_left 1
      · go_wp2_with fail
        have hbd := hb.drew
        have o34d : World.ownsRow w34.drew (w.heap.size + 3) 38 2 v34 _ _ := o34
        refine wp_region_held_drew (S := (fun w' => Below (w.heap.size + 2) W0 w' ∧ (∀ i, w'.cell? ⟨w.heap.size, i, none⟩ = #[.int .i64 s, .int .i64 f, .int .i64 o, .slice (some ⟨bb, off, none⟩) js.length c][i]?) ∧ (∀ i, w'.cell? ⟨w.heap.size + 1, i, none⟩ = #[.int .i64 a, .int .i64 b][i]?))) (by kernel_rfl) (HSO.out (w.heap.size + 2) (by omega) _ (hbd.mono (by omega))) (fun hS => ?_)
        refine wpAnyH_take (i := 0) (oi := ⟨some 35, _, _, _, _, _⟩) (v := ?vf1) rfl (by kernel_rfl) (by kernel_rfl) (by kernel_rfl) (fun _ _ _ h => h) (Or.inl ⟨by rfl, ?hf1⟩) hS ?rf1
        case hf1 => (intro w' hSw; (try dsimp only at hSw); go_simp; (try with_reducible rfl))
        try simp only [Act.put, List.setIfInBounds_toArray, List.set_cons_zero, List.set_cons_succ]
        refine wpAnyH_take (i := 1) (oi := ⟨some 36, _, _, _, _, _⟩) (v := ?vf2) rfl (by kernel_rfl) (by kernel_rfl) (by kernel_rfl) (fun _ _ _ h => h) (Or.inl ⟨by rfl, ?hf2⟩) hS ?rf2
        case hf2 => (intro w' hSw; (try dsimp only at hSw); go_simp; (try with_reducible rfl))
        try simp only [Act.put, List.setIfInBounds_toArray, List.set_cons_zero, List.set_cons_succ]
        refine wpAnyH_take (i := 2) (oi := ⟨some 37, _, _, _, _, _⟩) (v := ?vf3) rfl (by kernel_rfl) (by kernel_rfl) (by kernel_rfl) (fun _ _ _ h => h) (Or.inl ⟨by rfl, ?hf3⟩) hS ?rf3
        case hf3 => (intro w' hSw; (try dsimp only at hSw); go_simp; (try with_reducible rfl))
        try simp only [Act.put, List.setIfInBounds_toArray, List.set_cons_zero, List.set_cons_succ]
        refine wpAnyH_take (i := 3) (oi := ⟨some 38, _, _, _, _, _⟩) (v := ?vf4) rfl (by kernel_rfl) (by kernel_rfl) (by kernel_rfl) (fun _ _ _ h => h) (Or.inl ⟨by rfl, ?hf4⟩) hS ?rf4
        case hf4 => (intro w' hSw; (try dsimp only at hSw); go_simp; (try with_reducible rfl))
        try simp only [Act.put, List.setIfInBounds_toArray, List.set_cons_zero, List.set_cons_succ]
        refine wpAnyH_take (i := 4) (oi := ⟨some 39, _, _, _, _, _⟩) (v := ?vf5) rfl (by kernel_rfl) (by kernel_rfl) (by kernel_rfl) (fun _ _ _ h => h) (Or.inl ⟨by rfl, ?hf5⟩) hS ?rf5
        case hf5 => (intro w' hSw; (try dsimp only at hSw); go_simp; (try with_reducible rfl))
        try simp only [Act.put, List.setIfInBounds_toArray, List.set_cons_zero, List.set_cons_succ]
        refine wpAnyH_take (i := 5) (oi := ⟨some 40, _, _, _, _, _⟩) (v := ?vf6) rfl (by kernel_rfl) (by kernel_rfl) (by kernel_rfl) (fun _ _ _ h => h) (Or.inl ⟨by rfl, ?hf6⟩) hS ?rf6
        case hf6 => (intro w' hSw; (try dsimp only at hSw); go_simp; (try with_reducible rfl))
        try simp only [Act.put, List.setIfInBounds_toArray, List.set_cons_zero, List.set_cons_succ]
        refine wpAnyH_take (i := 6) (oi := ⟨some 41, _, _, _, _, _⟩) (v := ?vf7) rfl (by kernel_rfl) (by kernel_rfl) (by kernel_rfl) (fun _ _ _ h => h) (Or.inl ⟨by rfl, ?hf7⟩) hS ?rf7
        case hf7 => (intro w' hSw; (try dsimp only at hSw); go_simp; (try with_reducible rfl))
        try simp only [Act.put, List.setIfInBounds_toArray, List.set_cons_zero, List.set_cons_succ]
        refine wpAnyH_take (i := 7) (oi := ⟨some 42, _, _, _, _, _⟩) (v := ?vf8) rfl (by kernel_rfl) (by kernel_rfl) (by kernel_rfl) (fun _ _ _ h => h) (Or.inl ⟨by rfl, ?hf8⟩) hS ?rf8
        case hf8 => (intro w' hSw; (try dsimp only at hSw); go_simp; (try with_reducible rfl))
        try simp only [Act.put, List.setIfInBounds_toArray, List.set_cons_zero, List.set_cons_succ]
        refine wpAnyH_take (i := 8) (oi := ⟨some 43, _, _, _, _, _⟩) (v := ?vf9) rfl (by kernel_rfl) (by kernel_rfl) (by kernel_rfl) (fun _ _ _ h => h) (Or.inl ⟨by rfl, ?hf9⟩) hS ?rf9
        case hf9 => (intro w' hSw; (try dsimp only at hSw); go_simp; (try with_reducible rfl))
        try simp only [Act.put, List.setIfInBounds_toArray, List.set_cons_zero, List.set_cons_succ]
        refine wpAnyH_take (i := 9) (oi := ⟨some 44, _, _, _, _, _⟩) (v := ?vf10) rfl (by kernel_rfl) (by kernel_rfl) (by kernel_rfl) (fun _ _ _ h => h) (Or.inl ⟨by rfl, ?hf10⟩) hS ?rf10
        case hf10 => (intro w' hSw; (try dsimp only at hSw); go_simp; (try with_reducible rfl))
        try simp only [Act.put, List.setIfInBounds_toArray, List.set_cons_zero, List.set_cons_succ]
        refine wpAnyH_take (i := 10) (oi := ⟨some 45, _, _, _, _, _⟩) (v := ?vf11) rfl (by kernel_rfl) (by kernel_rfl) (by kernel_rfl) (fun _ _ _ h => h) (Or.inl ⟨by rfl, ?hf11⟩) hS ?rf11
        case hf11 => (intro w' hSw; (try dsimp only at hSw); go_simp; (try with_reducible rfl))
        try simp only [Act.put, List.setIfInBounds_toArray, List.set_cons_zero, List.set_cons_succ]
        refine wpAnyH_ready (rs := [11]) (by kernel_rfl) (by simp) ?_
        refine AllReadyH.cons (o := ⟨some 46, _, _, _, _, _⟩) rfl (fun K' hK' => ?_) AllReadyH.nil
        rw [if_pos (wanted_plain rfl)]
        refine wp_append_own _ _ _ 28 rfl (w.heap.size + 3) 38 ti (.agg #[.int .i64 0, .int .i64 0]) 2 16 Try.underlying28 hi hz0 hz1 hz2 rfl (by decide) _ _ _ rfl o34d ⟨bb, if c = k then off else off + k * 2, none⟩ (js.length - k) (c - k) (flatJ (js.drop k)) (slice_ite c k bb off (off + k * 2) (js.length - k) (c - k)) (by rw [flatJ_len, List.length_drop]) (jumps_behind (HCL.out _ hbd) k c hpl hc) (flat_one _) (by unfold maxLen; omega) (by omega) (Nat.le_trans (Nat.le_of_eq z0.symm) hbd.size) ?_
        intro v46 w46 o46 hg46 _
        rw [put_flat js a b k HP2.out, HNN.out] at o46
        obtain ⟨A46, c46, rfl⟩ := own_sl o46
        have hb3 := hbd.grown hg46 (Nat.le_trans (Nat.le_of_eq z0.symm) hbd.size) (fun g hg => own_from o34d g hg)
        have k4 := (hb3.block (w.heap.size + 2) (by omega)).trans k3
        have q3 : ∀ i, w46.cell? ⟨w.heap.size + 1 + 1, i, none⟩ = #[.int .i64 0, .int .i64 0, .int .i64 0, .slice none 0 0][i]? := fun i => cell_of_row w46 (w.heap.size + 2) i _ _ _ k4
        have f3 : ∀ i, w46.frozen? ⟨w.heap.size + 1 + 1, i, none⟩ = false := fun i => frozen_row (i := i) k4
        refine hK'.out _ _ (HSO.out (w.heap.size + 2) (by omega) _ (hb3.mono (by omega))) (fun _ => ?_)
        clear hK' K'
        try simp only [Act.put, List.setIfInBounds_toArray, List.set_cons_zero, List.set_cons_succ]
        refine wpAnyH_take (i := 12) (oi := ⟨some 47, _, _, _, _, _⟩) (v := ?vf12) rfl (by kernel_rfl) (by kernel_rfl) (by kernel_rfl) (fun _ _ _ h => h) (Or.inl ⟨by rfl, ?hf12⟩) (HSO.out (w.heap.size + 2) (by omega) _ (hb3.mono (by omega))) ?rf12
        case hf12 => (intro w' hSw; (try dsimp only at hSw); go_simp; (try with_reducible rfl))
        try simp only [Act.put, List.setIfInBounds_toArray, List.set_cons_zero, List.set_cons_succ]
        refine wpAnyH_ready (rs := [13]) (by kernel_rfl) (by simp) ?_
        refine AllReadyH.cons (o := ⟨none, _, _, _, _, _⟩) rfl (fun K' hK' => ?_) AllReadyH.nil
        go_simp
        have hb4 := ((((hb3.mono (show w.heap.size + 2 ≤ w.heap.size + 3 by omega)).setCell (p := ⟨w.heap.size + 1 + 1, 0, none⟩) (by dsimp only; omega) (.int .i64 s)).setCell (p := ⟨w.heap.size + 1 + 1, 1, none⟩) (by dsimp only; omega) (.int .i64 f)).setCell (p := ⟨w.heap.size + 1 + 1, 2, none⟩) (by dsimp only; omega) (.int .i64 o)).setCell (p := ⟨w.heap.size + 1 + 1, 3, none⟩) (by dsimp only; omega) (.slice A46 (js.length + 1) c46)
        refine hK'.out _ _ (HSO.out (w.heap.size + 2) (by omega) _ hb4) (fun _ => ?_)
        clear hK' K'
        try simp only [Act.put, List.setIfInBounds_toArray, List.set_cons_zero, List.set_cons_succ]
        refine wpAnyH_done (by kernel_rfl) ?_ _
        go_wp2_with fail
        all_goals
          refine bodyPost_ret (v := .agg #[.int .i64 s, .int .i64 f, .int .i64 o, .slice A46 (js.length + 1) c46]) (by simp [results, Try.results38, go_sem, q3]) rfl ?_
          refine ⟨_, rfl, ?_, h0.trans (hb4.mono (by omega))⟩
          exact own_base ((((ownsRow_setCell_below (a := ⟨w.heap.size + 1 + 1, 3, none⟩) (ownsRow_setCell_below (a := ⟨w.heap.size + 1 + 1, 2, none⟩) (ownsRow_setCell_below (a := ⟨w.heap.size + 1 + 1, 1, none⟩) (ownsRow_setCell_below (a := ⟨w.heap.size + 1 + 1, 0, none⟩) o46 (by dsimp only; omega) _) (by dsimp only; omega) _) (by dsimp only; omega) _) (by dsimp only; omega) _)))) (by omega)
      · go_wp2_with fail
        have hbd := hb.drew
        have o34d : World.ownsRow w34.drew (w.heap.size + 3) 38 2 v34 _ _ := o34
        refine wp_region_held_drew (S := (fun w' => Below (w.heap.size + 2) W0 w' ∧ (∀ i, w'.cell? ⟨w.heap.size, i, none⟩ = #[.int .i64 s, .int .i64 f, .int .i64 o, .slice (some ⟨bb, off, none⟩) js.length c][i]?) ∧ (∀ i, w'.cell? ⟨w.heap.size + 1, i, none⟩ = #[.int .i64 a, .int .i64 b][i]?))) (by kernel_rfl) (HSO.out (w.heap.size + 2) (by omega) _ (hbd.mono (by omega))) (fun hS => ?_)
        refine wpAnyH_take (i := 0) (oi := ⟨some 35, _, _, _, _, _⟩) (v := ?vg1) rfl (by kernel_rfl) (by kernel_rfl) (by kernel_rfl) (fun _ _ _ h => h) (Or.inl ⟨by rfl, ?hg1⟩) hS ?rg1
        case hg1 => (intro w' hSw; (try dsimp only at hSw); go_simp; (try with_reducible rfl))
        try simp only [Act.put, List.setIfInBounds_toArray, List.set_cons_zero, List.set_cons_succ]
        refine wpAnyH_take (i := 1) (oi := ⟨some 36, _, _, _, _, _⟩) (v := ?vg2) rfl (by kernel_rfl) (by kernel_rfl) (by kernel_rfl) (fun _ _ _ h => h) (Or.inl ⟨by rfl, ?hg2⟩) hS ?rg2
        case hg2 => (intro w' hSw; (try dsimp only at hSw); go_simp; (try with_reducible rfl))
        try simp only [Act.put, List.setIfInBounds_toArray, List.set_cons_zero, List.set_cons_succ]
        refine wpAnyH_take (i := 2) (oi := ⟨some 37, _, _, _, _, _⟩) (v := ?vg3) rfl (by kernel_rfl) (by kernel_rfl) (by kernel_rfl) (fun _ _ _ h => h) (Or.inl ⟨by rfl, ?hg3⟩) hS ?rg3
        case hg3 => (intro w' hSw; (try dsimp only at hSw); go_simp; (try with_reducible rfl))
        try simp only [Act.put, List.setIfInBounds_toArray, List.set_cons_zero, List.set_cons_succ]
        refine wpAnyH_take (i := 3) (oi := ⟨some 38, _, _, _, _, _⟩) (v := ?vg4) rfl (by kernel_rfl) (by kernel_rfl) (by kernel_rfl) (fun _ _ _ h => h) (Or.inl ⟨by rfl, ?hg4⟩) hS ?rg4
        case hg4 => (intro w' hSw; (try dsimp only at hSw); go_simp; (try with_reducible rfl))
        try simp only [Act.put, List.setIfInBounds_toArray, List.set_cons_zero, List.set_cons_succ]
        refine wpAnyH_take (i := 4) (oi := ⟨some 39, _, _, _, _, _⟩) (v := ?vg5) rfl (by kernel_rfl) (by kernel_rfl) (by kernel_rfl) (fun _ _ _ h => h) (Or.inl ⟨by rfl, ?hg5⟩) hS ?rg5
        case hg5 => (intro w' hSw; (try dsimp only at hSw); go_simp; (try with_reducible rfl))
        try simp only [Act.put, List.setIfInBounds_toArray, List.set_cons_zero, List.set_cons_succ]
        refine wpAnyH_take (i := 5) (oi := ⟨some 40, _, _, _, _, _⟩) (v := ?vg6) rfl (by kernel_rfl) (by kernel_rfl) (by kernel_rfl) (fun _ _ _ h => h) (Or.inl ⟨by rfl, ?hg6⟩) hS ?rg6
        case hg6 => (intro w' hSw; (try dsimp only at hSw); go_simp; (try with_reducible rfl))
        try simp only [Act.put, List.setIfInBounds_toArray, List.set_cons_zero, List.set_cons_succ]
        refine wpAnyH_take (i := 6) (oi := ⟨some 41, _, _, _, _, _⟩) (v := ?vg7) rfl (by kernel_rfl) (by kernel_rfl) (by kernel_rfl) (fun _ _ _ h => h) (Or.inl ⟨by rfl, ?hg7⟩) hS ?rg7
        case hg7 => (intro w' hSw; (try dsimp only at hSw); go_simp; (try with_reducible rfl))
        try simp only [Act.put, List.setIfInBounds_toArray, List.set_cons_zero, List.set_cons_succ]
        refine wpAnyH_take (i := 7) (oi := ⟨some 42, _, _, _, _, _⟩) (v := ?vg8) rfl (by kernel_rfl) (by kernel_rfl) (by kernel_rfl) (fun _ _ _ h => h) (Or.inl ⟨by rfl, ?hg8⟩) hS ?rg8
        case hg8 => (intro w' hSw; (try dsimp only at hSw); go_simp; (try with_reducible rfl))
        try simp only [Act.put, List.setIfInBounds_toArray, List.set_cons_zero, List.set_cons_succ]
        refine wpAnyH_take (i := 8) (oi := ⟨some 43, _, _, _, _, _⟩) (v := ?vg9) rfl (by kernel_rfl) (by kernel_rfl) (by kernel_rfl) (fun _ _ _ h => h) (Or.inl ⟨by rfl, ?hg9⟩) hS ?rg9
        case hg9 => (intro w' hSw; (try dsimp only at hSw); go_simp; (try with_reducible rfl))
        try simp only [Act.put, List.setIfInBounds_toArray, List.set_cons_zero, List.set_cons_succ]
        refine wpAnyH_take (i := 9) (oi := ⟨some 44, _, _, _, _, _⟩) (v := ?vg10) rfl (by kernel_rfl) (by kernel_rfl) (by kernel_rfl) (fun _ _ _ h => h) (Or.inl ⟨by rfl, ?hg10⟩) hS ?rg10
        case hg10 => (intro w' hSw; (try dsimp only at hSw); go_simp; (try with_reducible rfl))
        try simp only [Act.put, List.setIfInBounds_toArray, List.set_cons_zero, List.set_cons_succ]
        refine wpAnyH_take (i := 10) (oi := ⟨some 45, _, _, _, _, _⟩) (v := ?vg11) rfl (by kernel_rfl) (by kernel_rfl) (by kernel_rfl) (fun _ _ _ h => h) (Or.inl ⟨by rfl, ?hg11⟩) hS ?rg11
        case hg11 => (intro w' hSw; (try dsimp only at hSw); go_simp; (try with_reducible rfl))
        try simp only [Act.put, List.setIfInBounds_toArray, List.set_cons_zero, List.set_cons_succ]
        refine wpAnyH_ready (rs := [11]) (by kernel_rfl) (by simp) ?_
        refine AllReadyH.cons (o := ⟨some 46, _, _, _, _, _⟩) rfl (fun K' hK' => ?_) AllReadyH.nil
        rw [if_pos (wanted_plain rfl)]
        refine wp_append_own _ _ _ 28 rfl (w.heap.size + 3) 38 ti (.agg #[.int .i64 0, .int .i64 0]) 2 16 Try.underlying28 hi hz0 hz1 hz2 rfl (by decide) _ _ _ rfl o34d ⟨bb, if c = k then off else off + k * 2, none⟩ (js.length - k) (c - k) (flatJ (js.drop k)) (slice_ite c k bb off (off + k * 2) (js.length - k) (c - k)) (by rw [flatJ_len, List.length_drop]) (jumps_behind (HCL.out _ hbd) k c hpl hc) (flat_one _) (by unfold maxLen; omega) (by omega) (Nat.le_trans (Nat.le_of_eq z0.symm) hbd.size) ?_
        intro v46 w46 o46 hg46 _
        rw [put_flat js a b k HP2.out, HNN.out] at o46
        obtain ⟨A46, c46, rfl⟩ := own_sl o46
        have hb3 := hbd.grown hg46 (Nat.le_trans (Nat.le_of_eq z0.symm) hbd.size) (fun g hg => own_from o34d g hg)
        have k4 := (hb3.block (w.heap.size + 2) (by omega)).trans k3
        have q3 : ∀ i, w46.cell? ⟨w.heap.size + 1 + 1, i, none⟩ = #[.int .i64 0, .int .i64 0, .int .i64 0, .slice none 0 0][i]? := fun i => cell_of_row w46 (w.heap.size + 2) i _ _ _ k4
        have f3 : ∀ i, w46.frozen? ⟨w.heap.size + 1 + 1, i, none⟩ = false := fun i => frozen_row (i := i) k4
        refine hK'.out _ _ (HSO.out (w.heap.size + 2) (by omega) _ (hb3.mono (by omega))) (fun _ => ?_)
        clear hK' K'
        try simp only [Act.put, List.setIfInBounds_toArray, List.set_cons_zero, List.set_cons_succ]
        refine wpAnyH_take (i := 12) (oi := ⟨some 47, _, _, _, _, _⟩) (v := ?vg12) rfl (by kernel_rfl) (by kernel_rfl) (by kernel_rfl) (fun _ _ _ h => h) (Or.inl ⟨by rfl, ?hg12⟩) (HSO.out (w.heap.size + 2) (by omega) _ (hb3.mono (by omega))) ?rg12
        case hg12 => (intro w' hSw; (try dsimp only at hSw); go_simp; (try with_reducible rfl))
        try simp only [Act.put, List.setIfInBounds_toArray, List.set_cons_zero, List.set_cons_succ]
        refine wpAnyH_ready (rs := [13]) (by kernel_rfl) (by simp) ?_
        refine AllReadyH.cons (o := ⟨none, _, _, _, _, _⟩) rfl (fun K' hK' => ?_) AllReadyH.nil
        go_simp
        have hb4 := ((((hb3.mono (show w.heap.size + 2 ≤ w.heap.size + 3 by omega)).setCell (p := ⟨w.heap.size + 1 + 1, 0, none⟩) (by dsimp only; omega) (.int .i64 s)).setCell (p := ⟨w.heap.size + 1 + 1, 1, none⟩) (by dsimp only; omega) (.int .i64 f)).setCell (p := ⟨w.heap.size + 1 + 1, 2, none⟩) (by dsimp only; omega) (.int .i64 o)).setCell (p := ⟨w.heap.size + 1 + 1, 3, none⟩) (by dsimp only; omega) (.slice A46 (js.length + 1) c46)
        refine hK'.out _ _ (HSO.out (w.heap.size + 2) (by omega) _ hb4) (fun _ => ?_)
        clear hK' K'
        try simp only [Act.put, List.setIfInBounds_toArray, List.set_cons_zero, List.set_cons_succ]
        refine wpAnyH_done (by kernel_rfl) ?_ _
        go_wp2_with fail
        all_goals
          refine bodyPost_ret (v := .agg #[.int .i64 s, .int .i64 f, .int .i64 o, .slice A46 (js.length + 1) c46]) (by simp [results, Try.results38, go_sem, q3]) rfl ?_
          refine ⟨_, rfl, ?_, h0.trans (hb4.mono (by omega))⟩
          exact own_base ((((ownsRow_setCell_below (a := ⟨w.heap.size + 1 + 1, 3, none⟩) (ownsRow_setCell_below (a := ⟨w.heap.size + 1 + 1, 2, none⟩) (ownsRow_setCell_below (a := ⟨w.heap.size + 1 + 1, 1, none⟩) (ownsRow_setCell_below (a := ⟨w.heap.size + 1 + 1, 0, none⟩) o46 (by dsimp only; omega) _) (by dsimp only; omega) _) (by dsimp only; omega) _) (by dsimp only; omega) _)))) (by omega)
      · go_wp2_with fail
        have hbd := hb.drew
        have o34d : World.ownsRow w34.drew (w.heap.size + 3) 38 2 v34 _ _ := o34
        refine wp_region_held_drew (S := (fun w' => Below (w.heap.size + 2) W0 w' ∧ (∀ i, w'.cell? ⟨w.heap.size, i, none⟩ = #[.int .i64 s, .int .i64 f, .int .i64 o, .slice (some ⟨bb, off, none⟩) js.length c][i]?) ∧ (∀ i, w'.cell? ⟨w.heap.size + 1, i, none⟩ = #[.int .i64 a, .int .i64 b][i]?))) (by kernel_rfl) (HSO.out (w.heap.size + 2) (by omega) _ (hbd.mono (by omega))) (fun hS => ?_)
        refine wpAnyH_take (i := 0) (oi := ⟨some 35, _, _, _, _, _⟩) (v := ?vh1) rfl (by kernel_rfl) (by kernel_rfl) (by kernel_rfl) (fun _ _ _ h => h) (Or.inl ⟨by rfl, ?hh1⟩) hS ?rh1
        case hh1 => (intro w' hSw; (try dsimp only at hSw); go_simp; (try with_reducible rfl))
        try simp only [Act.put, List.setIfInBounds_toArray, List.set_cons_zero, List.set_cons_succ]
        refine wpAnyH_take (i := 1) (oi := ⟨some 36, _, _, _, _, _⟩) (v := ?vh2) rfl (by kernel_rfl) (by kernel_rfl) (by kernel_rfl) (fun _ _ _ h => h) (Or.inl ⟨by rfl, ?hh2⟩) hS ?rh2
        case hh2 => (intro w' hSw; (try dsimp only at hSw); go_simp; (try with_reducible rfl))
        try simp only [Act.put, List.setIfInBounds_toArray, List.set_cons_zero, List.set_cons_succ]
        refine wpAnyH_take (i := 2) (oi := ⟨some 37, _, _, _, _, _⟩) (v := ?vh3) rfl (by kernel_rfl) (by kernel_rfl) (by kernel_rfl) (fun _ _ _ h => h) (Or.inl ⟨by rfl, ?hh3⟩) hS ?rh3
        case hh3 => (intro w' hSw; (try dsimp only at hSw); go_simp; (try with_reducible rfl))
        try simp only [Act.put, List.setIfInBounds_toArray, List.set_cons_zero, List.set_cons_succ]
        refine wpAnyH_take (i := 3) (oi := ⟨some 38, _, _, _, _, _⟩) (v := ?vh4) rfl (by kernel_rfl) (by kernel_rfl) (by kernel_rfl) (fun _ _ _ h => h) (Or.inl ⟨by rfl, ?hh4⟩) hS ?rh4
        case hh4 => (intro w' hSw; (try dsimp only at hSw); go_simp; (try with_reducible rfl))
        try simp only [Act.put, List.setIfInBounds_toArray, List.set_cons_zero, List.set_cons_succ]
        refine wpAnyH_take (i := 4) (oi := ⟨some 39, _, _, _, _, _⟩) (v := ?vh5) rfl (by kernel_rfl) (by kernel_rfl) (by kernel_rfl) (fun _ _ _ h => h) (Or.inl ⟨by rfl, ?hh5⟩) hS ?rh5
        case hh5 => (intro w' hSw; (try dsimp only at hSw); go_simp; (try with_reducible rfl))
        try simp only [Act.put, List.setIfInBounds_toArray, List.set_cons_zero, List.set_cons_succ]
        refine wpAnyH_take (i := 5) (oi := ⟨some 40, _, _, _, _, _⟩) (v := ?vh6) rfl (by kernel_rfl) (by kernel_rfl) (by kernel_rfl) (fun _ _ _ h => h) (Or.inl ⟨by rfl, ?hh6⟩) hS ?rh6
        case hh6 => (intro w' hSw; (try dsimp only at hSw); go_simp; (try with_reducible rfl))
        try simp only [Act.put, List.setIfInBounds_toArray, List.set_cons_zero, List.set_cons_succ]
        refine wpAnyH_take (i := 6) (oi := ⟨some 41, _, _, _, _, _⟩) (v := ?vh7) rfl (by kernel_rfl) (by kernel_rfl) (by kernel_rfl) (fun _ _ _ h => h) (Or.inl ⟨by rfl, ?hh7⟩) hS ?rh7
        case hh7 => (intro w' hSw; (try dsimp only at hSw); go_simp; (try with_reducible rfl))
        try simp only [Act.put, List.setIfInBounds_toArray, List.set_cons_zero, List.set_cons_succ]
        refine wpAnyH_take (i := 7) (oi := ⟨some 42, _, _, _, _, _⟩) (v := ?vh8) rfl (by kernel_rfl) (by kernel_rfl) (by kernel_rfl) (fun _ _ _ h => h) (Or.inl ⟨by rfl, ?hh8⟩) hS ?rh8
        case hh8 => (intro w' hSw; (try dsimp only at hSw); go_simp; (try with_reducible rfl))
        try simp only [Act.put, List.setIfInBounds_toArray, List.set_cons_zero, List.set_cons_succ]
        refine wpAnyH_take (i := 8) (oi := ⟨some 43, _, _, _, _, _⟩) (v := ?vh9) rfl (by kernel_rfl) (by kernel_rfl) (by kernel_rfl) (fun _ _ _ h => h) (Or.inl ⟨by rfl, ?hh9⟩) hS ?rh9
        case hh9 => (intro w' hSw; (try dsimp only at hSw); go_simp; (try with_reducible rfl))
        try simp only [Act.put, List.setIfInBounds_toArray, List.set_cons_zero, List.set_cons_succ]
        refine wpAnyH_take (i := 9) (oi := ⟨some 44, _, _, _, _, _⟩) (v := ?vh10) rfl (by kernel_rfl) (by kernel_rfl) (by kernel_rfl) (fun _ _ _ h => h) (Or.inl ⟨by rfl, ?hh10⟩) hS ?rh10
        case hh10 => (intro w' hSw; (try dsimp only at hSw); go_simp; (try with_reducible rfl))
        try simp only [Act.put, List.setIfInBounds_toArray, List.set_cons_zero, List.set_cons_succ]
        refine wpAnyH_take (i := 10) (oi := ⟨some 45, _, _, _, _, _⟩) (v := ?vh11) rfl (by kernel_rfl) (by kernel_rfl) (by kernel_rfl) (fun _ _ _ h => h) (Or.inl ⟨by rfl, ?hh11⟩) hS ?rh11
        case hh11 => (intro w' hSw; (try dsimp only at hSw); go_simp; (try with_reducible rfl))
        try simp only [Act.put, List.setIfInBounds_toArray, List.set_cons_zero, List.set_cons_succ]
        refine wpAnyH_ready (rs := [11]) (by kernel_rfl) (by simp) ?_
        refine AllReadyH.cons (o := ⟨some 46, _, _, _, _, _⟩) rfl (fun K' hK' => ?_) AllReadyH.nil
        rw [if_pos (wanted_plain rfl)]
        refine wp_append_own _ _ _ 28 rfl (w.heap.size + 3) 38 ti (.agg #[.int .i64 0, .int .i64 0]) 2 16 Try.underlying28 hi hz0 hz1 hz2 rfl (by decide) _ _ _ rfl o34d ⟨bb, if c = k then off else off + k * 2, none⟩ (js.length - k) (c - k) (flatJ (js.drop k)) (slice_ite c k bb off (off + k * 2) (js.length - k) (c - k)) (by rw [flatJ_len, List.length_drop]) (jumps_behind (HCL.out _ hbd) k c hpl hc) (flat_one _) (by unfold maxLen; omega) (by omega) (Nat.le_trans (Nat.le_of_eq z0.symm) hbd.size) ?_
        intro v46 w46 o46 hg46 _
        rw [put_flat js a b k HP2.out, HNN.out] at o46
        obtain ⟨A46, c46, rfl⟩ := own_sl o46
        have hb3 := hbd.grown hg46 (Nat.le_trans (Nat.le_of_eq z0.symm) hbd.size) (fun g hg => own_from o34d g hg)
        have k4 := (hb3.block (w.heap.size + 2) (by omega)).trans k3
        have q3 : ∀ i, w46.cell? ⟨w.heap.size + 1 + 1, i, none⟩ = #[.int .i64 0, .int .i64 0, .int .i64 0, .slice none 0 0][i]? := fun i => cell_of_row w46 (w.heap.size + 2) i _ _ _ k4
        have f3 : ∀ i, w46.frozen? ⟨w.heap.size + 1 + 1, i, none⟩ = false := fun i => frozen_row (i := i) k4
        refine hK'.out _ _ (HSO.out (w.heap.size + 2) (by omega) _ (hb3.mono (by omega))) (fun _ => ?_)
        clear hK' K'
        try simp only [Act.put, List.setIfInBounds_toArray, List.set_cons_zero, List.set_cons_succ]
        refine wpAnyH_take (i := 12) (oi := ⟨some 47, _, _, _, _, _⟩) (v := ?vh12) rfl (by kernel_rfl) (by kernel_rfl) (by kernel_rfl) (fun _ _ _ h => h) (Or.inl ⟨by rfl, ?hh12⟩) (HSO.out (w.heap.size + 2) (by omega) _ (hb3.mono (by omega))) ?rh12
        case hh12 => (intro w' hSw; (try dsimp only at hSw); go_simp; (try with_reducible rfl))
        try simp only [Act.put, List.setIfInBounds_toArray, List.set_cons_zero, List.set_cons_succ]
        refine wpAnyH_ready (rs := [13]) (by kernel_rfl) (by simp) ?_
        refine AllReadyH.cons (o := ⟨none, _, _, _, _, _⟩) rfl (fun K' hK' => ?_) AllReadyH.nil
        go_simp
        have hb4 := ((((hb3.mono (show w.heap.size + 2 ≤ w.heap.size + 3 by omega)).setCell (p := ⟨w.heap.size + 1 + 1, 0, none⟩) (by dsimp only; omega) (.int .i64 s)).setCell (p := ⟨w.heap.size + 1 + 1, 1, none⟩) (by dsimp only; omega) (.int .i64 f)).setCell (p := ⟨w.heap.size + 1 + 1, 2, none⟩) (by dsimp only; omega) (.int .i64 o)).setCell (p := ⟨w.heap.size + 1 + 1, 3, none⟩) (by dsimp only; omega) (.slice A46 (js.length + 1) c46)
        refine hK'.out _ _ (HSO.out (w.heap.size + 2) (by omega) _ hb4) (fun _ => ?_)
        clear hK' K'
        try simp only [Act.put, List.setIfInBounds_toArray, List.set_cons_zero, List.set_cons_succ]
        refine wpAnyH_done (by kernel_rfl) ?_ _
        go_wp2_with fail
        all_goals
          refine bodyPost_ret (v := .agg #[.int .i64 s, .int .i64 f, .int .i64 o, .slice A46 (js.length + 1) c46]) (by simp [results, Try.results38, go_sem, q3]) rfl ?_
          refine ⟨_, rfl, ?_, h0.trans (hb4.mono (by omega))⟩
          exact own_base ((((ownsRow_setCell_below (a := ⟨w.heap.size + 1 + 1, 3, none⟩) (ownsRow_setCell_below (a := ⟨w.heap.size + 1 + 1, 2, none⟩) (ownsRow_setCell_below (a := ⟨w.heap.size + 1 + 1, 1, none⟩) (ownsRow_setCell_below (a := ⟨w.heap.size + 1 + 1, 0, none⟩) o46 (by dsimp only; omega) _) (by dsimp only; omega) _) (by dsimp only; omega) _) (by dsimp only; omega) _)))) (by omega)
end Go.Proofs.Ytndodohngeaklaa

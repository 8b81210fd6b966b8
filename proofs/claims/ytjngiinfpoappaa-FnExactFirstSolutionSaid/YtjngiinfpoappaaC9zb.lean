/-
  Puzzles: FirstSolution on both sides.
-/
import Derived.Test.YtjngiinfpoappaaC9u
namespace Go.Proofs.Ytjngiinfpoappaa
open Go.RowKit

/-- A board and a Bool. -/
abbrev BdR := (Int × Int × Int × List (Int × Int)) × Bool
/-- A board and a Bool handed back, the jumps in a row of its own, from block B on. -/
def BdBack (B : Nat) (w : World) (R : BdR) (e : Ending) (w' : World) : Prop :=
  ∃ A' c', e = .returned (.tuple #[.agg #[.int .i64 R.1.1, .int .i64 R.1.2.1, .int .i64 R.1.2.2.1, .slice A' R.1.2.2.2.length c'], .bool R.2]) ∧ OJ w' B 101 A' R.1.2.2.2.length (fun k => R.1.2.2.2.getD k (0, 0)) ∧ Below B w w'
def noBd : BdR := ((0, 0, 0, []), false)
def firstV : List Brd → BdR
  | [] => noBd
  | x :: _ => ((x.1.1, x.1.2.1, x.1.2.2, x.2), true)
theorem firstV_nil {K : List Brd} (h : K.length = 0) : firstV K = noBd := by obtain rfl := List.length_eq_zero_iff.1 h; rfl
theorem firstV_cons {K : List Brd} (h : 0 < K.length) : firstV K = (((K[0]'h).1.1, (K[0]'h).1.2.1, (K[0]'h).1.2.2, (K[0]'h).2), true) := by
  cases K with
  | nil => simp at h
  | cons x t => rfl
noncomputable def firstR (q f : Int) (L : List Qd) : BdR := if pzB q f L then firstV (keepL (oversL q f q.toNat 3) L) else noBd
theorem firstR_no {q f : Int} {L : List Qd} (h : pzB q f L = false) : firstR q f L = noBd := by rw [firstR, h]; rfl
theorem firstR_yes {S : Nat} {f : Int} {L : List Qd} (h : pzB (S : Int) f L = true) : firstR (S : Int) f L = firstV (keepL (oversL (S : Int) f S 3) L) := by rw [firstR, h]; rfl
theorem keepL_hid {S : Nat} {f : Int} {L : List Qd} (hS : 1 ≤ S ∧ S ≤ 10) (hf : 1 ≤ f ∧ f ≤ 8) {x : Brd} (hx : x ∈ keepL (oversL (S : Int) f S 3) L) : HidX (S : Int) f x := oversL_hid hS hf 3 (Nat.le_refl _) x (List.mem_filter.1 hx).1
theorem firstR_good (q f : Int) (L : List Qd) : (firstR q f L).1.2.2.2.length ≤ 1 ∧ wfJ (firstR q f L).1.2.2.2 := by
  cases h : pzB q f L
  · rw [firstR_no h]; exact ⟨Nat.zero_le _, fun j hj => by cases hj⟩
  · obtain ⟨S, rfl, hS, hf, _⟩ := pz_yes h
    rw [firstR_yes h]
    rcases Nat.eq_zero_or_pos (keepL (oversL (S : Int) f S 3) L).length with h0 | h0
    · rw [firstV_nil h0]; exact ⟨Nat.zero_le _, fun j hj => by cases hj⟩
    · rw [firstV_cons h0]
      have hX := keepL_hid hS hf (List.getElem_mem h0)
      have hp := hidB_parts hX.2.2
      exact ⟨hp.2.2, good_wfJ hp.1⟩
theorem firstR_len {q f : Int} {L : List Qd} : (firstR q f L).1.2.2.2.length ≤ 1048576 := Nat.le_trans (firstR_good q f L).1 (by omega)
theorem firstR_wf {q f : Int} {L : List Qd} : wfJ (firstR q f L).1.2.2.2 := (firstR_good q f L).2
theorem noBd_back (w w' : World) (hb : Below w.heap.size w w') : BdBack w.heap.size w noBd (.returned (.tuple #[.agg #[.int .i64 0, .int .i64 0, .int .i64 0, .slice none 0 0], .bool false])) w' := ⟨none, 0, rfl, .inl rfl, hb⟩
theorem OJ.setB {w : World} {lo n : Nat} {t : TypeId} {A : Option Addr} {F : Nat → Int × Int} (h : OJ w lo t A n F) {p : Addr} (hp : p.block < lo) (v : Value) : OJ (w.setCell p v) lo t A n F := by
  rcases h with h | ⟨g, e, h1, h⟩
  · exact .inl h
  · exact .inr ⟨g, e, h1, h.far (by omega) _⟩
theorem OJ.lowB {w : World} {lo lo' n : Nat} {t : TypeId} {A : Option Addr} {F : Nat → Int × Int} (h : OJ w lo t A n F) (hl : lo' ≤ lo) : OJ w lo' t A n F := h.imp id fun ⟨g, e, h1, h2⟩ => ⟨g, e, Nat.le_trans hl h1, h2⟩

set_option maxRecDepth 100000 in
set_option maxHeartbeats 1000000 in
theorem specFirstSol_any (q f : Int) (L : List Qd) (A : Option Addr) (cp : Nat) (w : World) (hL : RQ w w.heap.size A L) : Calls Try.prog 28 #[.agg #[.int .i64 q, .int .i64 f, .slice A L.length cp]] w (BdBack w.heap.size w (firstR q f L)) := by
  have hl := hL.1
  cases h : pzB q f L
  · rw [firstR_no h]
    have H := Lib.hid h
    clear h
    go_enter Try.func28, Try.ntmps28
    go_wp2_with fail
    refine (pzGood_any q f A cp L _ (hL.go (below2 _ _ _))).mono ?_
    rintro e w2 ⟨rfl, hx⟩
    simp only [World.size_alloc] at hx
    have k2 := (hx.block (w.heap.size + 1) (by omega)).trans (heap_alloc_at _ (.cells #[.int .i64 0, .int .i64 0, .int .i64 0, .slice none 0 0] 44) _ (by simp))
    have q2 := fun i => cell_of_row w2 (w.heap.size + 1) i _ _ _ k2
    have z2 := fun i => frozen_row (i := i) k2
    have hb2 : Below w.heap.size w w2 := (below2 w _ _).trans (hx.mono (by omega))
    rw [H.out]
    go_wp2
    exact bodyPost_ret (v := .tuple #[.agg #[.int .i64 0, .int .i64 0, .int .i64 0, .slice none 0 0], .bool false]) (by simp [results, Try.results28, go_sem, q2]) rfl (noBd_back w _ ((((hb2.setCell (by simp) _).setCell (by simp) _).setCell (by simp) _).setCell (by simp) _))
  · obtain ⟨S, rfl, hS, hf, hq⟩ := pz_yes h
    rw [firstR_yes h]
    have hkl := keepL_len S f L hS.2
    obtain ⟨K, hK⟩ : ∃ K, K = keepL (oversL (S : Int) f S 3) L := ⟨_, rfl⟩
    rw [← hK] at hkl ⊢
    have HK := Lib.hid hK; have HQ := Lib.hid hq; have H := Lib.hid h
    clear h hq hK
    obtain ⟨V, hV⟩ : ∃ V, V = firstV K := ⟨_, rfl⟩
    rw [← hV]
    have HV := Lib.hid hV
    clear hV
    go_enter Try.func28, Try.ntmps28
    go_wp2_with fail
    refine (pzGood_any (S : Int) f A cp L _ (hL.go (below2 _ _ _))).mono ?_
    rintro e w2 ⟨rfl, hx⟩
    rw [H.out]
    simp only [World.size_alloc] at hx
    have k1 := (hx.block w.heap.size (by omega)).trans ((Below.heap_alloc _ _ _ (by simp)).trans (heap_alloc_at w (.cells #[.int .i64 (S : Int), .int .i64 f, .slice A L.length cp] 34) _ rfl))
    have k2 := (hx.block (w.heap.size + 1) (by omega)).trans (heap_alloc_at _ (.cells #[.int .i64 0, .int .i64 0, .int .i64 0, .slice none 0 0] 44) _ (by simp))
    have q1 := fun i => cell_of_row w2 w.heap.size i _ _ _ k1
    have hb : Below w.heap.size w w2 := (below2 w _ _).trans (hx.mono (by omega))
    have hs2 : w.heap.size + 1 + 1 ≤ w2.heap.size := by have := hx.size; simpa using this
    go_wp2_with fail
    refine (pzAll_any S f A A L.length cp cp L _ hS hf (hL.go hb) HQ.out).mono ?_
    rintro e w3 ⟨v, rfl, hO, hx3⟩
    rw [← HK.out] at hO
    have k23 := (hx3.block _ (heap_lt k2)).trans k2
    have q2 := fun i => cell_of_row w3 (w.heap.size + 1) i _ _ _ k23
    have z2 := fun i => frozen_row (i := i) k23
    have hb3 := hb.trans (hx3.mono hb.size)
    clear q1 hx
    by_cases h0 : K.length = 0
    · obtain rfl : V = noBd := by rw [HV.out]; exact firstV_nil h0
      obtain ⟨A3, c3, rfl, _⟩ := hO.slice
      rw [h0]
      have H0 := Lib.hid h0
      clear hO h0
      go_wp2
      exact bodyPost_ret (v := .tuple #[.agg #[.int .i64 0, .int .i64 0, .int .i64 0, .slice none 0 0], .bool false]) (by simp [results, Try.results28, go_sem, q2]) rfl (noBd_back w _ ((((hb3.setCell (by simp) _).setCell (by simp) _).setCell (by simp) _).setCell (by simp) _))
    · have hp : 0 < K.length := by omega
      have hz : ((K.length : Int) == 0) = false := beq_eq_false_iff_ne.2 (by omega)
      have hVc : V = _ := HV.out.trans (firstV_cons hp)
      obtain ⟨g, c1, v0, rfl, hg1, hg2, hJ, y0, y1, y2, y3⟩ := hO.at_ hp
      obtain ⟨x, hxe⟩ : ∃ x, x = K[0]'hp := ⟨_, rfl⟩
      rw [← hxe] at hVc hJ y0 y1 y2
      obtain ⟨⟨s', f', o'⟩, js⟩ := x
      obtain ⟨Aj, cj, rfl, _, hOJ⟩ := hJ
      dsimp only at hVc hOJ y0 y1 y2
      have y0 : w3.cell? ⟨g, 0, none⟩ = some (.int .i64 s') := by simpa using y0
      have y1 : w3.cell? ⟨g, 1, none⟩ = some (.int .i64 f') := by simpa using y1
      have y2 : w3.cell? ⟨g, 2, none⟩ = some (.int .i64 o') := by simpa using y2
      have y3 : w3.cell? ⟨g, 3, none⟩ = some (.slice Aj js.length cj) := by simpa using y3
      obtain ⟨V0, hV0⟩ : ∃ V0 : BdR, V0 = ((s', f', o', js), true) := ⟨_, rfl⟩
      obtain rfl : V = V0 := hVc.trans hV0.symm
      have hfin : ∀ w', (∃ e, e = w') → OJ w' w2.heap.size 101 Aj js.length (fun k => js.getD k (0, 0)) → Below w.heap.size w w' → BdBack w.heap.size w V (.returned (.tuple #[.agg #[.int .i64 s', .int .i64 f', .int .i64 o', .slice Aj js.length cj], .bool true])) w' := fun w' _ ho hbb => by
        rw [hV0]
        exact ⟨Aj, cj, rfl, ho.lowB hb.size, hbb⟩
      have HF := Lib.hid hfin
      have HOJ := Lib.hid hOJ
      clear hO hVc hxe h0 hfin hOJ hV0
      go_wp2
      exact bodyPost_ret (v := .tuple #[.agg #[.int .i64 s', .int .i64 f', .int .i64 o', .slice Aj js.length cj], .bool true]) (by simp [results, Try.results28, go_sem, q2]) rfl
        (HF.out _ ⟨_, rfl⟩ ((((HOJ.out.setB (by dsimp only; omega) _).setB (by dsimp only; omega) _).setB (by dsimp only; omega) _).setB (by dsimp only; omega) _) ((((hb3.setCell (by simp) _).setCell (by simp) _).setCell (by simp) _).setCell (by simp) _))

set_option maxRecDepth 100000 in
set_option maxHeartbeats 1000000 in
theorem implFirstSol_any (q f : Int) (L : List Qd) (A : Option Addr) (cp : Nat) (w : World) (hL : RQ w w.heap.size A L) : Calls Try.prog 29 #[.agg #[.int .i64 q, .int .i64 f, .slice A L.length cp]] w (BdBack w.heap.size w (firstR q f L)) := by
  have hl := hL.1
  cases h : pzB q f L
  · rw [firstR_no h]
    have H := Lib.hid h
    clear h
    go_enter Try.func29, Try.ntmps29
    go_wp2_with fail
    refine (implSolutions_no q f A cp L _ (hL.go (below2 _ _ _)) H.out).mono ?_
    rintro e w2 ⟨rfl, hx⟩
    simp only [World.size_alloc] at hx
    have k2 := (hx.block (w.heap.size + 1) (by omega)).trans (heap_alloc_at _ (.cells #[.int .i64 0, .int .i64 0, .int .i64 0, .slice none 0 0] 44) _ (by simp))
    have q2 := fun i => cell_of_row w2 (w.heap.size + 1) i _ _ _ k2
    have z2 := fun i => frozen_row (i := i) k2
    have hb2 : Below w.heap.size w w2 := (below2 w _ _).trans (hx.mono (by omega))
    go_wp2
    exact bodyPost_ret (v := .tuple #[.agg #[.int .i64 0, .int .i64 0, .int .i64 0, .slice none 0 0], .bool false]) (by simp [results, Try.results29, go_sem, q2]) rfl (noBd_back w _ ((((hb2.setCell (by simp) _).setCell (by simp) _).setCell (by simp) _).setCell (by simp) _))
  · obtain ⟨S, rfl, hS, hf, hq⟩ := pz_yes h
    rw [firstR_yes h]
    have hkl := keepL_len S f L hS.2
    obtain ⟨K, hK⟩ : ∃ K, K = keepL (oversL (S : Int) f S 3) L := ⟨_, rfl⟩
    rw [← hK] at hkl ⊢
    have HK := Lib.hid hK; have H := Lib.hid h
    clear h hq hK
    obtain ⟨V, hV⟩ : ∃ V, V = firstV K := ⟨_, rfl⟩
    rw [← hV]
    have HV := Lib.hid hV
    clear hV
    go_enter Try.func29, Try.ntmps29
    go_wp2_with fail
    refine (implSolutions_yes S f A cp L _ (hL.go (below2 _ _ _)) H.out).mono ?_
    rintro e w3 ⟨v, rfl, hO, hx⟩
    rw [← HK.out] at hO
    simp only [World.size_alloc] at hx hO
    have k2 := (hx.block (w.heap.size + 1) (by omega)).trans (heap_alloc_at _ (.cells #[.int .i64 0, .int .i64 0, .int .i64 0, .slice none 0 0] 44) _ (by simp))
    have q2 := fun i => cell_of_row w3 (w.heap.size + 1) i _ _ _ k2
    have z2 := fun i => frozen_row (i := i) k2
    have hb3 : Below w.heap.size w w3 := (below2 w _ _).trans (hx.mono (by omega))
    by_cases h0 : K.length = 0
    · obtain rfl : V = noBd := by rw [HV.out]; exact firstV_nil h0
      obtain ⟨A3, c3, rfl, _⟩ := hO.slice
      rw [h0]
      have H0 := Lib.hid h0
      clear hO h0
      go_wp2
      exact bodyPost_ret (v := .tuple #[.agg #[.int .i64 0, .int .i64 0, .int .i64 0, .slice none 0 0], .bool false]) (by simp [results, Try.results29, go_sem, q2]) rfl (noBd_back w _ ((((hb3.setCell (by simp) _).setCell (by simp) _).setCell (by simp) _).setCell (by simp) _))
    · have hp : 0 < K.length := by omega
      have hz : ((K.length : Int) == 0) = false := beq_eq_false_iff_ne.2 (by omega)
      have hVc : V = _ := HV.out.trans (firstV_cons hp)
      obtain ⟨g, c1, v0, rfl, hg1, hg2, hJ, y0, y1, y2, y3⟩ := hO.at_ hp
      obtain ⟨x, hxe⟩ : ∃ x, x = K[0]'hp := ⟨_, rfl⟩
      rw [← hxe] at hVc hJ y0 y1 y2
      obtain ⟨⟨s', f', o'⟩, js⟩ := x
      obtain ⟨Aj, cj, rfl, _, hOJ⟩ := hJ
      dsimp only at hVc hOJ y0 y1 y2
      have y0 : w3.cell? ⟨g, 0, none⟩ = some (.int .i64 s') := by simpa using y0
      have y1 : w3.cell? ⟨g, 1, none⟩ = some (.int .i64 f') := by simpa using y1
      have y2 : w3.cell? ⟨g, 2, none⟩ = some (.int .i64 o') := by simpa using y2
      have y3 : w3.cell? ⟨g, 3, none⟩ = some (.slice Aj js.length cj) := by simpa using y3
      obtain ⟨V0, hV0⟩ : ∃ V0 : BdR, V0 = ((s', f', o', js), true) := ⟨_, rfl⟩
      obtain rfl : V = V0 := hVc.trans hV0.symm
      have hfin : ∀ w', (∃ e, e = w') → OJ w' (w.heap.size + 1 + 1) 101 Aj js.length (fun k => js.getD k (0, 0)) → Below w.heap.size w w' → BdBack w.heap.size w V (.returned (.tuple #[.agg #[.int .i64 s', .int .i64 f', .int .i64 o', .slice Aj js.length cj], .bool true])) w' := fun w' _ ho hbb => by
        rw [hV0]
        exact ⟨Aj, cj, rfl, ho.lowB (by omega), hbb⟩
      have HF := Lib.hid hfin
      have HOJ := Lib.hid hOJ
      clear hO hVc hxe h0 hfin hOJ hV0
      go_wp2
      exact bodyPost_ret (v := .tuple #[.agg #[.int .i64 s', .int .i64 f', .int .i64 o', .slice Aj js.length cj], .bool true]) (by simp [results, Try.results29, go_sem, q2]) rfl
        (HF.out _ ⟨_, rfl⟩ ((((HOJ.out.setB (by dsimp only; omega) _).setB (by dsimp only; omega) _).setB (by dsimp only; omega) _).setB (by dsimp only; omega) _) ((((hb3.setCell (by simp) _).setCell (by simp) _).setCell (by simp) _).setCell (by simp) _))
theorem firstSolution_both (q f : Int) (L : List Qd) :
    (∀ (A : Option Addr) (c : Nat) (w : World), RQ w w.heap.size A L → Calls Try.prog 28 #[.agg #[.int .i64 q, .int .i64 f, .slice A L.length c]] w (BdBack w.heap.size w (firstR q f L))) ∧
    (∀ (A : Option Addr) (c : Nat) (w : World), RQ w w.heap.size A L → Calls Try.prog 29 #[.agg #[.int .i64 q, .int .i64 f, .slice A L.length c]] w (BdBack w.heap.size w (firstR q f L))) :=
  ⟨fun A c w hL => specFirstSol_any q f L A c w hL, fun A c w hL => implFirstSol_any q f L A c w hL⟩
end Go.Proofs.Ytjngiinfpoappaa

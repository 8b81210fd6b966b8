/-
  Puzzles: AddClue on both sides.
-/
import Derived.Test.YtmhffdgfkgdmlabC9h
namespace Go.Proofs.Ytmhffdgfkgdmlab
open Go.RowKit

/-- AddClue. -/
def addPz (q f : Int) (L : List Qd) (x : Qd) : (Int × Int × List Qd) × Bool := if pzB q f L && pzB q f (L ++ [x]) then ((q, f, L ++ [x]), true) else noPz
theorem pzB_app (q f : Int) (L : List Qd) (x : Qd) (h : pzB q f L = true) : pzB q f (L ++ [x]) = (clQ q f x && !decide ((L.length : Int) = 6)) := by
  have h6 := (pzB_parts h).2.2.1
  rw [pzB, Bool.and_eq_true, Bool.and_eq_true] at h
  rw [pzB, h.1.1, List.all_append, h.2, List.length_append]
  have e : decide (L.length + [x].length ≤ 6) = !decide ((L.length : Int) = 6) := by
    rw [Bool.eq_iff_iff]; simp; omega
  rw [e]
  simp [Bool.and_comm]
/-- Block g holds one clue. -/
def OneQ (w : World) (g : Nat) (t : TypeId) (x : Qd) : Prop := w.heap[g]? = some (.cells #[.int .i64 x.1, .int .i64 x.2.1, .int .i64 x.2.2.1, .int .i64 x.2.2.2] t (0, 0))
theorem OneQ.made {N : Nat} {W0 w : World} (_ : Below N W0 w) (t : TypeId) (a b c d : Int) (g : Nat) (hg : g = w.heap.size) : OneQ (w.alloc (.cells #[.int .i64 a, .int .i64 b, .int .i64 c, .int .i64 d] t)) g t (a, b, c, d) := heap_alloc_at _ _ _ hg
theorem OneQ.lt {w : World} {g : Nat} {t : TypeId} {x : Qd} (h : OneQ w g t x) : g < w.heap.size := heap_lt h
theorem OneQ.alloc {w : World} {g : Nat} {t : TypeId} {x : Qd} (h : OneQ w g t x) (o : Obj) : OneQ (w.alloc o) g t x := (Below.heap_alloc w o g h.lt).trans h
theorem OneQ.grown {w w' : World} {g : Nat} {t : TypeId} {x : Qd} {row : Option Nat} (h : OneQ w g t x) (hg : w.grownBy w' row) (hne : some g ≠ row) : OneQ w' g t x := (hg.block g h.lt hne).trans h
theorem OneQ.rq {w : World} {g : Nat} {t : TypeId} {x : Qd} (h : OneQ w g t x) : RQ w w.heap.size (some ⟨g, 0, none⟩) [x] := by
  refine ⟨by simp, .inr ⟨g, 0, rfl, h.lt, fun i hi => ?_⟩⟩
  obtain rfl : i = 0 := by simp at hi; exact hi
  refine ⟨?_, ?_, ?_, ?_⟩ <;> exact cell_of_row _ g _ _ _ _ h
theorem own_baseQ {w : World} {base b0 e size n : Nat} {v : Value} {xs : List Value} (h : w.ownsRow base e size v n xs) (hb : b0 ≤ base) : w.ownsRow b0 e size v n xs := by
  obtain ⟨h0, h | ⟨g, cap, cs, e1, hg, r⟩⟩ := h
  · exact ⟨h0, .inl h⟩
  · exact ⟨h0, .inr ⟨g, cap, cs, e1, Nat.le_trans hb hg, r⟩⟩
theorem own_lt {w : World} {base e size n : Nat} {v : Value} {xs : List Value} (h : w.ownsRow base e size v n xs) : ∀ g, v.ownBlock = some g → g < w.heap.size := by
  intro g hg
  rcases h.2 with ⟨rfl, _⟩ | ⟨g', cap, cs, rfl, _, hh, _⟩
  · simp [Value.ownBlock] at hg
  · simp [Value.ownBlock] at hg
    subst hg
    exact heap_lt hh
/-- Clues in a row of the call's own. -/
def QOwn (E : List Qd) (w : World) (e : Ending) (w' : World) : Prop := ∃ A' c', e = .returned (.slice A' E.length c') ∧ w'.ownsRow w.heap.size 33 4 (.slice A' E.length c') E.length (flatQ E) ∧ Below w.heap.size w w'
theorem sizeClue : (Try.prog.info? 33).map (·.size) = some 4 := by kernel_rfl

set_option maxHeartbeats 1000000 in
theorem cloneQ_own (A : Option Addr) (c : Nat) (L : List Qd) (w : World) (hL : RQ w w.heap.size A L) :
    Calls Try.prog 102 #[.slice A L.length c] w (QOwn L w) := by
  have hl := hL.1
  have qnil : ∀ (w : World) (a : Option Addr) (n c n' c' : Nat), (binOp .eql 48 (.slice a n c) (.slice none n' c')).run Try.prog w = .ok (.bool a.isNone) w := fun w a n c n' c' => Lib.run_eql_slice_nil w _ _ a n c n' c' Try.underlying48
  obtain ⟨i0, hi, hz0, hz1, hz2⟩ := info_parts infoClueW
  cases A with
  | none =>
    obtain rfl : L = [] := by
      rcases hL.2 with h | ⟨b, off, e', _⟩
      · exact h
      · cases e'
    have hn : (none : Option Addr).isNone = true := rfl
    go_enter Try.func102, Try.ntmps102
    go_wp2
    go_ret
    exact ⟨none, 0, rfl, ⟨rfl, .inl ⟨rfl, rfl⟩⟩, Below.refl _ _⟩
  | some ad =>
    have o5 := own_made4 (N := w.heap.size) (w := w) (Nat.le_refl _) 33 w.heap.size rfl
    have hn : (some ad : Option Addr).isNone = false := rfl
    go_enter Try.func102, Try.ntmps102
    go_wp2_with (at_builtin; go_loud (refine wpList_appendQ rfl _ _ 48 rfl w.heap.size 33 i0 (.agg #[.int .i64 0, .int .i64 0, .int .i64 0, .int .i64 0]) Try.underlying48 hi hz0 hz1 hz2 rfl _ 0 [] rfl o5 w.heap.size (some ad) L.length c L rfl rfl (hL.below (below1 _ _)) (by omega) (by simp) ?_; intro v7 w7 o7 g7))
    have hb7 : Below w.heap.size w w7 := (below1 w _).grown g7 (by simp) (own_from o5)
    have o8 : w7.ownsRow w.heap.size 33 4 v7 L.length (flatQ L) := by simpa using o7
    obtain ⟨A8, c8, rfl, _⟩ := own_sliceQ o8
    have hR : QOwn L w (.returned (.slice A8 L.length c8)) w7 := ⟨A8, c8, rfl, o8, hb7⟩
    clear o7 g7 o5 o8
    go_wp2
    go_ret
    exact hR


set_option maxRecDepth 100000 in
theorem withClues_own (q f : Int) (A0 A : Option Addr) (n0 c0 c : Nat) (L : List Qd) (w : World) (hL : RQ w w.heap.size A L) :
    Calls Try.prog 86 #[.agg #[.int .i64 q, .int .i64 f, .slice A0 n0 c0], .slice A L.length c] w fun e w' => ∃ A' c', e = .returned (.agg #[.int .i64 q, .int .i64 f, .slice A' L.length c']) ∧ w'.ownsRow w.heap.size 33 4 (.slice A' L.length c') L.length (flatQ L) ∧ Below w.heap.size w w' := by
  have hl := hL.1
  go_enter Try.func86, Try.ntmps86
  go_wp2_with fail
  refine (cloneQ_own A c L _ (hL.go (below2 w _ _))).mono ?_
  rintro e w2 ⟨A', c', rfl, hO, hx⟩
  simp only [World.size_alloc] at hO hx
  have k1 := (hx.block w.heap.size (by omega)).trans ((Below.heap_alloc _ _ _ (by simp)).trans (heap_alloc_at w (.cells #[.int .i64 q, .int .i64 f, .slice A0 n0 c0] 50) _ rfl))
  have k2 := (hx.block (w.heap.size + 1) (by omega)).trans (heap_alloc_at _ (.cells #[.int .i64 0, .int .i64 0, .slice none 0 0] 50) _ (by simp))
  have q1 := fun i => cell_of_row w2 w.heap.size i _ _ _ k1
  have z1 := fun i => frozen_row (i := i) k1
  have q2 := fun i => cell_of_row w2 (w.heap.size + 1) i _ _ _ k2
  have z2 := fun i => frozen_row (i := i) k2
  have hb2 : Below w.heap.size w w2 := (below2 w _ _).trans (hx.mono (by omega))
  have HO := Lib.hid hO; clear hO
  clear k1 k2
  go_wp2
  exact bodyPost_ret (v := .agg #[.int .i64 q, .int .i64 f, .slice A' L.length c']) (by simp [results, Try.results86, go_sem, q2]) rfl
    ⟨A', c', rfl, own_baseQ (ownsRow_setCell_below (ownsRow_setCell_below (ownsRow_setCell_below (ownsRow_setCell_below HO.out (by dsimp only; omega) _) (by dsimp only; omega) _) (by dsimp only; omega) _) (by dsimp only; omega) _) (by omega), (((hb2.setCell (by simp) _).setCell (by simp) _).setCell (by simp) _).setCell (by simp) _⟩

set_option maxRecDepth 100000 in
set_option maxHeartbeats 500000 in
theorem specAddClue_bad (q f ck ca cb cc : Int) (A : Option Addr) (cp : Nat) (L : List Qd) (w : World) (hL : RQ w w.heap.size A L) (hg : pzB q f L = false) : Calls Try.prog 50 #[.agg #[.int .i64 q, .int .i64 f, .slice A L.length cp], .agg #[.int .i64 ck, .int .i64 ca, .int .i64 cb, .int .i64 cc]] w (PzBack w.heap.size w noPz) := by
  have HG := Lib.hid hg
  clear hg
  have hl := hL.1
  go_enter Try.func50, Try.ntmps50
  go_wp2_with fail
  refine (pzGood_any q f A cp L _ (hL.go (below3 w _ _ _))).mono ?_
  rintro e w2 ⟨rfl, hx⟩
  simp only [World.size_alloc] at hx
  have k12 := (hx.block w.heap.size (by omega)).trans ((Below.heap_alloc _ _ _ (by simp; omega)).trans ((Below.heap_alloc _ _ _ (by simp)).trans (heap_alloc_at w (.cells #[.int .i64 q, .int .i64 f, .slice A L.length cp] 50) _ rfl)))
  have k22 := (hx.block (w.heap.size + 1) (by omega)).trans ((Below.heap_alloc _ _ _ (by simp)).trans (heap_alloc_at _ (.cells #[.int .i64 ck, .int .i64 ca, .int .i64 cb, .int .i64 cc] 33) _ (by simp)))
  have k32 := (hx.block (w.heap.size + 1 + 1) (by omega)).trans (heap_alloc_at _ (.cells #[.int .i64 0, .int .i64 0, .slice none 0 0] 50) _ (by simp))
  have q12 := fun i => cell_of_row w2 (w.heap.size) i _ _ _ k12
  have q22 := fun i => cell_of_row w2 (w.heap.size + 1) i _ _ _ k22
  have q32 := fun i => cell_of_row w2 (w.heap.size + 1 + 1) i _ _ _ k32
  have z32 := fun i => frozen_row (i := i) k32
  have hb2 : Below w.heap.size w w2 := (below3 w _ _ _).trans (hx.mono (by omega))
  have hs2 : w.heap.size + 3 ≤ w2.heap.size := by have := hx.size; simpa using this
  rw [HG.out]
  go_wp2
  exact bodyPost_ret (v := .tuple #[.agg #[.int .i64 0, .int .i64 0, .slice none 0 0], .bool false]) (by simp [results, Try.results50, go_sem, q32]) rfl (noPz_back w _ (((hb2.setCell (by dsimp only; omega) _).setCell (by dsimp only; omega) _).setCell (by dsimp only; omega) _))

set_option maxRecDepth 100000 in
set_option maxHeartbeats 500000 in
theorem implAddClue_bad (q f ck ca cb cc : Int) (A : Option Addr) (cp : Nat) (L : List Qd) (w : World) (hL : RQ w w.heap.size A L) (hg : pzB q f L = false) : Calls Try.prog 51 #[.agg #[.int .i64 q, .int .i64 f, .slice A L.length cp], .agg #[.int .i64 ck, .int .i64 ca, .int .i64 cb, .int .i64 cc]] w (PzBack w.heap.size w noPz) := by
  have HG := Lib.hid hg
  clear hg
  have hl := hL.1
  go_enter Try.func51, Try.ntmps51
  go_wp2_with fail
  refine (implIsPuzzle_any q f A cp L _ (hL.go (below3 w _ _ _))).mono ?_
  rintro e w2 ⟨rfl, hx⟩
  simp only [World.size_alloc] at hx
  have k12 := (hx.block w.heap.size (by omega)).trans ((Below.heap_alloc _ _ _ (by simp; omega)).trans ((Below.heap_alloc _ _ _ (by simp)).trans (heap_alloc_at w (.cells #[.int .i64 q, .int .i64 f, .slice A L.length cp] 50) _ rfl)))
  have k22 := (hx.block (w.heap.size + 1) (by omega)).trans ((Below.heap_alloc _ _ _ (by simp)).trans (heap_alloc_at _ (.cells #[.int .i64 ck, .int .i64 ca, .int .i64 cb, .int .i64 cc] 33) _ (by simp)))
  have k32 := (hx.block (w.heap.size + 1 + 1) (by omega)).trans (heap_alloc_at _ (.cells #[.int .i64 0, .int .i64 0, .slice none 0 0] 50) _ (by simp))
  have q12 := fun i => cell_of_row w2 (w.heap.size) i _ _ _ k12
  have q22 := fun i => cell_of_row w2 (w.heap.size + 1) i _ _ _ k22
  have q32 := fun i => cell_of_row w2 (w.heap.size + 1 + 1) i _ _ _ k32
  have z32 := fun i => frozen_row (i := i) k32
  have hb2 : Below w.heap.size w w2 := (below3 w _ _ _).trans (hx.mono (by omega))
  have hs2 : w.heap.size + 3 ≤ w2.heap.size := by have := hx.size; simpa using this
  rw [HG.out]
  go_wp2
  exact bodyPost_ret (v := .tuple #[.agg #[.int .i64 0, .int .i64 0, .slice none 0 0], .bool false]) (by simp [results, Try.results51, go_sem, q32]) rfl (noPz_back w _ (((hb2.setCell (by dsimp only; omega) _).setCell (by dsimp only; omega) _).setCell (by dsimp only; omega) _))

set_option maxRecDepth 100000 in
set_option maxHeartbeats 500000 in
theorem specAddClue_no (q f ck ca cb cc : Int) (A : Option Addr) (cp : Nat) (L : List Qd) (w : World) (hL : RQ w w.heap.size A L) (hg : pzB q f L = true) (hc : clB q f ck ca cb cc = false) : Calls Try.prog 50 #[.agg #[.int .i64 q, .int .i64 f, .slice A L.length cp], .agg #[.int .i64 ck, .int .i64 ca, .int .i64 cb, .int .i64 cc]] w (PzBack w.heap.size w noPz) := by
  have HG := Lib.hid hg; have HC := Lib.hid hc
  clear hg hc
  have hl := hL.1
  go_enter Try.func50, Try.ntmps50
  go_wp2_with fail
  refine (pzGood_any q f A cp L _ (hL.go (below3 w _ _ _))).mono ?_
  rintro e w2 ⟨rfl, hx⟩
  simp only [World.size_alloc] at hx
  have k12 := (hx.block w.heap.size (by omega)).trans ((Below.heap_alloc _ _ _ (by simp; omega)).trans ((Below.heap_alloc _ _ _ (by simp)).trans (heap_alloc_at w (.cells #[.int .i64 q, .int .i64 f, .slice A L.length cp] 50) _ rfl)))
  have k22 := (hx.block (w.heap.size + 1) (by omega)).trans ((Below.heap_alloc _ _ _ (by simp)).trans (heap_alloc_at _ (.cells #[.int .i64 ck, .int .i64 ca, .int .i64 cb, .int .i64 cc] 33) _ (by simp)))
  have k32 := (hx.block (w.heap.size + 1 + 1) (by omega)).trans (heap_alloc_at _ (.cells #[.int .i64 0, .int .i64 0, .slice none 0 0] 50) _ (by simp))
  have q12 := fun i => cell_of_row w2 (w.heap.size) i _ _ _ k12
  have q22 := fun i => cell_of_row w2 (w.heap.size + 1) i _ _ _ k22
  have q32 := fun i => cell_of_row w2 (w.heap.size + 1 + 1) i _ _ _ k32
  have z32 := fun i => frozen_row (i := i) k32
  have hb2 : Below w.heap.size w w2 := (below3 w _ _ _).trans (hx.mono (by omega))
  have hs2 : w.heap.size + 3 ≤ w2.heap.size := by have := hx.size; simpa using this
  rw [HG.out]
  go_wp2_with fail
  refine (pzClue_any q f ck ca cb cc _).mono ?_
  rintro e w3 ⟨rfl, hx3⟩
  have k13 := (hx3.block _ (heap_lt k12)).trans k12
  have k23 := (hx3.block _ (heap_lt k22)).trans k22
  have k33 := (hx3.block _ (heap_lt k32)).trans k32
  have q13 := fun i => cell_of_row w3 (w.heap.size) i _ _ _ k13
  have q23 := fun i => cell_of_row w3 (w.heap.size + 1) i _ _ _ k23
  have q33 := fun i => cell_of_row w3 (w.heap.size + 1 + 1) i _ _ _ k33
  have z33 := fun i => frozen_row (i := i) k33
  have hb3 : Below w.heap.size w w3 := hb2.trans (hx3.mono (by omega))
  have hs3 : w.heap.size + 3 ≤ w3.heap.size := by have := hx3.size; omega
  clear q12 q22 q32 z32
  rw [HC.out]
  go_wp2
  exact bodyPost_ret (v := .tuple #[.agg #[.int .i64 0, .int .i64 0, .slice none 0 0], .bool false]) (by simp [results, Try.results50, go_sem, q33]) rfl (noPz_back w _ (((hb3.setCell (by dsimp only; omega) _).setCell (by dsimp only; omega) _).setCell (by dsimp only; omega) _))

set_option maxRecDepth 100000 in
set_option maxHeartbeats 500000 in
theorem specAddClue_full (q f ck ca cb cc : Int) (A : Option Addr) (cp : Nat) (L : List Qd) (w : World) (hL : RQ w w.heap.size A L) (hg : pzB q f L = true) (hc : clB q f ck ca cb cc = true) (h6 : (L.length : Int) = 6) : Calls Try.prog 50 #[.agg #[.int .i64 q, .int .i64 f, .slice A L.length cp], .agg #[.int .i64 ck, .int .i64 ca, .int .i64 cb, .int .i64 cc]] w (PzBack w.heap.size w noPz) := by
  have HG := Lib.hid hg; have HC := Lib.hid hc
  clear hg hc
  have hl := hL.1
  go_enter Try.func50, Try.ntmps50
  go_wp2_with fail
  refine (pzGood_any q f A cp L _ (hL.go (below3 w _ _ _))).mono ?_
  rintro e w2 ⟨rfl, hx⟩
  simp only [World.size_alloc] at hx
  have k12 := (hx.block w.heap.size (by omega)).trans ((Below.heap_alloc _ _ _ (by simp; omega)).trans ((Below.heap_alloc _ _ _ (by simp)).trans (heap_alloc_at w (.cells #[.int .i64 q, .int .i64 f, .slice A L.length cp] 50) _ rfl)))
  have k22 := (hx.block (w.heap.size + 1) (by omega)).trans ((Below.heap_alloc _ _ _ (by simp)).trans (heap_alloc_at _ (.cells #[.int .i64 ck, .int .i64 ca, .int .i64 cb, .int .i64 cc] 33) _ (by simp)))
  have k32 := (hx.block (w.heap.size + 1 + 1) (by omega)).trans (heap_alloc_at _ (.cells #[.int .i64 0, .int .i64 0, .slice none 0 0] 50) _ (by simp))
  have q12 := fun i => cell_of_row w2 (w.heap.size) i _ _ _ k12
  have q22 := fun i => cell_of_row w2 (w.heap.size + 1) i _ _ _ k22
  have q32 := fun i => cell_of_row w2 (w.heap.size + 1 + 1) i _ _ _ k32
  have z32 := fun i => frozen_row (i := i) k32
  have hb2 : Below w.heap.size w w2 := (below3 w _ _ _).trans (hx.mono (by omega))
  have hs2 : w.heap.size + 3 ≤ w2.heap.size := by have := hx.size; simpa using this
  rw [HG.out]
  go_wp2_with fail
  refine (pzClue_any q f ck ca cb cc _).mono ?_
  rintro e w3 ⟨rfl, hx3⟩
  have k13 := (hx3.block _ (heap_lt k12)).trans k12
  have k23 := (hx3.block _ (heap_lt k22)).trans k22
  have k33 := (hx3.block _ (heap_lt k32)).trans k32
  have q13 := fun i => cell_of_row w3 (w.heap.size) i _ _ _ k13
  have q23 := fun i => cell_of_row w3 (w.heap.size + 1) i _ _ _ k23
  have q33 := fun i => cell_of_row w3 (w.heap.size + 1 + 1) i _ _ _ k33
  have z33 := fun i => frozen_row (i := i) k33
  have hb3 : Below w.heap.size w w3 := hb2.trans (hx3.mono (by omega))
  have hs3 : w.heap.size + 3 ≤ w3.heap.size := by have := hx3.size; omega
  clear q12 q22 q32 z32
  rw [HC.out]
  go_wp2
  exact bodyPost_ret (v := .tuple #[.agg #[.int .i64 0, .int .i64 0, .slice none 0 0], .bool false]) (by simp [results, Try.results50, go_sem, q33]) rfl (noPz_back w _ (((hb3.setCell (by dsimp only; omega) _).setCell (by dsimp only; omega) _).setCell (by dsimp only; omega) _))

set_option maxRecDepth 100000 in
set_option maxHeartbeats 500000 in
theorem specAddClue_yes (q f ck ca cb cc : Int) (A : Option Addr) (cp : Nat) (L : List Qd) (w : World) (hL : RQ w w.heap.size A L) (hg : pzB q f L = true) (hc : clB q f ck ca cb cc = true) (h6 : ¬ (L.length : Int) = 6) : Calls Try.prog 50 #[.agg #[.int .i64 q, .int .i64 f, .slice A L.length cp], .agg #[.int .i64 ck, .int .i64 ca, .int .i64 cb, .int .i64 cc]] w (PzBack w.heap.size w ((q, f, L ++ [(ck, ca, cb, cc)]), true)) := by
  have HG := Lib.hid hg; have HC := Lib.hid hc
  clear hg hc
  obtain ⟨ti, hi, hz0, hz1, hz2⟩ := info_parts infoClueW
  have hl6 : L.length ≤ 6 := (pzB_parts HG.out).2.2.1
  have hl := hL.1
  go_enter Try.func50, Try.ntmps50
  go_wp2_with fail
  refine (pzGood_any q f A cp L _ (hL.go (below3 w _ _ _))).mono ?_
  rintro e w2 ⟨rfl, hx⟩
  simp only [World.size_alloc] at hx
  have k12 := (hx.block w.heap.size (by omega)).trans ((Below.heap_alloc _ _ _ (by simp; omega)).trans ((Below.heap_alloc _ _ _ (by simp)).trans (heap_alloc_at w (.cells #[.int .i64 q, .int .i64 f, .slice A L.length cp] 50) _ rfl)))
  have k22 := (hx.block (w.heap.size + 1) (by omega)).trans ((Below.heap_alloc _ _ _ (by simp)).trans (heap_alloc_at _ (.cells #[.int .i64 ck, .int .i64 ca, .int .i64 cb, .int .i64 cc] 33) _ (by simp)))
  have k32 := (hx.block (w.heap.size + 1 + 1) (by omega)).trans (heap_alloc_at _ (.cells #[.int .i64 0, .int .i64 0, .slice none 0 0] 50) _ (by simp))
  have q12 := fun i => cell_of_row w2 (w.heap.size) i _ _ _ k12
  have q22 := fun i => cell_of_row w2 (w.heap.size + 1) i _ _ _ k22
  have q32 := fun i => cell_of_row w2 (w.heap.size + 1 + 1) i _ _ _ k32
  have z32 := fun i => frozen_row (i := i) k32
  have hb2 : Below w.heap.size w w2 := (below3 w _ _ _).trans (hx.mono (by omega))
  have hs2 : w.heap.size + 3 ≤ w2.heap.size := by have := hx.size; simpa using this
  rw [HG.out]
  go_wp2_with fail
  refine (pzClue_any q f ck ca cb cc _).mono ?_
  rintro e w3 ⟨rfl, hx3⟩
  have k13 := (hx3.block _ (heap_lt k12)).trans k12
  have k23 := (hx3.block _ (heap_lt k22)).trans k22
  have k33 := (hx3.block _ (heap_lt k32)).trans k32
  have q13 := fun i => cell_of_row w3 (w.heap.size) i _ _ _ k13
  have q23 := fun i => cell_of_row w3 (w.heap.size + 1) i _ _ _ k23
  have q33 := fun i => cell_of_row w3 (w.heap.size + 1 + 1) i _ _ _ k33
  have z33 := fun i => frozen_row (i := i) k33
  have hb3 : Below w.heap.size w w3 := hb2.trans (hx3.mono (by omega))
  have hs3 : w.heap.size + 3 ≤ w3.heap.size := by have := hx3.size; omega
  clear q12 q22 q32 z32
  rw [HC.out]
  go_wp2_with fail
  clear q13 q23 q33 z33
  have hSo : ∀ w', Below (w.heap.size + 2) w3 w' → (Below (w.heap.size + 2) w3 w' ∧ w'.heap[w.heap.size]? = some (.cells #[.int .i64 q, .int .i64 f, .slice A L.length cp] 50 (0, 0)) ∧ (∀ i, w'.cell? ⟨w.heap.size, i, none⟩ = #[.int .i64 q, .int .i64 f, .slice A L.length cp][i]?) ∧ w'.heap[w.heap.size + 1]? = some (.cells #[.int .i64 ck, .int .i64 ca, .int .i64 cb, .int .i64 cc] 33 (0, 0))) :=
    fun w' hb => ⟨hb, (hb.block _ (by omega)).trans k13, fun i => cell_of_row w' w.heap.size i _ _ _ ((hb.block _ (by omega)).trans k13), (hb.block _ (by omega)).trans k23⟩
  have HSO := Lib.hid hSo; clear hSo
  have HLL := Lib.hid (hL.below hb3); have HLB := Lib.hid hb3; clear hL
  have hbD : Below w3.heap.size w3 w3.drew := (Below.refl _ w3).drew
  refine wp_region_held_drew (S := (fun w' => Below (w.heap.size + 2) w3 w' ∧ w'.heap[w.heap.size]? = some (.cells #[.int .i64 q, .int .i64 f, .slice A L.length cp] 50 (0, 0)) ∧ (∀ i, w'.cell? ⟨w.heap.size, i, none⟩ = #[.int .i64 q, .int .i64 f, .slice A L.length cp][i]?) ∧ w'.heap[w.heap.size + 1]? = some (.cells #[.int .i64 ck, .int .i64 ca, .int .i64 cb, .int .i64 cc] 33 (0, 0)))) (by kernel_rfl) (HSO.out _ (hbD.mono (by omega))) (fun hS => ?_)
  refine wpAnyH_take (i := 0) (oi := ⟨some 25, _, _, _, _, _⟩) rfl (by kernel_rfl) (by kernel_rfl) (by kernel_rfl) (fun _ _ _ h => h) (yields_load_row rfl 50 (.tmp 2) rfl w.heap.size rfl _ _ _ _ (fun _ h => h.2.1) Try.underlying50 rfl sizePz) hS ?_
  try simp only [Act.put, List.setIfInBounds_toArray, List.set_cons_zero, List.set_cons_succ]
  refine wpAnyH_take (i := 5) (oi := ⟨some 30, _, _, _, _, _⟩) rfl (by kernel_rfl) (by kernel_rfl) (by kernel_rfl) (fun _ _ _ h => h) (yields_load_row rfl 33 (.tmp 3) rfl (w.heap.size + 1) rfl _ _ _ _ (fun _ h => h.2.2.2) Try.underlying33 rfl sizeClue) hS ?_
  try simp only [Act.put, List.setIfInBounds_toArray, List.set_cons_zero, List.set_cons_succ]
  refine wpAnyH_take (i := 2) (oi := ⟨some 27, _, _, _, _, _⟩) (v := ?vja1) rfl (by kernel_rfl) (by kernel_rfl) (by kernel_rfl) (fun _ _ _ h => h) (Or.inl ⟨by rfl, ?hja1⟩) hS ?rja1
  case hja1 => (intro w' hSw; (try dsimp only at hSw); go_simp; (try with_reducible rfl))
  try simp only [Act.put, List.setIfInBounds_toArray, List.set_cons_zero, List.set_cons_succ]
  refine wpAnyH_take (i := 3) (oi := ⟨some 28, _, _, _, _, _⟩) (v := ?vja2) rfl (by kernel_rfl) (by kernel_rfl) (by kernel_rfl) (fun _ _ _ h => h) (Or.inl ⟨by rfl, ?hja2⟩) hS ?rja2
  case hja2 => (intro w' hSw; (try dsimp only at hSw); go_simp; (try with_reducible rfl))
  try simp only [Act.put, List.setIfInBounds_toArray, List.set_cons_zero, List.set_cons_succ]
  refine wpAnyH_ready (rs := [1, 6]) (by kernel_rfl) (by simp) ?_
  refine AllReadyH.cons (o := ⟨some 26, _, _, _, _, _⟩) rfl (fun K' hK' => ?_) (AllReadyH.cons (o := ⟨some 31, _, _, _, _, _⟩) rfl (fun K' hK' => ?_) AllReadyH.nil)
  focus
    go_simp
    have hb := (by first | exact hb | exact hbD : Below w3.heap.size w3 _)
    have o26 := fun g hg => own_made4 (N := w3.heap.size) hb.size 33 g hg
    (try replace e31 := fun g hg => (e31 g hg).alloc (.cells #[] 33))
    replace hb := hb.alloc hb.size (.cells #[] 33)
    refine hK'.out _ _ (HSO.out _ (hb.mono (by omega))) (fun _ => ?_)
    clear hK' K'
    try simp only [Act.put, List.setIfInBounds_toArray, List.set_cons_zero, List.set_cons_succ]
    refine wpAnyH_ready (rs := [4, 6]) (by kernel_rfl) (by simp) ?_
    refine AllReadyH.cons (o := ⟨some 29, _, _, _, _, _⟩) rfl (fun K' hK' => ?_) (AllReadyH.cons (o := ⟨some 31, _, _, _, _, _⟩) rfl (fun K' hK' => ?_) AllReadyH.nil)
    focus
      rw [if_pos (wanted_plain rfl)]
      refine wp_appendQ _ _ 48 rfl w3.heap.size 33 ti (.agg #[.int .i64 0, .int .i64 0, .int .i64 0, .int .i64 0]) Try.underlying48 hi hz0 hz1 hz2 rfl _ 0 [] rfl (o26 _ (by simp)) w.heap.size A L.length cp L rfl rfl (HLL.out.below (hb.mono (by omega))) (by simp; omega) hb.size ?_
      intro v29 w29 o29 hg29
      have hg29' : World.grownBy _ w29 (some _) := hg29
      (try replace e31 := fun g hg => (e31 g hg).grown hg29' (by rw [hg]; simp))
      replace hb := hb.grown hg29 hb.size (fun g hg => own_from (o26 _ (by simp)) g hg)
      clear o26
      refine hK'.out _ _ (HSO.out _ (hb.mono (by omega))) (fun _ => ?_)
      clear hK' K'
      try simp only [Act.put, List.setIfInBounds_toArray, List.set_cons_zero, List.set_cons_succ]
      refine wpAnyH_ready (rs := [6]) (by kernel_rfl) (by simp) ?_
      refine AllReadyH.cons (o := ⟨some 31, _, _, _, _, _⟩) rfl (fun K' hK' => ?_) AllReadyH.nil
      go_simp
      have hb := (by first | exact hb | exact hbD : Below w3.heap.size w3 _)
      have e31 := OneQ.made hb 33 ck ca cb cc
      (try replace o26 := fun g hg => own_below (o26 g hg) (below1 _ (.cells #[.int .i64 ck, .int .i64 ca, .int .i64 cb, .int .i64 cc] 33)))
      (try replace o29 := own_below o29 (below1 _ (.cells #[.int .i64 ck, .int .i64 ca, .int .i64 cb, .int .i64 cc] 33)))
      replace hb := hb.alloc hb.size (.cells #[.int .i64 ck, .int .i64 ca, .int .i64 cb, .int .i64 cc] 33)
      refine hK'.out _ _ (HSO.out _ (hb.mono (by omega))) (fun _ => ?_)
      clear hK' K'
      try simp only [Act.put, List.setIfInBounds_toArray, List.set_cons_zero, List.set_cons_succ]
      refine wpAnyH_ready (rs := [7]) (by kernel_rfl) (by simp) ?_
      refine AllReadyH.cons (o := ⟨some 32, _, _, _, _, _⟩) rfl (fun K' hK' => ?_) AllReadyH.nil
      rw [if_pos (wanted_plain rfl)]
      refine wp_appendQ _ _ 48 rfl w3.heap.size 33 ti (.agg #[.int .i64 0, .int .i64 0, .int .i64 0, .int .i64 0]) Try.underlying48 hi hz0 hz1 hz2 rfl _ _ _ rfl o29 _ (some ⟨_, 0, none⟩) 1 1 [(ck, ca, cb, cc)] rfl rfl (e31 _ (by simp)).rq (by simp; omega) hb.size ?_
      intro v32 w32 o32 hg32
      replace hb := hb.grown hg32 hb.size (fun g hg => own_from o29 g hg)
      clear o29 e31
      obtain ⟨A5, c5, rfl, hO5⟩ := own_oq o32 (n := 0 + L.length + [(ck, ca, cb, cc)].length) (xs := L ++ [(ck, ca, cb, cc)]) (by simp)
      clear o32
      refine hK'.out _ _ (HSO.out _ (hb.mono (by omega))) (fun _ => ?_)
      clear hK' K'
      try simp only [Act.put, List.setIfInBounds_toArray, List.set_cons_zero, List.set_cons_succ]
      refine wpAnyH_ready (rs := [8]) (by kernel_rfl) (by simp) ?_
      refine AllReadyH.cons (o := ⟨some 33, _, _, _, _, _⟩) rfl (fun K' hK' => ?_) AllReadyH.nil
      go_simp
      go_at_call 83
      refine (pzWith_any q f _ _ _ _ _ _ _).mono ?_
      rintro e w6 ⟨rfl, hx6⟩
      have hO6 := hO5.below hx6 (Nat.le_refl _)
      replace hb := hb.trans (hx6.mono hb.size)
      have k36 := (hb.block _ (heap_lt k33)).trans k33
      have q36 := fun i => cell_of_row w6 (w.heap.size + 1 + 1) i _ _ _ k36
      have z36 := fun i => frozen_row (i := i) k36
      refine hK'.out _ _ (HSO.out _ (hb.mono (by omega))) (fun _ => ?_)
      clear hK' K'
      try simp only [Act.put, List.setIfInBounds_toArray, List.set_cons_zero, List.set_cons_succ]
      refine wpAnyH_ready (rs := [9]) (by kernel_rfl) (by simp) ?_
      refine AllReadyH.cons (o := ⟨none, _, _, _, _, _⟩) rfl (fun K' hK' => ?_) AllReadyH.nil
      go_simp
      refine hK'.out _ _ (HSO.out _ ((((hb.mono (by omega)).setCell (by dsimp only; omega) _).setCell (by dsimp only; omega) _).setCell (by dsimp only; omega) _)) (fun _ => ?_)
      clear hK' K'
      try simp only [Act.put, List.setIfInBounds_toArray, List.set_cons_zero, List.set_cons_succ]
      refine wpAnyH_ready (rs := [10]) (by kernel_rfl) (by simp) ?_
      refine AllReadyH.cons (o := ⟨some 5, _, _, _, _, _⟩) rfl (fun K' hK' => ?_) AllReadyH.nil
      go_simp
      refine hK'.out _ _ (HSO.out _ ((((hb.mono (by omega)).setCell (by dsimp only; omega) _).setCell (by dsimp only; omega) _).setCell (by dsimp only; omega) _)) (fun _ => ?_)
      clear hK' K'
      try simp only [Act.put, List.setIfInBounds_toArray, List.set_cons_zero, List.set_cons_succ]
      refine wpAnyH_done (by kernel_rfl) ?_ _
    rotate_left 1
    focus
      go_simp
      have hb := (by first | exact hb | exact hbD : Below w3.heap.size w3 _)
      have e31 := OneQ.made hb 33 ck ca cb cc
      (try replace o26 := fun g hg => own_below (o26 g hg) (below1 _ (.cells #[.int .i64 ck, .int .i64 ca, .int .i64 cb, .int .i64 cc] 33)))
      (try replace o29 := own_below o29 (below1 _ (.cells #[.int .i64 ck, .int .i64 ca, .int .i64 cb, .int .i64 cc] 33)))
      replace hb := hb.alloc hb.size (.cells #[.int .i64 ck, .int .i64 ca, .int .i64 cb, .int .i64 cc] 33)
      refine hK'.out _ _ (HSO.out _ (hb.mono (by omega))) (fun _ => ?_)
      clear hK' K'
      try simp only [Act.put, List.setIfInBounds_toArray, List.set_cons_zero, List.set_cons_succ]
      refine wpAnyH_ready (rs := [4]) (by kernel_rfl) (by simp) ?_
      refine AllReadyH.cons (o := ⟨some 29, _, _, _, _, _⟩) rfl (fun K' hK' => ?_) AllReadyH.nil
      rw [if_pos (wanted_plain rfl)]
      refine wp_appendQ _ _ 48 rfl w3.heap.size 33 ti (.agg #[.int .i64 0, .int .i64 0, .int .i64 0, .int .i64 0]) Try.underlying48 hi hz0 hz1 hz2 rfl _ 0 [] rfl (o26 _ (by simp)) w.heap.size A L.length cp L rfl rfl (HLL.out.below (hb.mono (by omega))) (by simp; omega) hb.size ?_
      intro v29 w29 o29 hg29
      have hg29' : World.grownBy _ w29 (some _) := hg29
      (try replace e31 := fun g hg => (e31 g hg).grown hg29' (by rw [hg]; simp))
      replace hb := hb.grown hg29 hb.size (fun g hg => own_from (o26 _ (by simp)) g hg)
      clear o26
      refine hK'.out _ _ (HSO.out _ (hb.mono (by omega))) (fun _ => ?_)
      clear hK' K'
      try simp only [Act.put, List.setIfInBounds_toArray, List.set_cons_zero, List.set_cons_succ]
      refine wpAnyH_ready (rs := [7]) (by kernel_rfl) (by simp) ?_
      refine AllReadyH.cons (o := ⟨some 32, _, _, _, _, _⟩) rfl (fun K' hK' => ?_) AllReadyH.nil
      rw [if_pos (wanted_plain rfl)]
      refine wp_appendQ _ _ 48 rfl w3.heap.size 33 ti (.agg #[.int .i64 0, .int .i64 0, .int .i64 0, .int .i64 0]) Try.underlying48 hi hz0 hz1 hz2 rfl _ _ _ rfl o29 _ (some ⟨_, 0, none⟩) 1 1 [(ck, ca, cb, cc)] rfl rfl (e31 _ (by simp)).rq (by simp; omega) hb.size ?_
      intro v32 w32 o32 hg32
      replace hb := hb.grown hg32 hb.size (fun g hg => own_from o29 g hg)
      clear o29 e31
      obtain ⟨A5, c5, rfl, hO5⟩ := own_oq o32 (n := 0 + L.length + [(ck, ca, cb, cc)].length) (xs := L ++ [(ck, ca, cb, cc)]) (by simp)
      clear o32
      refine hK'.out _ _ (HSO.out _ (hb.mono (by omega))) (fun _ => ?_)
      clear hK' K'
      try simp only [Act.put, List.setIfInBounds_toArray, List.set_cons_zero, List.set_cons_succ]
      refine wpAnyH_ready (rs := [8]) (by kernel_rfl) (by simp) ?_
      refine AllReadyH.cons (o := ⟨some 33, _, _, _, _, _⟩) rfl (fun K' hK' => ?_) AllReadyH.nil
      go_simp
      go_at_call 83
      refine (pzWith_any q f _ _ _ _ _ _ _).mono ?_
      rintro e w6 ⟨rfl, hx6⟩
      have hO6 := hO5.below hx6 (Nat.le_refl _)
      replace hb := hb.trans (hx6.mono hb.size)
      have k36 := (hb.block _ (heap_lt k33)).trans k33
      have q36 := fun i => cell_of_row w6 (w.heap.size + 1 + 1) i _ _ _ k36
      have z36 := fun i => frozen_row (i := i) k36
      refine hK'.out _ _ (HSO.out _ (hb.mono (by omega))) (fun _ => ?_)
      clear hK' K'
      try simp only [Act.put, List.setIfInBounds_toArray, List.set_cons_zero, List.set_cons_succ]
      refine wpAnyH_ready (rs := [9]) (by kernel_rfl) (by simp) ?_
      refine AllReadyH.cons (o := ⟨none, _, _, _, _, _⟩) rfl (fun K' hK' => ?_) AllReadyH.nil
      go_simp
      refine hK'.out _ _ (HSO.out _ ((((hb.mono (by omega)).setCell (by dsimp only; omega) _).setCell (by dsimp only; omega) _).setCell (by dsimp only; omega) _)) (fun _ => ?_)
      clear hK' K'
      try simp only [Act.put, List.setIfInBounds_toArray, List.set_cons_zero, List.set_cons_succ]
      refine wpAnyH_ready (rs := [10]) (by kernel_rfl) (by simp) ?_
      refine AllReadyH.cons (o := ⟨some 5, _, _, _, _, _⟩) rfl (fun K' hK' => ?_) AllReadyH.nil
      go_simp
      refine hK'.out _ _ (HSO.out _ ((((hb.mono (by omega)).setCell (by dsimp only; omega) _).setCell (by dsimp only; omega) _).setCell (by dsimp only; omega) _)) (fun _ => ?_)
      clear hK' K'
      try simp only [Act.put, List.setIfInBounds_toArray, List.set_cons_zero, List.set_cons_succ]
      refine wpAnyH_done (by kernel_rfl) ?_ _
    rotate_left 1
  rotate_left 2
  focus
    go_simp
    have hb := (by first | exact hb | exact hbD : Below w3.heap.size w3 _)
    have e31 := OneQ.made hb 33 ck ca cb cc
    (try replace o26 := fun g hg => own_below (o26 g hg) (below1 _ (.cells #[.int .i64 ck, .int .i64 ca, .int .i64 cb, .int .i64 cc] 33)))
    (try replace o29 := own_below o29 (below1 _ (.cells #[.int .i64 ck, .int .i64 ca, .int .i64 cb, .int .i64 cc] 33)))
    replace hb := hb.alloc hb.size (.cells #[.int .i64 ck, .int .i64 ca, .int .i64 cb, .int .i64 cc] 33)
    refine hK'.out _ _ (HSO.out _ (hb.mono (by omega))) (fun _ => ?_)
    clear hK' K'
    try simp only [Act.put, List.setIfInBounds_toArray, List.set_cons_zero, List.set_cons_succ]
    refine wpAnyH_ready (rs := [1]) (by kernel_rfl) (by simp) ?_
    refine AllReadyH.cons (o := ⟨some 26, _, _, _, _, _⟩) rfl (fun K' hK' => ?_) AllReadyH.nil
    go_simp
    have hb := (by first | exact hb | exact hbD : Below w3.heap.size w3 _)
    have o26 := fun g hg => own_made4 (N := w3.heap.size) hb.size 33 g hg
    (try replace e31 := fun g hg => (e31 g hg).alloc (.cells #[] 33))
    replace hb := hb.alloc hb.size (.cells #[] 33)
    refine hK'.out _ _ (HSO.out _ (hb.mono (by omega))) (fun _ => ?_)
    clear hK' K'
    try simp only [Act.put, List.setIfInBounds_toArray, List.set_cons_zero, List.set_cons_succ]
    refine wpAnyH_ready (rs := [4]) (by kernel_rfl) (by simp) ?_
    refine AllReadyH.cons (o := ⟨some 29, _, _, _, _, _⟩) rfl (fun K' hK' => ?_) AllReadyH.nil
    rw [if_pos (wanted_plain rfl)]
    refine wp_appendQ _ _ 48 rfl w3.heap.size 33 ti (.agg #[.int .i64 0, .int .i64 0, .int .i64 0, .int .i64 0]) Try.underlying48 hi hz0 hz1 hz2 rfl _ 0 [] rfl (o26 _ (by simp)) w.heap.size A L.length cp L rfl rfl (HLL.out.below (hb.mono (by omega))) (by simp; omega) hb.size ?_
    intro v29 w29 o29 hg29
    have hg29' : World.grownBy _ w29 (some _) := hg29
    (try replace e31 := fun g hg => (e31 g hg).grown hg29' (by rw [hg]; simp))
    replace hb := hb.grown hg29 hb.size (fun g hg => own_from (o26 _ (by simp)) g hg)
    clear o26
    refine hK'.out _ _ (HSO.out _ (hb.mono (by omega))) (fun _ => ?_)
    clear hK' K'
    try simp only [Act.put, List.setIfInBounds_toArray, List.set_cons_zero, List.set_cons_succ]
    refine wpAnyH_ready (rs := [7]) (by kernel_rfl) (by simp) ?_
    refine AllReadyH.cons (o := ⟨some 32, _, _, _, _, _⟩) rfl (fun K' hK' => ?_) AllReadyH.nil
    rw [if_pos (wanted_plain rfl)]
    refine wp_appendQ _ _ 48 rfl w3.heap.size 33 ti (.agg #[.int .i64 0, .int .i64 0, .int .i64 0, .int .i64 0]) Try.underlying48 hi hz0 hz1 hz2 rfl _ _ _ rfl o29 _ (some ⟨_, 0, none⟩) 1 1 [(ck, ca, cb, cc)] rfl rfl (e31 _ (by simp)).rq (by simp; omega) hb.size ?_
    intro v32 w32 o32 hg32
    replace hb := hb.grown hg32 hb.size (fun g hg => own_from o29 g hg)
    clear o29 e31
    obtain ⟨A5, c5, rfl, hO5⟩ := own_oq o32 (n := 0 + L.length + [(ck, ca, cb, cc)].length) (xs := L ++ [(ck, ca, cb, cc)]) (by simp)
    clear o32
    refine hK'.out _ _ (HSO.out _ (hb.mono (by omega))) (fun _ => ?_)
    clear hK' K'
    try simp only [Act.put, List.setIfInBounds_toArray, List.set_cons_zero, List.set_cons_succ]
    refine wpAnyH_ready (rs := [8]) (by kernel_rfl) (by simp) ?_
    refine AllReadyH.cons (o := ⟨some 33, _, _, _, _, _⟩) rfl (fun K' hK' => ?_) AllReadyH.nil
    go_simp
    go_at_call 83
    refine (pzWith_any q f _ _ _ _ _ _ _).mono ?_
    rintro e w6 ⟨rfl, hx6⟩
    have hO6 := hO5.below hx6 (Nat.le_refl _)
    replace hb := hb.trans (hx6.mono hb.size)
    have k36 := (hb.block _ (heap_lt k33)).trans k33
    have q36 := fun i => cell_of_row w6 (w.heap.size + 1 + 1) i _ _ _ k36
    have z36 := fun i => frozen_row (i := i) k36
    refine hK'.out _ _ (HSO.out _ (hb.mono (by omega))) (fun _ => ?_)
    clear hK' K'
    try simp only [Act.put, List.setIfInBounds_toArray, List.set_cons_zero, List.set_cons_succ]
    refine wpAnyH_ready (rs := [9]) (by kernel_rfl) (by simp) ?_
    refine AllReadyH.cons (o := ⟨none, _, _, _, _, _⟩) rfl (fun K' hK' => ?_) AllReadyH.nil
    go_simp
    refine hK'.out _ _ (HSO.out _ ((((hb.mono (by omega)).setCell (by dsimp only; omega) _).setCell (by dsimp only; omega) _).setCell (by dsimp only; omega) _)) (fun _ => ?_)
    clear hK' K'
    try simp only [Act.put, List.setIfInBounds_toArray, List.set_cons_zero, List.set_cons_succ]
    refine wpAnyH_ready (rs := [10]) (by kernel_rfl) (by simp) ?_
    refine AllReadyH.cons (o := ⟨some 5, _, _, _, _, _⟩) rfl (fun K' hK' => ?_) AllReadyH.nil
    go_simp
    refine hK'.out _ _ (HSO.out _ ((((hb.mono (by omega)).setCell (by dsimp only; omega) _).setCell (by dsimp only; omega) _).setCell (by dsimp only; omega) _)) (fun _ => ?_)
    clear hK' K'
    try simp only [Act.put, List.setIfInBounds_toArray, List.set_cons_zero, List.set_cons_succ]
    refine wpAnyH_done (by kernel_rfl) ?_ _
  rotate_left 1
  all_goals go_wp2
  all_goals exact bodyPost_ret (v := .tuple #[.agg #[.int .i64 q, .int .i64 f, .slice A5 (L ++ [(ck, ca, cb, cc)]).length c5], .bool true]) (by simp [results, Try.results50, go_sem, q36]) rfl ⟨A5, c5, rfl, (((hO6.set (by dsimp only; omega) _).set (by dsimp only; omega) _).set (by dsimp only; omega) _).from_ (HLB.out.size), (((HLB.out.trans (hb.mono (by omega))).setCell (by dsimp only; omega) _).setCell (by dsimp only; omega) _).setCell (by dsimp only; omega) _⟩

set_option maxRecDepth 100000 in
set_option maxHeartbeats 500000 in
theorem implAddClue_no (q f ck ca cb cc : Int) (A : Option Addr) (cp : Nat) (L : List Qd) (w : World) (hL : RQ w w.heap.size A L) (hg : pzB q f L = true) (hc : pzB q f (L ++ [(ck, ca, cb, cc)]) = false) : Calls Try.prog 51 #[.agg #[.int .i64 q, .int .i64 f, .slice A L.length cp], .agg #[.int .i64 ck, .int .i64 ca, .int .i64 cb, .int .i64 cc]] w (PzBack w.heap.size w noPz) := by
  obtain ⟨E, hE⟩ : ∃ E, E = L ++ [(ck, ca, cb, cc)] := ⟨_, rfl⟩
  rw [← hE] at hc
  (try rw [← hE])
  have hEl : E.length = L.length + 1 := by rw [hE]; simp
  have HE := Lib.hid hE; have HEL := Lib.hid hEl
  have HG := Lib.hid hg; have HC := Lib.hid hc
  have hE7 : E.length ≤ 7 := by have := (pzB_parts hg).2.2.1; omega
  clear hg hc hE hEl
  obtain ⟨ti, hi, hz0, hz1, hz2⟩ := info_parts infoClueW
  have hl6 : L.length ≤ 6 := (pzB_parts HG.out).2.2.1
  have hl := hL.1
  go_enter Try.func51, Try.ntmps51
  go_wp2_with fail
  refine (implIsPuzzle_any q f A cp L _ (hL.go (below3 w _ _ _))).mono ?_
  rintro e w2 ⟨rfl, hx⟩
  simp only [World.size_alloc] at hx
  have k12 := (hx.block w.heap.size (by omega)).trans ((Below.heap_alloc _ _ _ (by simp; omega)).trans ((Below.heap_alloc _ _ _ (by simp)).trans (heap_alloc_at w (.cells #[.int .i64 q, .int .i64 f, .slice A L.length cp] 50) _ rfl)))
  have k22 := (hx.block (w.heap.size + 1) (by omega)).trans ((Below.heap_alloc _ _ _ (by simp)).trans (heap_alloc_at _ (.cells #[.int .i64 ck, .int .i64 ca, .int .i64 cb, .int .i64 cc] 33) _ (by simp)))
  have k32 := (hx.block (w.heap.size + 1 + 1) (by omega)).trans (heap_alloc_at _ (.cells #[.int .i64 0, .int .i64 0, .slice none 0 0] 50) _ (by simp))
  have q12 := fun i => cell_of_row w2 (w.heap.size) i _ _ _ k12
  have q22 := fun i => cell_of_row w2 (w.heap.size + 1) i _ _ _ k22
  have q32 := fun i => cell_of_row w2 (w.heap.size + 1 + 1) i _ _ _ k32
  have z32 := fun i => frozen_row (i := i) k32
  have hb2 : Below w.heap.size w w2 := (below3 w _ _ _).trans (hx.mono (by omega))
  have hs2 : w.heap.size + 3 ≤ w2.heap.size := by have := hx.size; simpa using this
  rw [HG.out]
  go_wp2_with fail
  refine (withClues_own q f A A L.length cp cp L w2 (hL.go hb2)).mono ?_
  rintro e w3 ⟨A3, c3, rfl, hO3, hx3⟩
  have k13 := (hx3.block _ (heap_lt k12)).trans k12
  have k23 := (hx3.block _ (heap_lt k22)).trans k22
  have k33 := (hx3.block _ (heap_lt k32)).trans k32
  have q13 := fun i => cell_of_row w3 (w.heap.size) i _ _ _ k13
  have q23 := fun i => cell_of_row w3 (w.heap.size + 1) i _ _ _ k23
  have q33 := fun i => cell_of_row w3 (w.heap.size + 1 + 1) i _ _ _ k33
  have z33 := fun i => frozen_row (i := i) k33
  have hb3 : Below w.heap.size w w3 := hb2.trans (hx3.mono (by omega))
  have hs3 := hx3.size
  have HO3 := Lib.hid hO3
  clear q12 q22 q32 z32 hO3
  have n0 : w.heap.size < w3.heap.size := by omega
  have n1 : w.heap.size + 1 < w3.heap.size := by omega
  have n2 : w.heap.size + 1 + 1 < w3.heap.size := by omega
  go_wp2_with (at_builtin; go_loud (refine wpList_appendQ rfl _ _ 48 rfl w2.heap.size 33 ti (.agg #[.int .i64 0, .int .i64 0, .int .i64 0, .int .i64 0]) Try.underlying48 hi hz0 hz1 hz2 rfl _ L.length L rfl (own_below HO3.out (below2 w3 _ _)) _ (some ⟨_, 0, none⟩) 1 1 [(ck, ca, cb, cc)] rfl rfl (quad_one _ _ ck ca cb cc _ (by simp)) (by simp <;> omega) (by simp <;> omega) ?_; intro v7 w7 o7 g7; (have kW7 : w7.heap[w3.heap.size]? = some (.cells #[.int .i64 q, .int .i64 f, .slice A3 L.length c3] 50 (0, 0)) := (g7.block w3.heap.size (by simp <;> omega) (fun e => by have := own_lt HO3.out _ e.symm; omega)).trans ((Below.heap_alloc _ _ _ (by simp <;> omega)).trans (heap_alloc_at w3 _ _ rfl))); (have k37 := (g7.block (w.heap.size + 1 + 1) (by simp <;> omega) (fun e => by have := own_from HO3.out _ e.symm; omega)).trans (((below2 w3 _ _).block _ n2).trans k33)); (have hb7 : Below w2.heap.size w2 w7 := (hx3.trans ((below2 w3 _ _).mono hs3)).grown g7 (by simp <;> omega) (own_from HO3.out)); (have n7 : w3.heap.size + 2 ≤ w7.heap.size := by have := g7.size; simp at this; omega); (rw [← HE.out] at o7); (obtain ⟨A7, c7, rfl, hO7⟩ := own_oq o7 (n := L.length + 1) (xs := E) HEL.out); (have qW7 := fun i => cell_of_row w7 w3.heap.size i _ _ _ kW7); (have zW7 := fun i => frozen_row (i := i) kW7); (have HA7 := Lib.hid (And.intro kW7 k37)); (have HN7 := Lib.hid g7); (clear g7 o7 kW7 k37)))
  obtain ⟨kW7, k37⟩ := HA7.out
  have hO8 : ∀ v, OQ (w7.setCell ⟨w3.heap.size, 2, none⟩ v) w2.heap.size 33 A7 E.length (fun i => E.getD i zeroQ) := fun v => by
    rcases hO7 with h | ⟨g, e, h1, h⟩
    · exact .inl h
    · refine .inr ⟨g, e, h1, h.far (fun eq => ?_) _⟩
      obtain ⟨cs, hc, _⟩ := h
      dsimp only at eq
      rw [eq, kW7] at hc
      simp at hc
  have HO8 := Lib.hid hO8; clear hO8
  refine (implIsPuzzle_any q f A7 c7 E (w7.setCell ⟨w3.heap.size, 2, none⟩ (.slice A7 E.length c7)) ((HO8.out _).rq (by omega))).mono ?_
  rintro e w9 ⟨rfl, hx9⟩
  have kW9 := (hx9.block w3.heap.size (by simp; omega)).trans (heap_set _ _ 2 _ _ (.slice A7 E.length c7) kW7)
  have k39 := (hx9.block (w.heap.size + 1 + 1) (by simp; omega)).trans ((Below.heap_setCell _ _ _ _ (by dsimp only; omega)).trans k37)
  have qW9 : ∀ i, w9.cell? ⟨w3.heap.size, i, none⟩ = #[.int .i64 q, .int .i64 f, .slice A7 E.length c7][i]? := fun i => cell_of_row w9 w3.heap.size i _ _ _ kW9
  have q39 := fun i => cell_of_row w9 (w.heap.size + 1 + 1) i _ _ _ k39
  have z39 := fun i => frozen_row (i := i) k39
  have hs7 : w3.heap.size ≤ w7.heap.size := by omega
  have hb9 : Below w2.heap.size w2 w9 := (hb7.setCell (by dsimp only; omega) _).trans (hx9.mono (by simp; omega))
  have hO9 := (HO8.out (.slice A7 E.length c7)).below hx9 (Nat.le_refl _)
  have HO9 := Lib.hid hO9; have HB := Lib.hid (hb2.trans (hb9.mono (by omega)))
  clear hO9 hO7 qW7 zW7 kW7 k37
  rw [HC.out]
  go_wp2
  exact bodyPost_ret (v := .tuple #[.agg #[.int .i64 0, .int .i64 0, .slice none 0 0], .bool false]) (by simp [results, Try.results51, go_sem, q39]) rfl (noPz_back w _ (((HB.out.setCell (by dsimp only; omega) _).setCell (by dsimp only; omega) _).setCell (by dsimp only; omega) _))

set_option maxRecDepth 100000 in
set_option maxHeartbeats 500000 in
theorem implAddClue_yes (q f ck ca cb cc : Int) (A : Option Addr) (cp : Nat) (L : List Qd) (w : World) (hL : RQ w w.heap.size A L) (hg : pzB q f L = true) (hc : pzB q f (L ++ [(ck, ca, cb, cc)]) = true) : Calls Try.prog 51 #[.agg #[.int .i64 q, .int .i64 f, .slice A L.length cp], .agg #[.int .i64 ck, .int .i64 ca, .int .i64 cb, .int .i64 cc]] w (PzBack w.heap.size w ((q, f, L ++ [(ck, ca, cb, cc)]), true)) := by
  obtain ⟨E, hE⟩ : ∃ E, E = L ++ [(ck, ca, cb, cc)] := ⟨_, rfl⟩
  rw [← hE] at hc
  (try rw [← hE])
  have hEl : E.length = L.length + 1 := by rw [hE]; simp
  have HE := Lib.hid hE; have HEL := Lib.hid hEl
  have HG := Lib.hid hg; have HC := Lib.hid hc
  have hE7 : E.length ≤ 7 := by have := (pzB_parts hg).2.2.1; omega
  clear hg hc hE hEl
  obtain ⟨ti, hi, hz0, hz1, hz2⟩ := info_parts infoClueW
  have hl6 : L.length ≤ 6 := (pzB_parts HG.out).2.2.1
  have hl := hL.1
  go_enter Try.func51, Try.ntmps51
  go_wp2_with fail
  refine (implIsPuzzle_any q f A cp L _ (hL.go (below3 w _ _ _))).mono ?_
  rintro e w2 ⟨rfl, hx⟩
  simp only [World.size_alloc] at hx
  have k12 := (hx.block w.heap.size (by omega)).trans ((Below.heap_alloc _ _ _ (by simp; omega)).trans ((Below.heap_alloc _ _ _ (by simp)).trans (heap_alloc_at w (.cells #[.int .i64 q, .int .i64 f, .slice A L.length cp] 50) _ rfl)))
  have k22 := (hx.block (w.heap.size + 1) (by omega)).trans ((Below.heap_alloc _ _ _ (by simp)).trans (heap_alloc_at _ (.cells #[.int .i64 ck, .int .i64 ca, .int .i64 cb, .int .i64 cc] 33) _ (by simp)))
  have k32 := (hx.block (w.heap.size + 1 + 1) (by omega)).trans (heap_alloc_at _ (.cells #[.int .i64 0, .int .i64 0, .slice none 0 0] 50) _ (by simp))
  have q12 := fun i => cell_of_row w2 (w.heap.size) i _ _ _ k12
  have q22 := fun i => cell_of_row w2 (w.heap.size + 1) i _ _ _ k22
  have q32 := fun i => cell_of_row w2 (w.heap.size + 1 + 1) i _ _ _ k32
  have z32 := fun i => frozen_row (i := i) k32
  have hb2 : Below w.heap.size w w2 := (below3 w _ _ _).trans (hx.mono (by omega))
  have hs2 : w.heap.size + 3 ≤ w2.heap.size := by have := hx.size; simpa using this
  rw [HG.out]
  go_wp2_with fail
  refine (withClues_own q f A A L.length cp cp L w2 (hL.go hb2)).mono ?_
  rintro e w3 ⟨A3, c3, rfl, hO3, hx3⟩
  have k13 := (hx3.block _ (heap_lt k12)).trans k12
  have k23 := (hx3.block _ (heap_lt k22)).trans k22
  have k33 := (hx3.block _ (heap_lt k32)).trans k32
  have q13 := fun i => cell_of_row w3 (w.heap.size) i _ _ _ k13
  have q23 := fun i => cell_of_row w3 (w.heap.size + 1) i _ _ _ k23
  have q33 := fun i => cell_of_row w3 (w.heap.size + 1 + 1) i _ _ _ k33
  have z33 := fun i => frozen_row (i := i) k33
  have hb3 : Below w.heap.size w w3 := hb2.trans (hx3.mono (by omega))
  have hs3 := hx3.size
  have HO3 := Lib.hid hO3
  clear q12 q22 q32 z32 hO3
  have n0 : w.heap.size < w3.heap.size := by omega
  have n1 : w.heap.size + 1 < w3.heap.size := by omega
  have n2 : w.heap.size + 1 + 1 < w3.heap.size := by omega
  go_wp2_with (at_builtin; go_loud (refine wpList_appendQ rfl _ _ 48 rfl w2.heap.size 33 ti (.agg #[.int .i64 0, .int .i64 0, .int .i64 0, .int .i64 0]) Try.underlying48 hi hz0 hz1 hz2 rfl _ L.length L rfl (own_below HO3.out (below2 w3 _ _)) _ (some ⟨_, 0, none⟩) 1 1 [(ck, ca, cb, cc)] rfl rfl (quad_one _ _ ck ca cb cc _ (by simp)) (by simp <;> omega) (by simp <;> omega) ?_; intro v7 w7 o7 g7; (have kW7 : w7.heap[w3.heap.size]? = some (.cells #[.int .i64 q, .int .i64 f, .slice A3 L.length c3] 50 (0, 0)) := (g7.block w3.heap.size (by simp <;> omega) (fun e => by have := own_lt HO3.out _ e.symm; omega)).trans ((Below.heap_alloc _ _ _ (by simp <;> omega)).trans (heap_alloc_at w3 _ _ rfl))); (have k37 := (g7.block (w.heap.size + 1 + 1) (by simp <;> omega) (fun e => by have := own_from HO3.out _ e.symm; omega)).trans (((below2 w3 _ _).block _ n2).trans k33)); (have hb7 : Below w2.heap.size w2 w7 := (hx3.trans ((below2 w3 _ _).mono hs3)).grown g7 (by simp <;> omega) (own_from HO3.out)); (have n7 : w3.heap.size + 2 ≤ w7.heap.size := by have := g7.size; simp at this; omega); (rw [← HE.out] at o7); (obtain ⟨A7, c7, rfl, hO7⟩ := own_oq o7 (n := L.length + 1) (xs := E) HEL.out); (have qW7 := fun i => cell_of_row w7 w3.heap.size i _ _ _ kW7); (have zW7 := fun i => frozen_row (i := i) kW7); (have HA7 := Lib.hid (And.intro kW7 k37)); (have HN7 := Lib.hid g7); (clear g7 o7 kW7 k37)))
  obtain ⟨kW7, k37⟩ := HA7.out
  have hO8 : ∀ v, OQ (w7.setCell ⟨w3.heap.size, 2, none⟩ v) w2.heap.size 33 A7 E.length (fun i => E.getD i zeroQ) := fun v => by
    rcases hO7 with h | ⟨g, e, h1, h⟩
    · exact .inl h
    · refine .inr ⟨g, e, h1, h.far (fun eq => ?_) _⟩
      obtain ⟨cs, hc, _⟩ := h
      dsimp only at eq
      rw [eq, kW7] at hc
      simp at hc
  have HO8 := Lib.hid hO8; clear hO8
  refine (implIsPuzzle_any q f A7 c7 E (w7.setCell ⟨w3.heap.size, 2, none⟩ (.slice A7 E.length c7)) ((HO8.out _).rq (by omega))).mono ?_
  rintro e w9 ⟨rfl, hx9⟩
  have kW9 := (hx9.block w3.heap.size (by simp; omega)).trans (heap_set _ _ 2 _ _ (.slice A7 E.length c7) kW7)
  have k39 := (hx9.block (w.heap.size + 1 + 1) (by simp; omega)).trans ((Below.heap_setCell _ _ _ _ (by dsimp only; omega)).trans k37)
  have qW9 : ∀ i, w9.cell? ⟨w3.heap.size, i, none⟩ = #[.int .i64 q, .int .i64 f, .slice A7 E.length c7][i]? := fun i => cell_of_row w9 w3.heap.size i _ _ _ kW9
  have q39 := fun i => cell_of_row w9 (w.heap.size + 1 + 1) i _ _ _ k39
  have z39 := fun i => frozen_row (i := i) k39
  have hs7 : w3.heap.size ≤ w7.heap.size := by omega
  have hb9 : Below w2.heap.size w2 w9 := (hb7.setCell (by dsimp only; omega) _).trans (hx9.mono (by simp; omega))
  have hO9 := (HO8.out (.slice A7 E.length c7)).below hx9 (Nat.le_refl _)
  have HO9 := Lib.hid hO9; have HB := Lib.hid (hb2.trans (hb9.mono (by omega)))
  clear hO9 hO7 qW7 zW7 kW7 k37
  rw [HC.out]
  go_wp2
  exact bodyPost_ret (v := .tuple #[.agg #[.int .i64 q, .int .i64 f, .slice A7 E.length c7], .bool true]) (by simp [results, Try.results51, go_sem, q39]) rfl ⟨A7, c7, rfl, (((HO9.out.set (by dsimp only; omega) _).set (by dsimp only; omega) _).set (by dsimp only; omega) _).from_ hb2.size, ((HB.out.setCell (by dsimp only; omega) _).setCell (by dsimp only; omega) _).setCell (by dsimp only; omega) _⟩

theorem addClue_both (q f : Int) (L : List Qd) (ck ca cb cc : Int) :
    (∀ (A : Option Addr) (c : Nat) (w : World), RQ w w.heap.size A L → L.length ≤ c → Calls Try.prog 50 #[.agg #[.int .i64 q, .int .i64 f, .slice A L.length c], .agg #[.int .i64 ck, .int .i64 ca, .int .i64 cb, .int .i64 cc]] w (PzBack w.heap.size w (addPz q f L (ck, ca, cb, cc)))) ∧
    (∀ (A : Option Addr) (c : Nat) (w : World), RQ w w.heap.size A L → L.length ≤ c → Calls Try.prog 51 #[.agg #[.int .i64 q, .int .i64 f, .slice A L.length c], .agg #[.int .i64 ck, .int .i64 ca, .int .i64 cb, .int .i64 cc]] w (PzBack w.heap.size w (addPz q f L (ck, ca, cb, cc)))) := by
  cases hg : pzB q f L
  · have e : addPz q f L (ck, ca, cb, cc) = noPz := by rw [addPz, hg]; rfl
    rw [e]
    exact ⟨fun A c w h _ => specAddClue_bad q f ck ca cb cc A c L w h hg, fun A c w h _ => implAddClue_bad q f ck ca cb cc A c L w h hg⟩
  · have ha := pzB_app q f L (ck, ca, cb, cc) hg
    cases hc : clB q f ck ca cb cc
    · have h : pzB q f (L ++ [(ck, ca, cb, cc)]) = false := by rw [ha, clQ, hc]; rfl
      have e : addPz q f L (ck, ca, cb, cc) = noPz := by rw [addPz, hg, h]; rfl
      rw [e]
      exact ⟨fun A c w hL _ => specAddClue_no q f ck ca cb cc A c L w hL hg hc, fun A c w hL _ => implAddClue_no q f ck ca cb cc A c L w hL hg h⟩
    · by_cases h6 : (L.length : Int) = 6
      · have h : pzB q f (L ++ [(ck, ca, cb, cc)]) = false := by rw [ha, decide_eq_true h6]; simp
        have e : addPz q f L (ck, ca, cb, cc) = noPz := by rw [addPz, hg, h]; rfl
        rw [e]
        exact ⟨fun A c w hL _ => specAddClue_full q f ck ca cb cc A c L w hL hg hc h6, fun A c w hL _ => implAddClue_no q f ck ca cb cc A c L w hL hg h⟩
      · have h : pzB q f (L ++ [(ck, ca, cb, cc)]) = true := by rw [ha, clQ, hc, decide_eq_false h6]; rfl
        have e : addPz q f L (ck, ca, cb, cc) = ((q, f, L ++ [(ck, ca, cb, cc)]), true) := by rw [addPz, hg, h]; rfl
        rw [e]
        exact ⟨fun A c w hL _ => specAddClue_yes q f ck ca cb cc A c L w hL hg hc h6, fun A c w hL _ => implAddClue_yes q f ck ca cb cc A c L w hL hg h⟩
theorem addPz_len {q f : Int} {L : List Qd} {x : Qd} (hl : L.length ≤ 1048576) : (addPz q f L x).1.2.2.length ≤ 1048576 := by
  unfold addPz
  split
  · rename_i h
    rw [Bool.and_eq_true] at h
    have := (pzB_parts h.1).2.2.1
    simp; omega
  · simp [noPz]
end Go.Proofs.Ytmhffdgfkgdmlab

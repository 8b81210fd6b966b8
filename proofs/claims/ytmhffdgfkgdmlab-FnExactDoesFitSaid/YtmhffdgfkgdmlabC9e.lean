/-
  Puzzles: the program's hiddenOf, IsPuzzle and IsClue; IsPuzzle and IsClue on both sides.
-/
import Derived.Test.YtmhffdgfkgdmlabC9d
namespace Go.Proofs.Ytmhffdgfkgdmlab
open Go.RowKit

/-- The three tests of a puzzle, told apart. -/
theorem pz_cases (q f : Int) (L : List Qd) : (szB q f = false ∧ pzB q f L = false) ∨ (szB q f = true ∧ ¬ L.length ≤ 6 ∧ pzB q f L = false) ∨ (szB q f = true ∧ L.length ≤ 6 ∧ pzB q f L = L.all (clQ q f)) := by
  cases h : szB q f
  · exact .inl ⟨rfl, by rw [pzB, h]; rfl⟩
  · by_cases hl : L.length ≤ 6
    · exact .inr (.inr ⟨rfl, hl, by rw [pzB, h, decide_eq_true hl]; rfl⟩)
    · exact .inr (.inl ⟨rfl, hl, by rw [pzB, h, decide_eq_false hl]; rfl⟩)

set_option maxRecDepth 100000 in
set_option maxHeartbeats 1000000 in
theorem hiddenOf_no (q f : Int) (A : Option Addr) (cp : Nat) (L : List Qd) (w : World) (hL : RQ w w.heap.size A L) (h : pzB q f L = false) :
    Calls Try.prog 71 #[.agg #[.int .i64 q, .int .i64 f, .slice A L.length cp]] w fun e w' => e = .returned (.tuple #[.agg #[.int .i64 0, .int .i64 0], .bool false]) ∧ Below w.heap.size w w' := by
  have hl := hL.1
  rcases pz_cases q f L with ⟨hs, _⟩ | ⟨hs, hn, _⟩ | ⟨hs, hn, he⟩
  · clear h
    have HS := Lib.hid hs
    clear hs
    go_enter Try.func71, Try.ntmps71
    go_wp2_with fail
    refine (areThere_any q f _).mono ?_
    rintro e w2 ⟨rfl, hx⟩
    rw [HS.out]
    simp only [World.size_alloc] at hx
    have k1 := (hx.block w.heap.size (by omega)).trans ((Below.heap_alloc _ _ _ (by simp; omega)).trans ((Below.heap_alloc _ _ _ (by simp)).trans (heap_alloc_at w (.cells #[.int .i64 q, .int .i64 f, .slice A L.length cp] 50) _ rfl)))
    have q1 := fun i => cell_of_row w2 w.heap.size i _ _ _ k1
    have k2 := (hx.block (w.heap.size + 1) (by omega)).trans ((Below.heap_alloc _ _ _ (by simp)).trans (heap_alloc_at _ _ _ (by simp)))
    have q2 := fun i => cell_of_row w2 (w.heap.size + 1) i _ _ _ k2
    have z2 := fun i => frozen_row (i := i) k2
    have k4 := (hx.block (w.heap.size + 1 + 1) (by omega)).trans (heap_alloc_at _ _ _ (by simp))
    have q4 := fun i => cell_of_row w2 (w.heap.size + 1 + 1) i _ _ _ k4
    have hb2 : Below w.heap.size w w2 := (below3 w _ _ _).trans (hx.mono (by omega))
    clear k1 k2 k4
    go_wp2
    exact bodyPost_ret (v := .tuple #[.agg #[.int .i64 0, .int .i64 0], .bool false]) (by simp [results, Try.results71, go_sem, q2]) rfl ⟨rfl, ((hb2).setCell (by simp) _).setCell (by simp) _⟩
  · clear h
    have HS := Lib.hid hs
    clear hs
    have hn' : (6 : Int) < (L.length : Int) := by omega
    have hn2 : decide ((6 : Int) < (L.length : Int)) = true := decide_eq_true hn'
    go_enter Try.func71, Try.ntmps71
    go_wp2_with fail
    refine (areThere_any q f _).mono ?_
    rintro e w2 ⟨rfl, hx⟩
    rw [HS.out]
    simp only [World.size_alloc] at hx
    have k1 := (hx.block w.heap.size (by omega)).trans ((Below.heap_alloc _ _ _ (by simp; omega)).trans ((Below.heap_alloc _ _ _ (by simp)).trans (heap_alloc_at w (.cells #[.int .i64 q, .int .i64 f, .slice A L.length cp] 50) _ rfl)))
    have q1 := fun i => cell_of_row w2 w.heap.size i _ _ _ k1
    have k2 := (hx.block (w.heap.size + 1) (by omega)).trans ((Below.heap_alloc _ _ _ (by simp)).trans (heap_alloc_at _ _ _ (by simp)))
    have q2 := fun i => cell_of_row w2 (w.heap.size + 1) i _ _ _ k2
    have z2 := fun i => frozen_row (i := i) k2
    have k4 := (hx.block (w.heap.size + 1 + 1) (by omega)).trans (heap_alloc_at _ _ _ (by simp))
    have q4 := fun i => cell_of_row w2 (w.heap.size + 1 + 1) i _ _ _ k4
    have hb2 : Below w.heap.size w w2 := (below3 w _ _ _).trans (hx.mono (by omega))
    clear k1 k2 k4
    go_wp2
    exact bodyPost_ret (v := .tuple #[.agg #[.int .i64 0, .int .i64 0], .bool false]) (by simp [results, Try.results71, go_sem, q2]) rfl ⟨rfl, ((hb2).setCell (by simp) _).setCell (by simp) _⟩
  · rw [he] at h
    have HA := Lib.hid h
    clear h he
    have HS := Lib.hid hs
    clear hs
    have hn' : ¬ (6 : Int) < (L.length : Int) := by omega
    have hn2 : decide ((6 : Int) < (L.length : Int)) = false := decide_eq_false hn'
    go_enter Try.func71, Try.ntmps71
    go_wp2_with fail
    refine (areThere_any q f _).mono ?_
    rintro e w2 ⟨rfl, hx⟩
    rw [HS.out]
    simp only [World.size_alloc] at hx
    have k1 := (hx.block w.heap.size (by omega)).trans ((Below.heap_alloc _ _ _ (by simp; omega)).trans ((Below.heap_alloc _ _ _ (by simp)).trans (heap_alloc_at w (.cells #[.int .i64 q, .int .i64 f, .slice A L.length cp] 50) _ rfl)))
    have q1 := fun i => cell_of_row w2 w.heap.size i _ _ _ k1
    have k2 := (hx.block (w.heap.size + 1) (by omega)).trans ((Below.heap_alloc _ _ _ (by simp)).trans (heap_alloc_at _ _ _ (by simp)))
    have q2 := fun i => cell_of_row w2 (w.heap.size + 1) i _ _ _ k2
    have z2 := fun i => frozen_row (i := i) k2
    have k4 := (hx.block (w.heap.size + 1 + 1) (by omega)).trans (heap_alloc_at _ _ _ (by simp))
    have q4 := fun i => cell_of_row w2 (w.heap.size + 1 + 1) i _ _ _ k4
    have hb2 : Below w.heap.size w w2 := (below3 w _ _ _).trans (hx.mono (by omega))
    clear k1 k2 k4
    go_wp2_with fail
    refine (refuses_any q f A cp L _ (hL.go hb2)).mono ?_
    rintro e w3 ⟨rfl, hx3⟩
    rw [HA.out]
    have hs2 : w.heap.size + 3 ≤ w2.heap.size := by have := hx.size; simpa using this
    have q13 := fun i => (bcell hx3 (show w.heap.size < w2.heap.size by omega)).trans (q1 i)
    have q23 := fun i => (bcell hx3 (show w.heap.size + 1 < w2.heap.size by omega)).trans (q2 i)
    have z23 := fun i => (hx3.frozen (p := ⟨w.heap.size + 1, i, none⟩) (show w.heap.size + 1 < w2.heap.size by omega)).trans (z2 i)
    have q43 := fun i => (bcell hx3 (show w.heap.size + 1 + 1 < w2.heap.size by omega)).trans (q4 i)
    have hb3 := hb2.trans (hx3.mono hb2.size)
    clear q1 q2 z2 q4 hx hx3
    go_wp2
    exact bodyPost_ret (v := .tuple #[.agg #[.int .i64 0, .int .i64 0], .bool false]) (by simp [results, Try.results71, go_sem, q23]) rfl ⟨rfl, ((hb3).setCell (by simp) _).setCell (by simp) _⟩

set_option maxRecDepth 100000 in
set_option maxHeartbeats 1000000 in
theorem hiddenOf_yes (q f : Int) (A : Option Addr) (cp : Nat) (L : List Qd) (w : World) (hL : RQ w w.heap.size A L) (h : pzB q f L = true) :
    Calls Try.prog 71 #[.agg #[.int .i64 q, .int .i64 f, .slice A L.length cp]] w fun e w' => e = .returned (.tuple #[.agg #[.int .i64 q, .int .i64 f], .bool true]) ∧ Below w.heap.size w w' := by
  have hl := hL.1
  rcases pz_cases q f L with ⟨hs, he⟩ | ⟨hs, hn, he⟩ | ⟨hs, hn, he⟩
  · rw [h] at he; cases he
  · rw [h] at he; cases he
  · rw [he] at h
    have HA := Lib.hid h
    clear h he
    have HS := Lib.hid hs
    clear hs
    have hn' : ¬ (6 : Int) < (L.length : Int) := by omega
    have hn2 : decide ((6 : Int) < (L.length : Int)) = false := decide_eq_false hn'
    go_enter Try.func71, Try.ntmps71
    go_wp2_with fail
    refine (areThere_any q f _).mono ?_
    rintro e w2 ⟨rfl, hx⟩
    rw [HS.out]
    simp only [World.size_alloc] at hx
    have k1 := (hx.block w.heap.size (by omega)).trans ((Below.heap_alloc _ _ _ (by simp; omega)).trans ((Below.heap_alloc _ _ _ (by simp)).trans (heap_alloc_at w (.cells #[.int .i64 q, .int .i64 f, .slice A L.length cp] 50) _ rfl)))
    have q1 := fun i => cell_of_row w2 w.heap.size i _ _ _ k1
    have k2 := (hx.block (w.heap.size + 1) (by omega)).trans ((Below.heap_alloc _ _ _ (by simp)).trans (heap_alloc_at _ _ _ (by simp)))
    have q2 := fun i => cell_of_row w2 (w.heap.size + 1) i _ _ _ k2
    have z2 := fun i => frozen_row (i := i) k2
    have k4 := (hx.block (w.heap.size + 1 + 1) (by omega)).trans (heap_alloc_at _ _ _ (by simp))
    have q4 := fun i => cell_of_row w2 (w.heap.size + 1 + 1) i _ _ _ k4
    have hb2 : Below w.heap.size w w2 := (below3 w _ _ _).trans (hx.mono (by omega))
    clear k1 k2 k4
    go_wp2_with fail
    refine (refuses_any q f A cp L _ (hL.go hb2)).mono ?_
    rintro e w3 ⟨rfl, hx3⟩
    rw [HA.out]
    have hs2 : w.heap.size + 3 ≤ w2.heap.size := by have := hx.size; simpa using this
    have q13 := fun i => (bcell hx3 (show w.heap.size < w2.heap.size by omega)).trans (q1 i)
    have q23 := fun i => (bcell hx3 (show w.heap.size + 1 < w2.heap.size by omega)).trans (q2 i)
    have z23 := fun i => (hx3.frozen (p := ⟨w.heap.size + 1, i, none⟩) (show w.heap.size + 1 < w2.heap.size by omega)).trans (z2 i)
    have q43 := fun i => (bcell hx3 (show w.heap.size + 1 + 1 < w2.heap.size by omega)).trans (q4 i)
    have hb3 := hb2.trans (hx3.mono hb2.size)
    clear q1 q2 z2 q4 hx hx3
    go_wp2
    exact bodyPost_ret (v := .tuple #[.agg #[.int .i64 q, .int .i64 f], .bool true]) (by simp [results, Try.results71, go_sem, q23]) rfl ⟨rfl, ((hb3).setCell (by simp) _).setCell (by simp) _⟩

set_option maxRecDepth 100000 in
theorem implIsPuzzle_any (q f : Int) (A : Option Addr) (cp : Nat) (L : List Qd) (w : World) (hL : RQ w w.heap.size A L) :
    Calls Try.prog 84 #[.agg #[.int .i64 q, .int .i64 f, .slice A L.length cp]] w fun e w' => e = .returned (.bool (pzB q f L)) ∧ Below w.heap.size w w' := by
  have hl := hL.1
  cases h : pzB q f L
  · have H := Lib.hid h
    clear h
    go_enter Try.func84, Try.ntmps84
    go_wp2_with fail
    refine (hiddenOf_no q f A cp L _ (hL.go (below1 _ _)) H.out).mono ?_
    rintro e w2 ⟨rfl, hx⟩
    go_wp2
    go_ret
    exact ⟨rfl, ((below1 w _).trans (hx.mono (by simp))).alloc (((below1 w _).trans (hx.mono (by simp))).size) _⟩
  · have H := Lib.hid h
    clear h
    go_enter Try.func84, Try.ntmps84
    go_wp2_with fail
    refine (hiddenOf_yes q f A cp L _ (hL.go (below1 _ _)) H.out).mono ?_
    rintro e w2 ⟨rfl, hx⟩
    go_wp2
    go_ret
    exact ⟨rfl, ((below1 w _).trans (hx.mono (by simp))).alloc (((below1 w _).trans (hx.mono (by simp))).size) _⟩

theorem quad_one (w : World) (t : TypeId) (k a b c : Int) (g : Nat) (hg : g = w.heap.size) : RQ (w.alloc (.cells #[.int .i64 k, .int .i64 a, .int .i64 b, .int .i64 c] t)) (w.alloc (.cells #[.int .i64 k, .int .i64 a, .int .i64 b, .int .i64 c] t)).heap.size (some ⟨g, 0, none⟩) [(k, a, b, c)] := by
  subst hg
  refine ⟨by simp, .inr ⟨w.heap.size, 0, rfl, by simp, fun i hi => ?_⟩⟩
  obtain rfl : i = 0 := by simp at hi; exact hi
  refine ⟨?_, ?_, ?_, ?_⟩ <;> exact cell_of_row _ w.heap.size _ _ _ _ (heap_alloc_at _ _ _ rfl)
theorem pzB_one (q f k a b c : Int) : pzB q f [(k, a, b, c)] = (szB q f && clB q f k a b c) := by
  unfold pzB clQ; simp
set_option maxRecDepth 100000 in
theorem implIsClue_any (q f k a b c : Int) (w : World) :
    Calls Try.prog 64 #[.int .i64 q, .int .i64 f, .agg #[.int .i64 k, .int .i64 a, .int .i64 b, .int .i64 c]] w fun e w' => e = .returned (.bool (szB q f && clB q f k a b c)) ∧ Below w.heap.size w w' := by
  rw [← pzB_one]
  go_enter Try.func64, Try.ntmps64
  go_wp2_with fail
  refine (implIsPuzzle_any q f (some ⟨w.heap.size + 1, 0, none⟩) 1 [(k, a, b, c)] ((w.alloc (.cells #[.int .i64 k, .int .i64 a, .int .i64 b, .int .i64 c] 33)).alloc (.cells #[.int .i64 k, .int .i64 a, .int .i64 b, .int .i64 c] 33)) (quad_one _ _ k a b c _ (by simp))).mono ?_
  rintro e w2 ⟨rfl, hx⟩
  go_wp2
  go_ret
  exact ⟨rfl, (below2 w _ _).trans (hx.mono (by simp; omega))⟩


end Go.Proofs.Ytmhffdgfkgdmlab

/-
  ParseBoard on both sides.
-/
import Derived.Test.YtbblmbibddjedacDoorC1ck
import Derived.Test.YtbblmbibddjedacDoorC1cj
namespace Go.Proofs.YtbblmbibddjedacDoor
open Go.RowKit

set_option maxHeartbeats 800000 in
set_option maxRecDepth 100000 in
theorem specParseBoard_any (s : List UInt8) (w : World) (hs : s.length ≤ 1048576) :
    Calls Tryd.prog 15 #[strV s] w (BoardBack w.heap.size w (boardOf s)) := by
  obtain ⟨W0, hW0⟩ : ∃ W0, W0 = w.alloc (.cells #[.int .i64 0, .int .i64 0, .int .i64 0, .slice none 0 0] 32) := ⟨_, rfl⟩
  have z0 : W0.heap.size = w.heap.size + 1 := by rw [hW0]; simp
  have h0 : Below w.heap.size w W0 := by rw [hW0]; exact below1 _ _
  have k0 : W0.heap[w.heap.size]? = some (.cells #[.int .i64 0, .int .i64 0, .int .i64 0, .slice none 0 0] 32 (0, 0)) := by rw [hW0]; exact heap_alloc_at _ _ _ rfl
  have hcon := sqParse_any s W0 hs
  go_enter Tryd.func15, Tryd.ntmps15
  go_wp2_with fail
  rw [← hW0]
  clear hW0
  refine hcon.mono ?_
  rintro e w1 ⟨⟨b1, b2, b3, bl⟩, A, c, ok, rfl, hO, hx, hB⟩
  dsimp only at hO
  have HB := Lib.hid hB; clear hB
  have hlt : w.heap.size < w1.heap.size := by have := hx.size; omega
  have hb := h0.trans (hx.mono (by omega))
  have q0 := cell_atT hx (by omega) k0
  have f0 := free_atT hx (by omega) k0
  have hN : ∀ p : Nat, p = w.heap.size → p ≠ w1.heap.size := fun p h => by omega
  cases ok
  · go_wp2_with fail
    refine bodyPost_ret (v := .tuple #[.agg #[.int .i64 0, .int .i64 0, .int .i64 0, .slice none 0 0], .bool false]) (by simp [results, Tryd.results15, go_sem, q0, hlt]) rfl ?_
    rw [HB.out]
    exact ⟨none, 0, rfl, .inl rfl, ((((hb.setCell (by dsimp only; omega) _).setCell (by dsimp only; omega) _).setCell (by dsimp only; omega) _).setCell (by dsimp only; omega) _).alloc (by simp only [World.size_setCell]; omega) _⟩
  · go_wp2_with fail
    refine bodyPost_ret (v := .tuple #[.agg #[.int .i64 b1, .int .i64 b2, .int .i64 b3, .slice A bl.length c], .bool true]) (by simp [results, Tryd.results15, go_sem, q0, hlt]) rfl ?_
    rw [HB.out]
    exact ⟨A, c, rfl, (((((hO.farT (by dsimp only; omega) _).farT (by dsimp only; omega) _).farT (by dsimp only; omega) _).farT (by dsimp only; omega) _).below (below1 _ _) (by simp only [World.size_setCell]; omega)).loT (by omega), ((((hb.setCell (by dsimp only; omega) _).setCell (by dsimp only; omega) _).setCell (by dsimp only; omega) _).setCell (by dsimp only; omega) _).alloc (by simp only [World.size_setCell]; omega) _⟩

/-- A board and a Bool handed back, the jumps in a row of its own. -/
def BdIs (b1 b2 b3 : Int) (bl : List (Int × Int)) (ok : Bool) (w : World) (e : Ending) (w' : World) : Prop :=
  ∃ A' c', e = .returned (.tuple #[.agg #[.int .i64 b1, .int .i64 b2, .int .i64 b3, .slice A' bl.length c'], .bool ok]) ∧ OJ w' w.heap.size 57 A' bl.length (fun k => bl.getD k (0, 0)) ∧ Below w.heap.size w w'
theorem boardOf_good {s : List UInt8} {b : Bd} (h : boardOf s = some b) : good b = true := (parsed_some h).1
theorem good_wfJ {b : Bd} (h : good b = true) : b.js.length ≤ 1048576 ∧ wfJ b.js := by
  obtain ⟨_, _, _, h4, h5⟩ := good_nums h
  refine ⟨by omega, fun j hj => ?_⟩
  have := h4 j hj
  exact ⟨wfi_of (by omega) (by omega), wfi_of (by omega) (by omega)⟩
theorem parseBoard_both (s : List UInt8) (hs : s.length ≤ 1048576) : ∃ (b1 b2 b3 : Int) (bl : List (Int × Int)) (ok : Bool), bl.length ≤ 1048576 ∧ wfJ bl ∧
    (∀ w : World, Calls Tryd.prog 15 #[strV s] w (BdIs b1 b2 b3 bl ok w)) ∧
    (∀ w : World, Texts w → Calls Tryd.prog 16 #[strV s] w (BdIs b1 b2 b3 bl ok w)) := by
  have h1 := fun w => specParseBoard_any s w hs
  have h2 := fun w ht => implParseBoard_any s w ht hs
  rw [parsed_eq] at h2
  cases hb : boardOf s with
  | none =>
    rw [hb] at h1 h2
    exact ⟨0, 0, 0, [], false, by simp, fun j hj => by simp at hj, fun w => h1 w, fun w ht => h2 w ht⟩
  | some b =>
    rw [hb] at h1 h2
    have hg := good_wfJ (boardOf_good hb)
    exact ⟨b.sq, b.fa, b.ov, b.js, true, hg.1, hg.2, fun w => h1 w, fun w ht => h2 w ht⟩
end Go.Proofs.YtbblmbibddjedacDoor

/-
  PlainBoard, the model's and the program's.
-/
import Derived.Test.YtbblmbibddjedacDoorC1a
import Derived.Test.YtbblmbibddjedacDoorC1b
import Derived.Test.YtbblmbibddjedacDoorWRow
namespace Go.Proofs.YtbblmbibddjedacDoor
open Go.RowKit


set_option maxHeartbeats 400000 in
theorem implPlainBoard_any (s f o : Int) (w : World) :
    Calls Tryd.prog 50 #[.int .i64 s, .int .i64 f, .int .i64 o] w fun e w' => e = .returned (.tuple #[.agg #[.int .i64 (plainR s f o).1.1, .int .i64 (plainR s f o).1.2.1, .int .i64 (plainR s f o).1.2.2, .slice none 0 0], .bool (plainR s f o).2]) ∧ Below w.heap.size w w' := by
  have hn : ∀ W : World, RJ W W.heap.size none [] := fun W => ⟨by simp, fun j hj => by simp at hj, .inl rfl⟩
  cases hg : good ⟨s, f, o, []⟩
  all_goals
    have ht : plainR s f o = (if good ⟨s, f, o, []⟩ then ((s, f, o), true) else ((0, 0, 0), false)) := rfl
    rw [hg] at ht
    simp only [if_true, Bool.false_eq_true, if_false] at ht
    have HT := Lib.hid ht; clear ht
    rw [HT.out]
    have HG := Lib.hid hg; clear hg
    go_enter Tryd.func50, Tryd.ntmps50
    go_wp2_with fail
    refine (implIsBoard_any s f o none 0 [] _ (hn _)).mono ?_
    rintro e w1 ⟨rfl, hx⟩
    rw [HG.out]
    have B1 := (hx.block w.heap.size (by simp; omega)).trans ((Below.heap_alloc _ _ _ (by simp)).trans (heap_alloc_at _ _ _ rfl))
    have B2 := (hx.block (w.heap.size + 1) (by simp)).trans (heap_alloc_at _ _ _ (by simp))
    have q1 := fun i => cell_of_row w1 w.heap.size i _ _ _ B1
    have q2 := fun i => cell_of_row w1 (w.heap.size + 1) i _ _ _ B2
    have f1 := fun i => frozen_row (i := i) B1
    clear B1 B2
    have hb : Below w.heap.size w w1 := (below2 _ _ _).trans (hx.mono (by simp; omega))
    go_wp2
  · exact bodyPost_ret (v := .tuple #[.agg #[.int .i64 0, .int .i64 0, .int .i64 0, .slice none 0 0], .bool false]) (by simp [results, Tryd.results50, go_sem, q1]) rfl ⟨rfl, (((hb.setCell (Nat.le_refl _) _).setCell (Nat.le_refl _) _).setCell (Nat.le_refl _) _).setCell (Nat.le_refl _) _⟩
  · exact bodyPost_ret (v := .tuple #[.agg #[.int .i64 s, .int .i64 f, .int .i64 o, .slice none 0 0], .bool true]) (by simp [results, Tryd.results50, go_sem, q1]) rfl ⟨rfl, (((hb.setCell (Nat.le_refl _) _).setCell (Nat.le_refl _) _).setCell (Nat.le_refl _) _).setCell (Nat.le_refl _) _⟩
end Go.Proofs.YtbblmbibddjedacDoor

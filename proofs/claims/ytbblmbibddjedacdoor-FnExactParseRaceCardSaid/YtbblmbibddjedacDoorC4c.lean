/-
  Races: IsRace on both sides.
-/
import Derived.Test.YtbblmbibddjedacDoorC4b
namespace Go.Proofs.YtbblmbibddjedacDoor
open Go.RowKit

theorem storeContest (s f o : Int) (G : Nat → Int) (m : Bool) (x y : Int) (w : World) : (storeCells ⟨w.heap.size, 0, none⟩ (ctsCells s f o G m x y).toList 0).run Tryd.prog (w.alloc (.cells Tryd.zeroCells73 73)) = .ok () (w.alloc (.cells (ctsCells s f o G m x y) 73)) :=
  run_storeCells_new w _ _ _ (by rw [cts_size]; exact sizeContest) (by rw [contestZero, cts_size, cts_size]) (Array.all_eq_true_iff_forall_mem.2 fun u hu => cts_one _ _ _ _ _ _ _ u (Array.mem_toList_iff.2 hu))


set_option maxRecDepth 100000 in
theorem implIsRace_any (s f o me fi ot : Int) (A : Option Addr) (c : Nat) (js : List (Int × Int)) (w : World) (hj : RJ w w.heap.size A js) :
    Calls Tryd.prog 24 #[.agg #[.int .i64 s, .int .i64 f, .int .i64 o, .slice A js.length c, .int .i64 me, .int .i64 fi, .int .i64 ot]] w fun e w' => e = .returned (.bool (raceOk s f o js me fi ot)) ∧ Below w.heap.size w w' := by
  have hl := hj.1
  go_enter Tryd.func24, Tryd.ntmps24
  go_wp2_with fail
  refine (contestOf_any _ _ _ _ _ _ _ _ _ _ (hj.go (below1 _ _))).mono ?_
  rintro e w1 ⟨rfl, hx⟩
  obtain ⟨a1, a2, a3, a4, a5, a6, a7, hX⟩ : ∃ a1 a2 a3 a4 a5 a6 a7, (if raceOk s f o js me fi ot then ctsCells s f o (fun i => jumpOf js i) (me == 1) fi ot else ctsCells 0 0 0 (fun _ => 0) false 0 0) = ctsCells a1 a2 a3 a4 a5 a6 a7 := by
    cases raceOk s f o js me fi ot
    · exact ⟨_, _, _, _, _, _, _, rfl⟩
    · exact ⟨_, _, _, _, _, _, _, rfl⟩
  rw [hX]
  clear hX
  have hst := storeContest a1 a2 a3 a4 a5 a6 a7
  go_wp2_with fail
  go_ret
  exact ⟨rfl, ((below1 _ _).trans (hx.mono (by simp))).alloc (by have := hx.size; simp at this; omega) _⟩

end Go.Proofs.YtbblmbibddjedacDoor

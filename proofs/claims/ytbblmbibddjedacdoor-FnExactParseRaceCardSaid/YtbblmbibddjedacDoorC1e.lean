/-
  The model: sqSquare, sqAsked, sqThrow, ThrowTo, sqFaces, FacesTo.
-/
import Derived.Test.YtbblmbibddjedacDoorC1a
namespace Go.Proofs.YtbblmbibddjedacDoor
open Go.RowKit

theorem sqSquare_any (s f o : Int) (A : Option Addr) (c : Nat) (sq : Int) (js : List (Int × Int)) (w : World) (hj : RJ w w.heap.size A js) :
    Calls Tryd.prog 39 #[.agg #[.int .i64 s, .int .i64 f, .int .i64 o, .slice A js.length c], .int .i64 sq] w fun e w' => e = .returned (.bool (onSq s js sq)) ∧ Below w.heap.size w w' := by
  have hl := hj.1
  cases hi : inB sq 0 s
  · go_enter Tryd.func39, Tryd.ntmps39
    go_wp2_with (go_at_call 38; refine (l1In_any _ _ _ _).mono ?_; rintro e w' ⟨rfl, rfl⟩)
    go_ret
    exact ⟨ret_bool (by rw [onSq, hi, Bool.false_and]), below1 _ _⟩
  · go_enter Tryd.func39, Tryd.ntmps39
    go_wp2_with (first | (go_at_call 38; refine (l1In_any _ _ _ _).mono ?_; rintro e w' ⟨rfl, rfl⟩) | (go_at_call 52; refine (sqJump_any _ _ _ _ _ _ _ _ (hj.go (below1 _ _))).mono ?_; rintro e w2 ⟨rfl, hx⟩))
    go_ret
    exact ⟨ret_bool (by rw [onSq, hi, Bool.true_and]), (below1 _ _).trans (hx.mono (by simp))⟩



end Go.Proofs.YtbblmbibddjedacDoor

/-
  The model: sqSquare, sqAsked, sqThrow, ThrowTo, sqFaces, FacesTo.
-/
import Derived.Test.YteogfondnpfklaaC1a
namespace Go.Proofs.Yteogfondnpfklaa
open Go.RowKit

theorem sqSquare_any (s f o : Int) (A : Option Addr) (c : Nat) (sq : Int) (js : List (Int × Int)) (w : World) (hj : RJ w w.heap.size A js) :
    Calls Try.prog 86 #[.agg #[.int .i64 s, .int .i64 f, .int .i64 o, .slice A js.length c], .int .i64 sq] w fun e w' => e = .returned (.bool (onSq s js sq)) ∧ Below w.heap.size w w' := by
  have hl := hj.1
  cases hi : inB sq 0 s
  · go_enter Try.func86, Try.ntmps86
    go_wp2_with (go_at_call 50; refine (l1In_any _ _ _ _).mono ?_; rintro e w' ⟨rfl, rfl⟩)
    go_ret
    exact ⟨ret_bool (by rw [onSq, hi, Bool.false_and]), below1 _ _⟩
  · go_enter Try.func86, Try.ntmps86
    go_wp2_with (first | (go_at_call 50; refine (l1In_any _ _ _ _).mono ?_; rintro e w' ⟨rfl, rfl⟩) | (go_at_call 112; refine (sqJump_any _ _ _ _ _ _ _ _ (hj.go (below1 _ _))).mono ?_; rintro e w2 ⟨rfl, hx⟩))
    go_ret
    exact ⟨ret_bool (by rw [onSq, hi, Bool.true_and]), (below1 _ _).trans (hx.mono (by simp))⟩


set_option maxHeartbeats 400000 in
theorem sqThrow_any (s f o : Int) (A : Option Addr) (c : Nat) (sq face : Int) (js : List (Int × Int)) (w : World) (hj : RJ w w.heap.size A js) (hs0 : 1 ≤ s) (hs : s ≤ 100) (ho0 : 0 ≤ o) (ho : o ≤ 2) (h0 : 0 ≤ sq) (h1 : sq ≤ s) (hf0 : 1 ≤ face) (hf : face ≤ 8) :
    Calls Try.prog 113 #[.agg #[.int .i64 s, .int .i64 f, .int .i64 o, .slice A js.length c], .int .i64 sq, .int .i64 face] w fun e w' => e = .returned (.int .i64 (thrown s o js sq face)) ∧ Below w.heap.size w w' := by
  have hl := hj.1
  by_cases he : sq = s
  · have e1 : (sq == s) = true := by simpa using he
    go_enter Try.func113, Try.ntmps113
    go_wp2
    go_ret
    exact ⟨ret_int (by simp [thrown, he]), below1 _ _⟩
  · have e1 : (sq == s) = false := by simpa using he
    by_cases hle : sq + face ≤ s
    · have e2 : ¬ s < sq + face := by omega
      go_enter Try.func113, Try.ntmps113
      go_wp2_with (go_at_call 112; refine (sqJump_any _ _ _ _ _ _ _ _ (hj.go (below1 _ _))).mono ?_; rintro e w2 ⟨rfl, hx⟩)
      go_ret
      exact ⟨ret_int (by rw [thrown, if_neg he, if_pos (show sq + face ≤ s by omega)]), (below1 _ _).trans (hx.mono (by simp))⟩
    · have e2 : s < sq + face := by omega
      by_cases hz : o = 0
      · subst hz
        go_enter Try.func113, Try.ntmps113
        go_wp2
        go_ret
        exact ⟨ret_int (by rw [thrown, if_neg he, if_neg (show ¬ sq + face ≤ s by omega), if_pos rfl]), below1 _ _⟩
      · by_cases hz1 : o = 1
        · subst hz1
          go_enter Try.func113, Try.ntmps113
          go_wp2
          go_ret
          exact ⟨ret_int (by rw [thrown, if_neg he, if_neg (show ¬ sq + face ≤ s by omega), if_neg (by decide), if_pos rfl]), below1 _ _⟩
        · obtain rfl : o = 2 := by omega
          by_cases hb : 2 * s - (sq + face) < 0
          · go_enter Try.func113, Try.ntmps113
            go_wp2
            go_ret
            exact ⟨ret_int (by rw [thrown, if_neg he, if_neg (show ¬ sq + face ≤ s by omega), if_neg (by decide), if_neg (by decide), if_pos (show 2 * s - (sq + face) < 0 by omega)]), below1 _ _⟩
          · go_enter Try.func113, Try.ntmps113
            go_wp2_with (go_at_call 112; refine (sqJump_any _ _ _ _ _ _ _ _ (hj.go (below1 _ _))).mono ?_; rintro e w2 ⟨rfl, hx⟩)
            go_ret
            exact ⟨ret_int (by rw [thrown, if_neg he, if_neg (show ¬ sq + face ≤ s by omega), if_neg (by decide), if_neg (by decide), if_neg (show ¬ 2 * s - (sq + face) < 0 by omega)]), (below1 _ _).trans (hx.mono (by simp))⟩

end Go.Proofs.Yteogfondnpfklaa

/-
  The law FnExactIsClue, walked.
-/
import Derived.Test.YtmhffdgfkgdmlaaC9e
import Derived.Test.YtmhffdgfkgdmlaaL80
namespace Go.Proofs.Ytmhffdgfkgdmlaa
open Go.RowKit

set_option maxRecDepth 100000 in
theorem lawIsClue_any (q f k a b c : Int) (w : World) :
    Calls Try.prog 11 #[.int .i64 q, .int .i64 f, .agg #[.int .i64 k, .int .i64 a, .int .i64 b, .int .i64 c]] w fun e w' => e = .returned (.bool true) ∧ Below w.heap.size w w' := by
  obtain ⟨ok, hS, hI⟩ := isClue_both q f k a b c
  have hS := Lib.hid hS; have hI := Lib.hid hI
  have hb0 : Below (w.heap.size + 1) (w.alloc (.cells #[.int .i64 k, .int .i64 a, .int .i64 b, .int .i64 c] 52)) (w.alloc (.cells #[.int .i64 k, .int .i64 a, .int .i64 b, .int .i64 c] 52)) := Below.refl _ _
  have qq := boxcells hb0
  go_enter Try.func11, Try.ntmps11
  go_wp2_with fail
  refine (toClue_any _ _ _ _ _).mono ?_
  rintro e w2 ⟨rfl, hx⟩
  replace hb0 := box_on hb0 hx (by simp)
  replace qq := boxcells hb0
  go_wp2_with fail
  refine (hS.out _).mono ?_
  rintro e w3 ⟨rfl, hx⟩
  replace hb0 := box_on hb0 hx (by have := hb0.size; simpa using this)
  replace qq := boxcells hb0
  go_wp2_with fail
  refine (toClue_any _ _ _ _ _).mono ?_
  rintro e w4 ⟨rfl, hx⟩
  replace hb0 := box_on hb0 hx (by have := hb0.size; simpa using this)
  clear qq
  go_wp2_with fail
  refine (hI.out _).mono ?_
  rintro e w5 ⟨rfl, hx⟩
  replace hb0 := box_on hb0 hx (by have := hb0.size; simpa using this)
  go_wp2
  go_ret
  exact ⟨rfl, (below1 _ _).trans (hb0.mono (by omega))⟩
end Go.Proofs.Ytmhffdgfkgdmlaa

/-
  The method hasFace.
-/
import Derived.Test.YteogfondnpfklaaC1d
namespace Go.Proofs.Yteogfondnpfklaa
open Go.RowKit

theorem hasFace_any (g : Nat) (s f o : Int) (G : Nat → Int) (face : Int) (w : World) (hC : CV w g s f o G) :
    Calls Try.prog 133 #[.pointer (some ⟨g, 0, none⟩), .int .i64 face] w fun e w' => e = .returned (.bool (inB face 1 f)) ∧ w = w' := by
  have c0 := hC.fa
  by_cases h0 : 1 ≤ face
  · have g0 : decide ((1 : Int) ≤ face) = true := by simpa using h0
    go_enter Try.func133, Try.ntmps133
    go_wp2
    go_ret
    exact ⟨ret_bool (by simp [inB, h0]), rfl⟩
  · have g0 : decide ((1 : Int) ≤ face) = false := by simpa using h0
    go_enter Try.func133, Try.ntmps133
    go_wp2
    go_ret
    exact ⟨ret_bool (by rw [inB, g0, Bool.false_and]), rfl⟩
end Go.Proofs.Yteogfondnpfklaa

/-
  Pairs: the squares of both when one has moved, the program's.
-/
import Derived.Test.YtblpfjjnlfjloaaC5m
namespace Go.Proofs.Ytblpfjjnlfjloaa
open Go.RowKit

set_option maxRecDepth 100000 in
theorem moved0_any (x y face : Nat) (w : World) (hx : x ≤ 100) (hf : face ≤ 8) :
    Calls Try.prog 70 #[.agg #[.int .i64 x, .int .i64 y], .int .i64 0, .int .i64 face] w fun e w' => e = .returned (.agg #[.int .i64 (x + face : Nat), .int .i64 y]) ∧ Below w.heap.size w w' := by
  have w0 : IntKind.i64.wrap ((x : Int) + (face : Int)) = (x : Int) + (face : Int) := IntWalk.i64_in _ (by omega)
  have he : (x : Int) + (face : Int) = ((x + face : Nat) : Int) := by omega
  have HE := Lib.hid he; clear he
  go_enter Try.func70, Try.ntmps70
  go_wp2
  exact bodyPost_ret (v := .agg #[.int .i64 ((x : Int) + (face : Int)), .int .i64 y]) (by simp [results, Try.results70, go_sem]) rfl ⟨by rw [HE.out], below2 _ _ _⟩
set_option maxRecDepth 100000 in
theorem moved1_any (x y face : Nat) (w : World) (hx : y ≤ 100) (hf : face ≤ 8) :
    Calls Try.prog 70 #[.agg #[.int .i64 x, .int .i64 y], .int .i64 1, .int .i64 face] w fun e w' => e = .returned (.agg #[.int .i64 x, .int .i64 (y + face : Nat)]) ∧ Below w.heap.size w w' := by
  have w0 : IntKind.i64.wrap ((y : Int) + (face : Int)) = (y : Int) + (face : Int) := IntWalk.i64_in _ (by omega)
  have he : (y : Int) + (face : Int) = ((y + face : Nat) : Int) := by omega
  have HE := Lib.hid he; clear he
  go_enter Try.func70, Try.ntmps70
  go_wp2
  exact bodyPost_ret (v := .agg #[.int .i64 x, .int .i64 ((y : Int) + (face : Int))]) (by simp [results, Try.results70, go_sem]) rfl ⟨by rw [HE.out], below2 _ _ _⟩
end Go.Proofs.Ytblpfjjnlfjloaa

/-
  Numbers of lists, cut at a greatest one. Plain mathematics.
-/
import Derived.Test.YtiekdokgjdgajaaM2
import Derived.Test.YtiekdokgjdgajaaM9
namespace Go.Proofs.Ytiekdokgjdgajaa

/-- All numbers from 1000000000000001 on are told as that one. -/
def sat (v : Int) : Int := if v ≤ 1000000000000001 then v else 1000000000000001
theorem sat_zero : sat 0 = 0 := rfl
theorem sat_le (v : Int) : sat v ≤ 1000000000000001 := by unfold sat; split <;> omega
theorem sat_nonneg {v : Int} (h : 0 ≤ v) : 0 ≤ sat v := by unfold sat; split <;> omega
theorem sat_low {v : Int} (h : sat v ≤ 1000000000000000) : sat v = v := by unfold sat at h ⊢; split at h <;> split <;> omega
theorem sat_eq_zero {v : Int} (h : sat v = 0) : v = 0 := by unfold sat at h; split at h <;> omega
theorem sat_add {a b : Int} (ha : 0 ≤ a) (hb : 0 ≤ b) : sat (sat a + sat b) = sat (a + b) := by
  unfold sat; repeat' split
  all_goals omega
/-- The lists that lead to y, behind all squares before m and j faces of m. -/
def onwP (s f o : Int) (js : List (Int × Int)) (P : Nat → Int) (m j : Nat) (y : Nat) : Int := sumTo (fun i => P i * facesTo s o js i y f.toNat) m + P m * facesTo s o js m y j
section
variable {s f o : Int} {js : List (Int × Int)} {P : Nat → Int}
theorem onwP_nonneg (hP : ∀ i, 0 ≤ P i) (m j y : Nat) : 0 ≤ onwP s f o js P m j y := by
  have h1 : 0 ≤ sumTo (fun i => P i * facesTo s o js i y f.toNat) m := sumTo_nonneg m fun i _ => Int.mul_nonneg (hP i) (facesTo_le s o js i y f.toNat).1
  have h2 := Int.mul_nonneg (hP m) (facesTo_le s o js m y j).1
  unfold onwP
  omega
theorem onwP_zero (m y : Nat) : onwP s f o js P m 0 y = sumTo (fun i => P i * facesTo s o js i y f.toNat) m := by
  have : facesTo s o js m y 0 = 0 := rfl
  rw [onwP, this]; omega
theorem onwP_hit {m j y : Nat} (h : thrown s o js m ((j : Int) + 1) = y) : onwP s f o js P m (j + 1) y = onwP s f o js P m j y + P m := by
  rw [onwP, onwP, facesTo_succ, if_pos h, Int.mul_add]; omega
theorem onwP_miss {m j y : Nat} (h : ¬ thrown s o js m ((j : Int) + 1) = y) : onwP s f o js P m (j + 1) y = onwP s f o js P m j y := by
  rw [onwP, onwP, facesTo_succ, if_neg h, Int.mul_add]; omega
theorem onwP_row (m y : Nat) : sumTo (fun i => P i * facesTo s o js i y f.toNat) (m + 1) = onwP s f o js P m f.toNat y := rfl
theorem onwP_none {m : Nat} (h : P m = 0) (y : Nat) : sumTo (fun i => P i * facesTo s o js i y f.toNat) (m + 1) = sumTo (fun i => P i * facesTo s o js i y f.toNat) m := by
  rw [onwP_row, onwP, h]; omega
end
end Go.Proofs.Ytiekdokgjdgajaa

/-
  Tracks: StepsMade on both sides.
-/
import Derived.Test.YtmhffdgfkgdmlaaC7o
namespace Go.Proofs.Ytmhffdgfkgdmlaa
open Go.RowKit

/-- The sum of the steps of a row, those at home with 0. -/
def sumUp (r : List Int) : Int := (r.map (fun x => max 0 x)).sum
theorem sumUp_snoc (r : List Int) {j : Nat} (h : j < r.length) : sumUp (r.take (j + 1)) = sumUp (r.take j) + max 0 r[j] := by
  unfold sumUp
  rw [List.take_succ_eq_append_getElem h, List.map_append, List.sum_append]
  simp only [List.map_cons, List.map_nil, List.sum_cons, List.sum_nil]
  omega
theorem sumUp_bd {q : Int} (hq : 0 ≤ q) : ∀ (r : List Int), (∀ x ∈ r, x ≤ q) → 0 ≤ sumUp r ∧ sumUp r ≤ r.length * q
  | [], _ => by simp [sumUp]
  | x :: t, h => by
    have h1 := sumUp_bd hq t (fun y hy => h y (by simp [hy]))
    have h2 := h x (by simp)
    have e : sumUp (x :: t) = max 0 x + sumUp t := rfl
    have e2 : ((x :: t).length : Int) * q = q + t.length * q := by simp [Int.add_mul]; omega
    rw [e, e2]
    omega
/-- The sums of the rows. -/
def sumsUp (L : List (List Int)) : List Int := L.map sumUp
theorem sumsUp_snoc (L : List (List Int)) {p : Nat} (h : p < L.length) : sumsUp (L.take (p + 1)) = sumsUp (L.take p) ++ [sumUp L[p]] := by
  unfold sumsUp
  rw [List.take_succ_eq_append_getElem h, List.map_append]
  rfl
theorem sumsUp_len (L : List (List Int)) : (sumsUp L).length = L.length := by simp [sumsUp]

theorem infoInt1 : (Try.prog.info? 3).map (fun i => (i.zero, i.size, i.bytes)) = some (some (.int .i64 0), 1, 8) := by kernel_rfl
theorem one_int (x : Int) : ∀ u ∈ [Value.int .i64 x], u.oneCell' = true := by intro u hu; simp at hu; subst hu; rfl
/-- A slice of integers and a bool are handed back. -/
def IntsBack (w : World) (R : List Int × Bool) (e : Ending) (w' : World) : Prop :=
  ∃ A' c', e = .returned (.tuple #[.slice A' R.1.length c', .bool R.2]) ∧ OI w' w.heap.size 3 A' R.1.length (fun k => R.1.getD k 0) ∧ Below w.heap.size w w'




end Go.Proofs.Ytmhffdgfkgdmlaa

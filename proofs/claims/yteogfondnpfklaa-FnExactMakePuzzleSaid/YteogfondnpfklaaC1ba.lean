/-
  Jumps in rows: small words shared by what hands back jumps.
-/
import Derived.Test.YteogfondnpfklaaC1a
import Derived.Test.YteogfondnpfklaaWRow
namespace Go.Proofs.Yteogfondnpfklaa
open Go.RowKit

theorem infoJump1 : (Try.prog.info? 113).map (fun i => (i.zero, i.size, i.bytes)) = some (some (.agg #[.int .i64 0, .int .i64 0]), 2, 16) := by kernel_rfl
theorem cell_new2 (w : World) (u v : Value) (t : TypeId) : ∀ (j : Nat) x, [u, v][j]? = some x → (w.alloc (.cells #[u, v] t)).cell? ((⟨w.heap.size, 0, none⟩ : Addr).add j) = some x := by
  intro j x h
  match j, h with
  | 0, h => simp at h; subst h; simp [Addr.add, World.cell?_alloc_at _ _ _ _ rfl]
  | 1, h => simp at h; subst h; simp [Addr.add, World.cell?_alloc_at _ _ _ _ rfl]
theorem cell_new2' (w : World) (u v : Value) (t : TypeId) {g : Nat} (hg : g = w.heap.size) : ∀ (j : Nat) x, [u, v][j]? = some x → (w.alloc (.cells #[u, v] t)).cell? ((⟨g, 0, none⟩ : Addr).add j) = some x := by subst hg; exact cell_new2 w u v t
theorem two_int (x y : Int) : ∀ u ∈ [Value.int .i64 x, .int .i64 y], u.oneCell' = true := by intro u hu; simp at hu; rcases hu with rfl | rfl <;> rfl

/-- What a function hands back that gives jumps. -/
def JumpsBack (w : World) (R : List (Int × Int) × Bool) (e : Ending) (w' : World) : Prop :=
  ∃ A' c', e = .returned (.tuple #[.slice A' R.1.length c', .bool R.2]) ∧ OJ w' w.heap.size 113 A' R.1.length (fun k => R.1.getD k (0, 0)) ∧ Below w.heap.size w w'
end Go.Proofs.Yteogfondnpfklaa

/-
  Results that are a slice of integers and a bool.
-/
import Derived.Test.YteogfondnpfklaaChecked
import Derived.Test.YteogfondnpfklaaWRow
namespace Go.Proofs.Yteogfondnpfklaa
open Go.RowKit

theorem infoInt1 : (Try.prog.info? 3).map (fun i => (i.zero, i.size, i.bytes)) = some (some (.int .i64 0), 1, 8) := by kernel_rfl
theorem cell_new1 (w : World) (v : Value) (t : TypeId) : ∀ (j : Nat) u, [v][j]? = some u → (w.alloc (.cells #[v] t)).cell? ((⟨w.heap.size, 0, none⟩ : Addr).add j) = some u := by
  intro j u h
  match j, h with
  | 0, h => simp at h; subst h; simp [Addr.add, World.cell?_alloc_at _ _ _ _ rfl]
theorem one_int (x : Int) : ∀ u ∈ [Value.int .i64 x], u.oneCell' = true := by intro u hu; simp at hu; subst hu; rfl

/-- What LandingsOf hands back. -/
def IntsBack (w : World) (R : List Int × Bool) (e : Ending) (w' : World) : Prop :=
  ∃ A' c', e = .returned (.tuple #[.slice A' R.1.length c', .bool R.2]) ∧ OI w' w.heap.size 3 A' R.1.length (fun k => R.1.getD k 0) ∧ Below w.heap.size w w'
end Go.Proofs.Yteogfondnpfklaa

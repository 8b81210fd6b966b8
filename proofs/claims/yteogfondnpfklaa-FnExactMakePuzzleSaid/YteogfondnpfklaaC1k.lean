/-
  Squares that are reached, the model's: sqReached.
-/
import Derived.Test.YteogfondnpfklaaC1e
import Derived.Test.YteogfondnpfklaaC1i
import Derived.Test.YteogfondnpfklaaWB
import Derived.Test.YteogfondnpfklaaM8
import Derived.Deep.RegionHeld3
import Derived.Deep.LoopGhost
namespace Go.Proofs.Yteogfondnpfklaa
open Go.RowKit

theorem wantedK {o : Oper} {y : Nat → Option Bool} (hg : o.guard = none) : Region.wanted o y = true := by unfold Region.wanted; rw [hg]
theorem infoBool1 : (Try.prog.info? 4).map (fun i => (i.zero, i.size, i.bytes)) = some (some (.bool false), 1, 1) := by kernel_rfl
/-- Numbers as cells. -/
def natC (l : List Nat) : List Value := l.map (fun i : Nat => Value.int .i64 i)
theorem cell_new1' (w : World) (v : Value) (t : TypeId) {g : Nat} (hg : g = w.heap.size) : ∀ (j : Nat) u, [v][j]? = some u → (w.alloc (.cells #[v] t)).cell? ((⟨g, 0, none⟩ : Addr).add j) = some u := by subst hg; exact cell_new1 w v t
theorem natC_snoc (l : List Nat) (y : Nat) : natC (l ++ [y]) = natC l ++ [.int .i64 (y : Int)] := by simp [natC]

/-- What a search hands back: which squares are reached. -/
def ReachIs (w : World) (s f o : Int) (js : List (Int × Int)) (q : Nat) (e : Ending) (w' : World) : Prop :=
  ∃ g F, e = .returned (.slice (some ⟨g, 0, none⟩) (s.toNat + 1) (s.toNat + 1)) ∧ w.heap.size ≤ g ∧ RowB w' g 4 (s.toNat + 1) F ∧ (∀ i, F i = true ↔ Rch (nxB s o js) f.toNat q i) ∧ Below w.heap.size w w'

end Go.Proofs.Yteogfondnpfklaa

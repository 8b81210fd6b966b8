/-
  Puzzles: DropClue on both sides.
-/
import Derived.Test.YteogfondnpfklaaC9g
namespace Go.Proofs.Yteogfondnpfklaa
open Go.RowKit

/-- A puzzle and a Bool: the clues in memory that the call made. -/
def PzBack (B : Nat) (w : World) (R : (Int × Int × List Qd) × Bool) (e : Ending) (w' : World) : Prop :=
  ∃ A c, e = .returned (.tuple #[.agg #[.int .i64 R.1.1, .int .i64 R.1.2.1, .slice A R.1.2.2.length c], .bool R.2]) ∧ OQ w' B 44 A R.1.2.2.length (fun i => R.1.2.2.getD i zeroQ) ∧ Below B w w'
def noPz : (Int × Int × List Qd) × Bool := ((0, 0, []), false)
theorem noPz_back (w w' : World) (hb : Below w.heap.size w w') : PzBack w.heap.size w noPz (.returned (.tuple #[.agg #[.int .i64 0, .int .i64 0, .slice none 0 0], .bool false])) w' := ⟨none, 0, rfl, .inl rfl, hb⟩
theorem OQ.set {w : World} {lo n : Nat} {t : TypeId} {A : Option Addr} {F : Nat → Qd} (h : OQ w lo t A n F) {p : Addr} (hp : p.block < lo) (v : Value) : OQ (w.setCell p v) lo t A n F := by
  rcases h with h | ⟨g, e, h1, h⟩
  · exact .inl h
  · exact .inr ⟨g, e, h1, h.far (by omega) _⟩
/-- DropClue. -/
def dropPz (q f : Int) (L : List Qd) (x : Int) : (Int × Int × List Qd) × Bool := if pzB q f L && inB x 0 ((L.length : Int) - 1) then ((q, f, dropQ L x.toNat), true) else noPz
theorem sizePz : (Try.prog.info? 28).map (·.size) = some 3 := by kernel_rfl





end Go.Proofs.Yteogfondnpfklaa

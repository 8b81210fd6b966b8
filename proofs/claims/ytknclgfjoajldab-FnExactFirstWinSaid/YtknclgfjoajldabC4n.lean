/-
  Races: CountRaced on both sides.
-/
import Derived.Test.YtknclgfjoajldabC4j
import Derived.Test.YtknclgfjoajldabC4m
import Derived.Test.YtknclgfjoajldabC4c
namespace Go.Proofs.Ytknclgfjoajldab
open Go.RowKit

open Classical in
/-- The states that are reached, each once. -/
noncomputable def reachL (s f o : Int) (js : List (Int × Int)) (me : Int) (q0 : Nat) : List Nat := (List.range (2 * ((s.toNat + 1) * (s.toNat + 1)))).filter fun z => decide (Rch (nxS s o js me) f.toNat q0 z)
theorem reachL_nodup (s f o : Int) (js : List (Int × Int)) (me : Int) (q0 : Nat) : (reachL s f o js me q0).Nodup := List.Pairwise.filter _ List.nodup_range
open Classical in
theorem reachL_mem {s f o : Int} {js : List (Int × Int)} {me : Int} {q0 : Nat} (hg : good ⟨s, f, o, js⟩ = true) (h0 : okQ s js q0) (z : Nat) : z ∈ reachL s f o js me q0 ↔ Rch (nxS s o js me) f.toNat q0 z := by
  unfold reachL
  rw [List.mem_filter, List.mem_range]
  simp only [decide_eq_true_eq]
  constructor
  · exact fun h => h.2
  · intro h
    refine ⟨?_, h⟩
    have : okQ s js z := by
      induction h with
      | refl => exact h0
      | step _ h1 _ ih => exact okQ_nxS hg ih h1
    exact okQ_lt this
/-- How many states are reached. -/
noncomputable def countR (s f o : Int) (js : List (Int × Int)) (me fi ot : Int) : Nat := (reachL s f o js me (cd (s.toNat + 1) fi.toNat ot.toNat 0)).length
/-- A number and a Bool handed back. -/
def NumW (w : World) (R : Int × Bool) (e : Ending) (w' : World) : Prop := e = .returned (.tuple #[.int .i64 R.1, .bool R.2]) ∧ Below w.heap.size w w'



end Go.Proofs.Ytknclgfjoajldab

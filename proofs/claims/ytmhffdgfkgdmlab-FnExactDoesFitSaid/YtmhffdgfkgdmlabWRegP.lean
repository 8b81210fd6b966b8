/-
  A region that draws its order, walked by hand: what may be taken first. Over any program.
-/
import Derived.Test.YtmhffdgfkgdmlabWBig
import Derived.Deep.RegionHeld3
namespace Go.Proofs.Ytmhffdgfkgdmlab
open Go.RowKit

section
variable {P : Program} {ops : Array Oper} {Q : Exit → Act → World → Prop} {md : Region.Mode} {S : World → Prop} {fuel : Nat} {listed : Array Bool} {a : Act} {w : World} {i : Nat} {o : Oper} {rs : List Nat}
theorem wanted_plain {y : Nat → Option Bool} (hg : o.guard = none) : Region.wanted o y = true := by unfold Region.wanted; rw [hg]
/-- A whole struct is loaded. -/
theorem yields_load_row (hg : o.guard = none) (ty : TypeId) (x : Operand) (hop : o.op = .load ty x) (g : Nat) (hx : a.eval x = .pointer (some ⟨g, 0, none⟩)) (t : TypeId) (cs : Array Value) (fr : Nat × Nat) (d : TypeDesc)
    (hS : ∀ w, S w → w.heap[g]? = some (.cells cs t fr)) (hu : P.underlying ty = some d) (hd : (match d with | .struct _ | .array _ _ => true | _ => false) = true) (hi : (P.info? ty).map (·.size) = some cs.size) : YieldsIf P ops S o (.agg cs) a :=
  .inl ⟨wanted_plain hg, fun w hw => by
    unfold execOp
    simp only [hop, hx, Instr.loadAt, Instr.sureAddr, Sem.run_bind, Sem.run_pure, Result.andThen_ok, run_loadVar_row w g t ty cs fr d (hS w hw) hu hd hi]⟩
theorem yields_move (hg : o.guard = none) (x : Operand) (v : Value) (hop : o.op = .move x) (hx : a.eval x = v) : YieldsIf P ops S o v a :=
  .inl ⟨wanted_plain hg, fun w hw => by unfold execOp; simp [hop, hx]⟩
theorem yields_build (hg : o.guard = none) (t : TypeId) (l : List (Nat × Operand)) (ys : List (Nat × Value)) (v : Value) (hop : o.op = .build t l.toArray) (he : l.map (fun x => (x.1, a.eval x.2)) = ys) (hr : ∀ w, (Instr.build t ys.toArray).run P w = .ok v w) : YieldsIf P ops S o v a :=
  .inl ⟨wanted_plain hg, fun w hw => by
    have h := hr w
    rw [← he] at h
    unfold execOp
    simp only [hop, List.map_toArray]
    simp [h]⟩
end
end Go.Proofs.Ytmhffdgfkgdmlab

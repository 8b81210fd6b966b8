/-
  A struct is built, its cells told by an equation. Over any program.
-/
import Derived.Test.YtblpfjjnlfjloaaWBig
namespace Go.Proofs.Ytblpfjjnlfjloaa
open Go.RowKit

section
variable {P : Program} {ops : Array Oper} {rest : List Oper} {o : Oper} {a : Act} {w : World} {Q : Exit → Act → World → Prop}
theorem wpList_build (hgd : o.guard = none) (ty : TypeId) (parts : Array (Nat × Operand)) (ho : o.op = .build ty parts) (vs : Array (Nat × Value)) (hv : parts.map (fun p => (p.1, a.eval p.2)) = vs) (v : Value) (hrun : (Instr.build ty vs).run P w = .ok v w)
    (h : wpList P ops Q rest (a.put o.dst v) w) : wpList P ops Q (o :: rest) a w := by
  refine wpList_plain hgd fun K hK => ?_
  unfold Oper.wp execOp
  subst hv
  simp only [ho]
  simp [hrun, Result.andThen]
  exact hK _ _ h
end
end Go.Proofs.Ytblpfjjnlfjloaa

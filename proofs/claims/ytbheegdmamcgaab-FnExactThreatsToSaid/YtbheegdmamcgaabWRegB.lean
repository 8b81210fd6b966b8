/-
  A whole struct stored inside of a region that draws its order. Over any program.
-/
import Derived.Test.YtbheegdmamcgaabWRegP
namespace Go.Proofs.Ytbheegdmamcgaab
open Go.RowKit

theorem step_store_row {P : Program} {Q : Exit → Act → World → Prop} {a : Act} {w : World} {o : Oper} {Kk : Act → World → Prop} {y : Nat → Option Bool} (hgd : o.guard = none) (ty : TypeId) (x v : Operand) (hop : o.op = .store ty x v) (g : Nat) (hx : a.eval x = .pointer (some ⟨g, 0, none⟩)) (t : TypeId) (cur vs : Array Value)
    (hv : a.eval v = .agg vs) (hg : w.heap[g]? = some (.cells cur t (0, 0))) (hsz : vs.size = cur.size) (hi : (P.info? ty).map (·.size) = some vs.size) (h1 : ∀ u ∈ vs.toList, u.oneCell' = true)
    (h : ∀ w', w'.heap[g]? = some (.cells vs t (0, 0)) → w.grownBy w' (some g) → w'.heap.size = w.heap.size → Kk (a.put o.dst undef) w') : if Region.wanted o y = true then Oper.wp P o a w Kk Q else Kk (a.put o.dst undef) w := by
  rw [if_pos (wanted_plain hgd)]
  have hst := run_storeCells_at (P := P) g 0 t vs.toList 0 cur w hg (by simp [hsz]) h1
  have hst' : (storeCells ⟨g, 0, none⟩ vs.toList 0).run P w = .ok () (w.setRow g vs) := by
    rw [hst]
    congr 2
    apply Array.ext'
    simp [hsz]
  have hk' := h _ (setRow_heap w g cur vs t (0, 0) hg) (grownBy_setRow w g vs) (by simp)
  cases hq : P.info? ty with
  | none => simp [hq] at hi
  | some i =>
    have hsz : i.size = vs.size := by simpa [hq] using hi
    unfold Oper.wp execOp
    simp only [hop, hx, hv, Instr.storeAt, Instr.sureAddr, storeVar, Value.cells, Sem.run_bind, Sem.run_pure, Result.andThen_ok]
    simp [sizeOf, typeInfo, hq, hsz, hst', Sem.run_bind, Result.andThen]
    exact hk'
end Go.Proofs.Ytbheegdmamcgaab

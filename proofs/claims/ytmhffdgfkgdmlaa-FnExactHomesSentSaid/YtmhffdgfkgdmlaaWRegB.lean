/-
  A whole struct stored inside of a region that draws its order. Over any program.
-/
import Derived.Test.YtmhffdgfkgdmlaaWRegP
import Derived.Deep.RegionHeld3
namespace Go.Proofs.Ytmhffdgfkgdmlaa
open Go.RowKit

theorem step_store_row {P : Program} {Q : Exit → Act → World → Prop} {a : Act} {w : World} {o : Oper} {Kk : Act → World → Prop} {y : Nat → Option Bool} (hgd : o.guard = none) (ty : TypeId) (x v : Operand) (hop : o.op = .store ty x v) (g : Nat) (hx : a.eval x = .pointer (some ⟨g, 0, none⟩)) (t : TypeId) (cur vs : Array Value)
    (hv : a.eval v = .agg vs) (hg : w.heap[g]? = some (.cells cur t (0, 0))) (hsz : vs.size = cur.size) (hi : (P.info? ty).map (·.size) = some vs.size) (h1 : ∀ u ∈ vs.toList, u.oneCell' = true)
    (h : ∀ w', w'.heap[g]? = some (.cells vs t (0, 0)) → w.grownBy w' (some g) → w'.heap.size = w.heap.size → Kk (a.put o.dst undef) w') : if Region.wanted o y = true then Oper.wp P o a w Kk Q else Kk (a.put o.dst undef) w := by
  rw [if_pos (wanted_plain hgd)]
  have hst := run_storeCells_at (P := P) g 0 t vs.toList 0 cur w hg (by simp [hsz]) h1
  have hst' : (storeCells ⟨g, 0, none⟩ vs.toList 0).run P w = .ok () (w.setRow g vs) := by
    rw [hst]
    congr 2
    apply Array.ext'
    simp [hsz]
  have hk' := h _ (setRow_heap w g cur vs t (0, 0) hg) (grownBy_setRow w g vs) (by simp)
  cases hq : P.info? ty with
  | none => simp [hq] at hi
  | some i =>
    have hsz : i.size = vs.size := by simpa [hq] using hi
    unfold Oper.wp execOp
    simp only [hop, hx, hv, Instr.storeAt, Instr.sureAddr, storeVar, Value.cells, Sem.run_bind, Sem.run_pure, Result.andThen_ok]
    simp [sizeOf, typeInfo, hq, hsz, hst', Sem.run_bind, Result.andThen]
    exact hk'
/-- A struct's block is made, its zero cells told by an equation. -/
theorem step_alloc {P : Program} {Q : Exit → Act → World → Prop} {a : Act} {w : World} {o : Oper} {Kk : Act → World → Prop} {y : Nat → Option Bool} (hgd : o.guard = none) (t : TypeId) (hop : o.op = .alloc t) (cs : Array Value)
    (hr : ∀ w, (Instr.alloc t true (.tuple #[])).run P w = .ok (.pointer (some ⟨w.heap.size, 0, none⟩)) (w.alloc (.cells cs t))) (h : Kk (a.put o.dst (.pointer (some ⟨w.heap.size, 0, none⟩))) (w.alloc (.cells cs t))) : if Region.wanted o y = true then Oper.wp P o a w Kk Q else Kk (a.put o.dst undef) w := by
  rw [if_pos (wanted_plain hgd)]
  unfold Oper.wp execOp
  simp only [hop]
  simp [hr, Result.andThen]
  exact h
/-- Likewise, as the last of a region (no name is brought in: with a great struct at hand that runs without end). -/
theorem cons_store_row {P : Program} {md : Region.Mode} {ops : Array Oper} {Q : Exit → Act → World → Prop} {S : World → Prop} {fuel : Nat} {listed : Array Bool} {a : Act} {w : World} {i : Nat} {o : Oper} (hi : ops[i]? = some o) (hgd : o.guard = none) (ty : TypeId) (x v : Operand) (hop : o.op = .store ty x v) (g : Nat) (hx : a.eval x = .pointer (some ⟨g, 0, none⟩)) (t : TypeId) (cur vs : Array Value)
    (hv : a.eval v = .agg vs) (hg : w.heap[g]? = some (.cells cur t (0, 0))) (hsz : vs.size = cur.size) (hi2 : (P.info? ty).map (·.size) = some vs.size) (h1 : ∀ u ∈ vs.toList, u.oneCell' = true)
    (h : ∀ w', w'.heap[g]? = some (.cells vs t (0, 0)) → w.grownBy w' (some g) → w'.heap.size = w.heap.size → S w' ∧ wpAnyH P md ops Q S fuel (listed.setIfInBounds i true) (a.put o.dst undef) w') : AllReadyH P md ops Q S fuel listed a w [i] :=
  AllReadyH.cons hi (fun _ hK' => step_store_row hgd ty x v hop g hx t cur vs hv hg hsz hi2 h1 fun w' a1 a2 a3 => hK'.out _ _ (h w' a1 a2 a3).1 fun _ => (h w' a1 a2 a3).2) AllReadyH.nil
end Go.Proofs.Ytmhffdgfkgdmlaa

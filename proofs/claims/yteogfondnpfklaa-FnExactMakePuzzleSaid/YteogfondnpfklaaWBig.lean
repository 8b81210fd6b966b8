/-
  Structs of many cells that lie in a block of their own: loaded whole, stored whole. Courses. Over any program.
-/
import Derived.Test.YteogfondnpfklaaWRow
import Derived.Laws.CopyRow
import Derived.Deep.WholeRow
namespace Go.Proofs.Yteogfondnpfklaa
open Go.RowKit

theorem grownBy_setRow (w : World) (g : Nat) (cs : Array Value) : w.grownBy (w.setRow g cs) (some g) :=
  ⟨rfl, rfl, rfl, by simp, fun k _ hne => by
    have hk : ¬ k = g := fun e => hne (by rw [e])
    simp [World.setRow, Array.getElem?_modify, Ne.symm hk]⟩

section
variable {P : Program} {ops : Array Oper} {rest : List Oper} {o : Oper} {a : Act} {w : World} {Q : Exit → Act → World → Prop}
/-- A whole struct is stored into a block of its own. -/
theorem wpList_store_row (hgd : o.guard = none) (ty : TypeId) (x v : Operand) (ho : o.op = .store ty x v) (g : Nat) (hx : a.eval x = .pointer (some ⟨g, 0, none⟩)) (t : TypeId) (cur vs : Array Value)
    (hv : a.eval v = .agg vs) (hg : w.heap[g]? = some (.cells cur t (0, 0))) (hs : vs.size = cur.size) (hi : (P.info? ty).map (·.size) = some vs.size) (h1 : ∀ u ∈ vs.toList, u.oneCell' = true)
    (h : ∀ w', w'.heap[g]? = some (.cells vs t (0, 0)) → w.grownBy w' (some g) → w'.heap.size = w.heap.size → wpList P ops Q rest (a.put o.dst undef) w') : wpList P ops Q (o :: rest) a w := by
  refine wpList_plain hgd fun K hK => ?_
  have hst := run_storeCells_at (P := P) g 0 t vs.toList 0 cur w hg (by simp [hs]) h1
  have hst' : (storeCells ⟨g, 0, none⟩ vs.toList 0).run P w = .ok () (w.setRow g vs) := by
    rw [hst]
    congr 2
    apply Array.ext'
    simp [hs]
  cases hq : P.info? ty with
  | none => simp [hq] at hi
  | some i =>
    have hsz : i.size = vs.size := by simpa [hq] using hi
    unfold Oper.wp execOp
    simp only [ho, hx, hv, Instr.storeAt, Instr.sureAddr, storeVar, Value.cells, Sem.run_bind, Sem.run_pure, Result.andThen_ok]
    simp [sizeOf, typeInfo, hq, hsz, hst', Sem.run_bind, Result.andThen]
    exact hK _ _ (h _ (setRow_heap w g cur vs t (0, 0) hg) (grownBy_setRow w g vs) (by simp))
end

/-- Two results: a struct in a block of its own, and a slot. -/
theorem results_cell_slot {P : Program} {fn : Func} {p q : Tmp} {ty : TypeId} (h : fn.results = #[.cell p ty, .tmp q]) (tmps : Array Value) (w : World) (g : Nat) (t : TypeId) (cs : Array Value) (fr : Nat × Nat) (d : TypeDesc) (v : Value)
    (hp : tmps.getD p undef = .pointer (some ⟨g, 0, none⟩)) (hv : tmps.getD q undef = v) (hg : w.heap[g]? = some (.cells cs t fr))
    (hu : P.underlying ty = some d) (hd : (match d with | .struct _ | .array _ _ => true | _ => false) = true) (hi : (P.info? ty).map (·.size) = some cs.size) :
    (results fn tmps).run P w = .ok (.tuple #[.agg cs, v]) w := by
  have hp' : tmps[p]?.getD undef = .pointer (some ⟨g, 0, none⟩) := by simpa using hp
  have hv' : tmps[q]?.getD undef = v := by simpa using hv
  simp [results, h, hp', hv', asAddr, run_loadVar_row w g t ty cs fr d hg hu hd hi]

/-- The cells of a course: its squares, faces and Over, and where a token goes from each of 101 squares. -/
def crsCells (s f o : Int) (G : Nat → Int) : Array Value := ([Value.int .i64 s, .int .i64 f, .int .i64 o] ++ (List.range 101).map (fun i => Value.int .i64 (G i))).toArray
theorem crs_size (s f o : Int) (G : Nat → Int) : (crsCells s f o G).size = 104 := by simp [crsCells]
theorem crs_0 (s f o : Int) (G : Nat → Int) : (crsCells s f o G)[0]? = some (.int .i64 s) := rfl
theorem crs_1 (s f o : Int) (G : Nat → Int) : (crsCells s f o G)[1]? = some (.int .i64 f) := rfl
theorem crs_2 (s f o : Int) (G : Nat → Int) : (crsCells s f o G)[2]? = some (.int .i64 o) := rfl
theorem crs_at (s f o : Int) (G : Nat → Int) (i : Nat) (hi : i < 101) : (crsCells s f o G)[3 + i]? = some (.int .i64 (G i)) := by
  simp only [crsCells, List.getElem?_toArray]
  rw [List.getElem?_append_right (by simp)]
  simp [hi]
theorem crs_one (s f o : Int) (G : Nat → Int) : ∀ u ∈ (crsCells s f o G).toList, u.oneCell' = true := by
  intro u hu
  simp only [crsCells, List.mem_append, List.mem_map] at hu
  rcases hu with hu | ⟨i, _, rfl⟩
  · simp at hu
    rcases hu with rfl | rfl | rfl <;> rfl
  · rfl
theorem crs_set (s f o : Int) (G : Nat → Int) (i : Nat) (hi : i < 101) (v : Int) : (crsCells s f o G).setIfInBounds (3 + i) (.int .i64 v) = crsCells s f o (fun j => if j = i then v else G j) := by
  apply Array.ext_getElem?
  intro k
  rw [Array.getElem?_setIfInBounds, crs_size]
  by_cases hk : 3 + i = k
  · subst hk
    rw [if_pos rfl, if_pos (by omega), crs_at _ _ _ _ _ hi, if_pos rfl]
  · rw [if_neg hk]
    rcases Nat.lt_or_ge k 3 with h3 | h3
    · match k, h3 with
      | 0, _ => rfl
      | 1, _ => rfl
      | 2, _ => rfl
    · obtain ⟨j, rfl⟩ : ∃ j, k = 3 + j := ⟨k - 3, by omega⟩
      by_cases hj : j < 101
      · rw [crs_at _ _ _ _ _ hj, crs_at _ _ _ _ _ hj, if_neg (by omega)]
      · rw [Array.getElem?_eq_none (by rw [crs_size]; omega), Array.getElem?_eq_none (by rw [crs_size]; omega)]
theorem crs_congr (s f o : Int) {G G' : Nat → Int} (h : ∀ i < 101, G i = G' i) : crsCells s f o G = crsCells s f o G' := by
  unfold crsCells
  rw [List.map_congr_left (fun i hi => by rw [h i (by simpa using hi)])]
end Go.Proofs.Yteogfondnpfklaa

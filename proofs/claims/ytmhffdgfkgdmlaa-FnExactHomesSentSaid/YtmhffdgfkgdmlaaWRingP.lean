/-
  A ring that is the beginning of a block; the cells of an outing (a ring, a stand, two numbers). Over any program.
-/
import Derived.Test.YtmhffdgfkgdmlaaWRing
namespace Go.Proofs.Ytmhffdgfkgdmlaa
open Go.RowKit

/-- Block g begins with a ring. -/
def RP (w : World) (g : Nat) (_t : TypeId) (q f k : Int) (A : Option Addr) (n c : Nat) (S : Nat → Bool) : Prop :=
  ∃ cs tt, w.heap[g]? = some (.cells cs tt (0, 0)) ∧ ∀ i, i < 64 → cs[i]? = (ringC q f k A n c S)[i]?
section
variable {w w' : World} {g B : Nat} {t : TypeId} {q f k : Int} {A : Option Addr} {n c : Nat} {S S' : Nat → Bool}
theorem RA.rp (h : RA w g t q f k A n c S) : RP w g t q f k A n c S := ⟨_, _, h, fun _ _ => rfl⟩
theorem RP.keep (h : RP w g t q f k A n c S) (he : w'.heap[g]? = w.heap[g]?) : RP w' g t q f k A n c S := by obtain ⟨cs, tt, h1, h2⟩ := h; exact ⟨cs, tt, he.trans h1, h2⟩
theorem RP.lt (h : RP w g t q f k A n c S) : g < w.heap.size := by obtain ⟨cs, tt, h1, _⟩ := h; exact heap_lt h1
theorem RP.cell (h : RP w g t q f k A n c S) {i : Nat} (hi : i < 64) : w.cell? ⟨g, i, none⟩ = (ringC q f k A n c S)[i]? := by
  obtain ⟨cs, tt, h1, h2⟩ := h; exact (cell_of_row _ _ _ _ _ _ h1).trans (h2 i hi)
theorem RP.c0 (h : RP w g t q f k A n c S) : w.cell? ⟨g, 0, none⟩ = some (.int .i64 q) := (h.cell (by omega)).trans ring_0
theorem RP.c1 (h : RP w g t q f k A n c S) : w.cell? ⟨g, 1, none⟩ = some (.int .i64 f) := (h.cell (by omega)).trans ring_1
theorem RP.c2 (h : RP w g t q f k A n c S) : w.cell? ⟨g, 2, none⟩ = some (.int .i64 k) := (h.cell (by omega)).trans ring_2
theorem RP.c3 (h : RP w g t q f k A n c S) : w.cell? ⟨g, 3, none⟩ = some (.slice A n c) := (h.cell (by omega)).trans ring_3
theorem RP.at_ (h : RP w g t q f k A n c S) {i : Nat} (hi : i < 60) : w.cell? ⟨g, 4 + i, none⟩ = some (.bool (S i)) := (h.cell (by omega)).trans (ring_at hi)
theorem RP.free (h : RP w g t q f k A n c S) (i : Nat) : w.frozen? ⟨g, i, none⟩ = false := by obtain ⟨cs, tt, h1, _⟩ := h; exact frozen_row h1
theorem RP.below (h : RP w g t q f k A n c S) (hb : Below B w w') (hg : g < B) : RP w' g t q f k A n c S := h.keep (hb.block g hg)
theorem RP.go (h : RP w g t q f k A n c S) (hb : Below w.heap.size w w') : RP w' g t q f k A n c S := h.below hb h.lt
theorem RP.grown {row : Option Nat} (h : RP w g t q f k A n c S) (hg : w.grownBy w' row) (hne : some g ≠ row) : RP w' g t q f k A n c S := h.keep (hg.block g h.lt hne)
theorem RP.alloc (h : RP w g t q f k A n c S) (o : Obj) : RP (w.alloc o) g t q f k A n c S := h.keep (Below.heap_alloc w o g h.lt)
theorem RP.drew (h : RP w g t q f k A n c S) : RP w.drew g t q f k A n c S := h
theorem RP.drewN (h : RP w g t q f k A n c S) (m : Nat) : RP (w.drewN m) g t q f k A n c S := h
theorem RP.far (h : RP w g t q f k A n c S) {p : Addr} (hp : g ≠ p.block) (u : Value) : RP (w.setCell p u) g t q f k A n c S := h.keep (Below.heap_setCell w p u g hp)
theorem RP.congr (h : RP w g t q f k A n c S) (he : ∀ i < 60, S i = S' i) : RP w g t q f k A n c S' := by
  obtain ⟨cs, tt, h1, h2⟩ := h
  exact ⟨cs, tt, h1, fun i hi => (h2 i hi).trans (by rw [ring_congr he])⟩
end

/-- The cells of an outing: its ring, its stand, how many moves were made, how many tokens were sent home. -/
def outC (q f k : Int) (A : Option Addr) (n c : Nat) (S : Nat → Bool) (F : Nat → Nat → Int) (m s : Int) : Array Value :=
  ringC q f k A n c S ++ (standC F ++ #[.int .i64 m, .int .i64 s])
section
variable {q f k : Int} {A : Option Addr} {n c : Nat} {S : Nat → Bool} {F G : Nat → Nat → Int} {m s : Int}
theorem out_size : (outC q f k A n c S F m s).size = 82 := by simp [outC, ring_size, stand_size]
theorem out_ring {i : Nat} (hi : i < 64) : (outC q f k A n c S F m s)[i]? = (ringC q f k A n c S)[i]? := by
  unfold outC; rw [Array.getElem?_append_left (by rw [ring_size]; exact hi)]
theorem out_stand {i : Nat} (hi : i < 16) : (outC q f k A n c S F m s)[64 + i]? = (standC F)[i]? := by
  unfold outC
  rw [Array.getElem?_append_right (by rw [ring_size]; omega), ring_size, Array.getElem?_append_left (by rw [stand_size]; omega)]
  congr 1; omega
theorem out_made : (outC q f k A n c S F m s)[80]? = some (.int .i64 m) := by
  unfold outC
  rw [Array.getElem?_append_right (by rw [ring_size]; omega), ring_size, Array.getElem?_append_right (by rw [stand_size]; omega), stand_size]
  rfl
theorem out_sent : (outC q f k A n c S F m s)[81]? = some (.int .i64 s) := by
  unfold outC
  rw [Array.getElem?_append_right (by rw [ring_size]; omega), ring_size, Array.getElem?_append_right (by rw [stand_size]; omega), stand_size]
  rfl
theorem out_one : ∀ u ∈ (outC q f k A n c S F m s).toList, u.oneCell' = true := by
  intro u hu
  simp only [outC, Array.toList_append, List.mem_append] at hu
  rcases hu with hu | hu | hu
  · exact ring_one u hu
  · exact stand_one F u hu
  · simp at hu; rcases hu with rfl | rfl <;> rfl
theorem out_setMade (v : Int) : (outC q f k A n c S F m s).setIfInBounds 80 (.int .i64 v) = outC q f k A n c S F v s := by
  apply Array.ext_getElem?
  intro i
  rw [Array.getElem?_setIfInBounds, out_size]
  by_cases h : 80 = i
  · subst h; rw [if_pos rfl, if_pos (by omega), out_made]
  · rw [if_neg h]
    by_cases h1 : i < 64
    · rw [out_ring h1, out_ring h1]
    · by_cases h2 : i < 80
      · obtain ⟨j, rfl⟩ : ∃ j, i = 64 + j := ⟨i - 64, by omega⟩
        rw [out_stand (by omega), out_stand (by omega)]
      · by_cases h3 : i = 81
        · subst h3; rw [out_sent, out_sent]
        · rw [Array.getElem?_eq_none (by rw [out_size]; omega), Array.getElem?_eq_none (by rw [out_size]; omega)]
theorem out_setSent (v : Int) : (outC q f k A n c S F m s).setIfInBounds 81 (.int .i64 v) = outC q f k A n c S F m v := by
  apply Array.ext_getElem?
  intro i
  rw [Array.getElem?_setIfInBounds, out_size]
  by_cases h : 81 = i
  · subst h; rw [if_pos rfl, if_pos (by omega), out_sent]
  · rw [if_neg h]
    by_cases h1 : i < 64
    · rw [out_ring h1, out_ring h1]
    · by_cases h2 : i < 80
      · obtain ⟨j, rfl⟩ : ∃ j, i = 64 + j := ⟨i - 64, by omega⟩
        rw [out_stand (by omega), out_stand (by omega)]
      · by_cases h3 : i = 80
        · subst h3; rw [out_made, out_made]
        · rw [Array.getElem?_eq_none (by rw [out_size]; omega), Array.getElem?_eq_none (by rw [out_size]; omega)]
/-- The stand of an outing is stored anew. -/
theorem out_part : ((outC q f k A n c S F m s).toList.take 64 ++ (standC G).toList ++ (outC q f k A n c S F m s).toList.drop (64 + (standC G).toList.length)).toArray = outC q f k A n c S G m s := by
  apply Array.toList_inj.1
  have h1 : (standC G).toList.length = 16 := by rw [Array.length_toList, stand_size]
  have h1' : (standC F).toList.length = 16 := by rw [Array.length_toList, stand_size]
  have h3 : (outC q f k A n c S F m s).toList = (ringC q f k A n c S).toList ++ ((standC F).toList ++ [Value.int .i64 m, .int .i64 s]) := by simp [outC]
  have h4 : (ringC q f k A n c S).toList.length = 64 := by rw [Array.length_toList, ring_size]
  rw [h3, List.take_left' h4, h1, List.drop_append, List.drop_eq_nil_of_le (by omega), h4, List.nil_append, List.drop_left' (by omega)]
  simp [outC]
end
/-- Block g is an outing. -/
def OA (w : World) (g : Nat) (t : TypeId) (q f k : Int) (A : Option Addr) (n c : Nat) (S : Nat → Bool) (F : Nat → Nat → Int) (m s : Int) : Prop := w.heap[g]? = some (.cells (outC q f k A n c S F m s) t (0, 0))
section
variable {w w' : World} {g B : Nat} {t tr : TypeId} {q f k : Int} {A : Option Addr} {n c : Nat} {S : Nat → Bool} {F : Nat → Nat → Int} {m s : Int}
theorem OA.rp (h : OA w g t q f k A n c S F m s) : RP w g tr q f k A n c S := ⟨_, _, h, fun _ hi => out_ring hi⟩
theorem OA.lt (h : OA w g t q f k A n c S F m s) : g < w.heap.size := heap_lt h
theorem OA.made (h : OA w g t q f k A n c S F m s) : w.cell? ⟨g, 80, none⟩ = some (.int .i64 m) := (cell_of_row _ _ _ _ _ _ h).trans out_made
theorem OA.sent (h : OA w g t q f k A n c S F m s) : w.cell? ⟨g, 81, none⟩ = some (.int .i64 s) := (cell_of_row _ _ _ _ _ _ h).trans out_sent
theorem OA.stand (h : OA w g t q f k A n c S F m s) {i : Nat} (hi : i < 16) : w.cell? ⟨g, 64 + i, none⟩ = (standC F)[i]? := (cell_of_row _ _ _ _ _ _ h).trans (out_stand hi)
theorem OA.free (h : OA w g t q f k A n c S F m s) (i : Nat) : w.frozen? ⟨g, i, none⟩ = false := frozen_row h
theorem OA.below (h : OA w g t q f k A n c S F m s) (hb : Below B w w') (hg : g < B) : OA w' g t q f k A n c S F m s := (hb.block g hg).trans h
theorem OA.grown {row : Option Nat} (h : OA w g t q f k A n c S F m s) (hg : w.grownBy w' row) (hne : some g ≠ row) : OA w' g t q f k A n c S F m s := (hg.block g h.lt hne).trans h
theorem OA.alloc (h : OA w g t q f k A n c S F m s) (o : Obj) : OA (w.alloc o) g t q f k A n c S F m s := (Below.heap_alloc w o g h.lt).trans h
theorem OA.setMade (h : OA w g t q f k A n c S F m s) (v : Int) : OA (w.setCell ⟨g, 80, none⟩ (.int .i64 v)) g t q f k A n c S F v s := by
  have := heap_set w g 80 _ _ (.int .i64 v) h
  rw [out_setMade] at this
  exact this
theorem OA.setSent (h : OA w g t q f k A n c S F m s) (v : Int) : OA (w.setCell ⟨g, 81, none⟩ (.int .i64 v)) g t q f k A n c S F m v := by
  have := heap_set w g 81 _ _ (.int .i64 v) h
  rw [out_setSent] at this
  exact this
variable {P : Program} {ops : Array Oper} {rest : List Oper} {op : Oper} {a : Act} {Q : Exit → Act → World → Prop}
/-- A struct or an array is stored into a part of a block. -/
theorem wpList_store_part (hgd : op.guard = none) (ty : TypeId) (x v : Operand) (ho : op.op = .store ty x v) (g k : Nat) (hx : a.eval x = .pointer (some ⟨g, k, none⟩)) (t : TypeId) (cur vs res : Array Value)
    (hv : a.eval v = .agg vs) (hg : w.heap[g]? = some (.cells cur t (0, 0))) (hs : k + vs.size ≤ cur.size) (hi : (P.info? ty).map (·.size) = some vs.size) (h1 : ∀ u ∈ vs.toList, u.oneCell' = true)
    (hr : (cur.toList.take k ++ vs.toList ++ cur.toList.drop (k + vs.toList.length)).toArray = res)
    (h : ∀ w', w'.heap[g]? = some (.cells res t (0, 0)) → w.grownBy w' (some g) → w'.heap.size = w.heap.size → wpList P ops Q rest (a.put op.dst undef) w') : wpList P ops Q (op :: rest) a w := by
  refine wpList_plain hgd fun K hK => ?_
  have hst := run_storeCells_at (P := P) g k t vs.toList 0 cur w hg (by simpa using hs) h1
  rw [Nat.add_zero, hr] at hst
  cases hq : P.info? ty with
  | none => simp [hq] at hi
  | some i =>
    have hsz : i.size = vs.size := by simpa [hq] using hi
    unfold Oper.wp execOp
    simp only [ho, hx, hv, Instr.storeAt, Instr.sureAddr, storeVar, Value.cells, Sem.run_bind, Sem.run_pure, Result.andThen_ok]
    simp [sizeOf, typeInfo, hq, hsz, hst, Sem.run_bind, Result.andThen]
    exact hK _ _ (h _ (setRow_heap w g cur res t (0, 0) hg) (grownBy_setRow w g res) (by simp))
/-- A struct or an array is loaded out of a part of a block. -/
theorem wpList_load_part (hgd : op.guard = none) (ty : TypeId) (x : Operand) (ho : op.op = .load ty x) (g k : Nat) (hx : a.eval x = .pointer (some ⟨g, k, none⟩)) (vs : Array Value) (d : TypeDesc)
    (hc : ∀ i, i < vs.size → w.cell? ⟨g, k + i, none⟩ = vs[i]?) (hu : P.underlying ty = some d) (hd : (match d with | .struct _ | .array _ _ => true | _ => false) = true) (hi : (P.info? ty).map (·.size) = some vs.size)
    (h : wpList P ops Q rest (a.put op.dst (.agg vs)) w) : wpList P ops Q (op :: rest) a w := by
  refine wpList_plain hgd fun K hK => ?_
  have hl : (loadCells ⟨g, k, none⟩ vs.toList.length).run P w = .ok vs.toList.toArray w :=
    run_loadCells_list (P := P) w ⟨g, k, none⟩ vs.toList (fun j v hv => by
      have hadd : (⟨g, k, none⟩ : Addr).add j = ⟨g, k + j, none⟩ := by unfold Addr.add; split <;> simp_all
      have hj : j < vs.size := by
        rcases Nat.lt_or_ge j vs.size with h1 | h1
        · exact h1
        · rw [List.getElem?_eq_none (by simpa using h1)] at hv; cases hv
      rw [hadd, hc j hj]
      simpa using hv)
  cases hq : P.info? ty with
  | none => simp [hq] at hi
  | some i =>
    have hsz : i.size = vs.size := by simpa [hq] using hi
    have hagg : (isAgg ty).run P w = .ok true w := by
      unfold isAgg
      rw [Sem.run_bind, run_underlying hu w]
      cases d <;> simp_all
    simp only [Array.length_toList, Array.toArray_toList] at hl
    have hrun : (loadVar ty ⟨g, k, none⟩).run P w = .ok (.agg vs) w := by simp [loadVar, Sem.run_bind, hagg, sizeOf, typeInfo, hq, hsz, hl]
    unfold Oper.wp execOp
    simp only [ho, hx, Instr.loadAt, Instr.sureAddr, Sem.run_bind, Sem.run_pure, Result.andThen_ok, hrun]
    exact hK _ _ h
end
end Go.Proofs.Ytmhffdgfkgdmlaa

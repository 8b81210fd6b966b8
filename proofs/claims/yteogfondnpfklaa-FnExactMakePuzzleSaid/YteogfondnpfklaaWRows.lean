/-
  A slice of slices of numbers that the call itself makes, row by row, by append. Over any program.
-/
import Derived.Test.YteogfondnpfklaaWB
import Derived.Maps.AppendAt
namespace Go.Proofs.Yteogfondnpfklaa
open Go.RowKit

/-- Block g holds n slices, from block base on; the y-th one owns the numbers Lst y; no two of them share a block. -/
def Rows2 (w : World) (base g : Nat) (t te : TypeId) (n : Nat) (Lst : Nat → List Nat) : Prop :=
  ∃ (cs : Array Value) (V : Nat → Value), w.heap[g]? = some (.cells cs t (0, 0)) ∧ n ≤ cs.size ∧ g < base ∧ (∀ y < n, cs[y]? = some (V y)) ∧
    (∀ y < n, w.ownsRow base te 1 (V y) (Lst y).length ((Lst y).map (fun i : Nat => Value.int .i64 i))) ∧ ∀ y < n, ∀ z < n, y ≠ z → ∀ b, (V y).ownBlock = some b → (V z).ownBlock ≠ some b
section
variable {w w1 : World} {base g : Nat} {t te : TypeId} {n : Nat} {Lst : Nat → List Nat}
theorem Rows2.lt (h : Rows2 w base g t te n Lst) : g < w.heap.size := by obtain ⟨cs, V, h, _⟩ := h; exact heap_lt h
theorem Rows2.drew (h : Rows2 w base g t te n Lst) : Rows2 w.drew base g t te n Lst := h
theorem Rows2.keep (h : Rows2 w base g t te n Lst) {row : Option Nat} (hg : w.grownBy w1 row) (hr : ∀ k, row = some k → k < base ∧ k ≠ g) : Rows2 w1 base g t te n Lst := by
  obtain ⟨cs, V, h1, h2, h3, h4, h5, h6⟩ := h
  exact ⟨cs, V, (hg.block _ (heap_lt h1) (fun e => (hr _ e.symm).2 rfl)).trans h1, h2, h3, h4, fun y hy => (h5 y hy).kept hg (by
    cases hb : (V y).ownBlock with
    | none => exact .inl rfl
    | some b =>
      refine .inr fun e => ?_
      have h7 := own_from (h5 y hy) b hb
      have := hr b e.symm
      omega), h6⟩
theorem Rows2.below (h : Rows2 w base g t te n Lst) (hx : Below w.heap.size w w1) : Rows2 w1 base g t te n Lst := by
  obtain ⟨cs, V, h1, h2, h3, h4, h5, h6⟩ := h
  exact ⟨cs, V, (hx.block _ (heap_lt h1)).trans h1, h2, h3, h4, fun y hy => own_below (h5 y hy) hx, h6⟩
theorem Rows2.alloc (h : Rows2 w base g t te n Lst) (o : Obj) : Rows2 (w.alloc o) base g t te n Lst := h.below (below1 _ _)
theorem Rows2.far (h : Rows2 w base g t te n Lst) {p : Addr} (hp : p.block < base) (hg : p.block ≠ g) (u : Value) : Rows2 (w.setCell p u) base g t te n Lst := by
  obtain ⟨cs, V, h1, h2, h3, h4, h5, h6⟩ := h
  exact ⟨cs, V, (Below.heap_setCell _ _ _ _ (Ne.symm hg)).trans h1, h2, h3, h4, fun y hy => ownsRow_setCell_below (h5 y hy) hp u, h6⟩
/-- One row, and what it is good for: an append to it. -/
theorem Rows2.row (h : Rows2 w base g t te n Lst) {y : Nat} (hy : y < n) : ∃ v, w.cell? ⟨g, y, none⟩ = some v ∧ w.frozen? ⟨g, y, none⟩ = false ∧ w.ownsRow base te 1 v (Lst y).length ((Lst y).map (fun i : Nat => Value.int .i64 i)) ∧
    ∀ (o : Obj) (w2 : World) (v' : Value) (x : Nat), (w.alloc o).grownBy w2 v.ownBlock → w2.ownsRow base te 1 v' ((Lst y).length + 1) ((Lst y).map (fun i : Nat => Value.int .i64 i) ++ [.int .i64 (x : Int)]) → (v'.ownBlock = v.ownBlock ∨ v'.ownBlock = some (w.alloc o).heap.size) → base ≤ w.heap.size →
      Rows2 (w2.setCell ⟨g, y, none⟩ v') base g t te n (fun z => if z = y then Lst y ++ [x] else Lst z) := by
  obtain ⟨cs, V, h1, h2, h3, h4, h5, h6⟩ := h
  refine ⟨V y, (cell_of_row _ _ _ _ _ _ h1).trans (h4 y hy), frozen_row h1, h5 y hy, fun o w2 v' x hg hown hb hbase => ?_⟩
  have lg := heap_lt h1
  have hg2 : w2.heap[g]? = some (.cells cs t (0, 0)) := (hg.block g (by simp; omega) (fun e => by have := own_from (h5 y hy) g e.symm; omega)).trans ((Below.heap_alloc _ _ _ lg).trans h1)
  refine ⟨cs.setIfInBounds y v', fun z => if z = y then v' else V z, heap_set _ _ _ _ _ _ hg2, by simpa using h2, h3, fun z hz => ?_, fun z hz => ?_, fun a ha b hb' hab k hk => ?_⟩
  · by_cases e : z = y
    · subst e
      simp [Array.getElem?_setIfInBounds]
      omega
    · have e1 : ¬ y = z := fun h => e h.symm
      simp [e, e1, h4 z hz]
  · by_cases e : z = y
    · simp only [e, if_true]
      rw [List.length_append, List.map_append]
      exact ownsRow_setCell_below hown h3 v'
    · simp only [e, if_false]
      exact ownsRow_setCell_below (((h5 z hz).alloc o).kept hg (by
        cases hq : (V z).ownBlock with
        | none => exact .inl rfl
        | some q => exact .inr fun he => h6 z hz y hy e q hq he.symm)) h3 v'
  · have hold : ∀ z < n, ∀ q, (V z).ownBlock = some q → q < w.heap.size := fun z hz q hq => by
      rcases (h5 z hz).2 with ⟨e, _⟩ | ⟨g', cap, cs', e, _, hh, _⟩
      · rw [e] at hq; cases hq
      · rw [e] at hq; injection hq with hq; subst hq; exact heap_lt hh
    by_cases e1 : a = y
    · have e2 : ¬ b = y := fun e => hab (by rw [e1, e])
      simp only [e1, if_true] at hk
      simp only [e2, if_false]
      intro hkb
      rcases hb with hb | hb
      · exact h6 y hy b hb' (fun e => e2 e.symm) k (by rw [← hb, hk]) hkb
      · rw [hb] at hk
        injection hk with hk
        have := hold b hb' k hkb
        simp at hk
        omega
    · simp only [e1, if_false] at hk
      by_cases e2 : b = y
      · simp only [e2, if_true]
        intro hkb
        rcases hb with hb | hb
        · exact h6 a ha y hy e1 k hk (by rw [← hb, hkb])
        · rw [hb] at hkb
          injection hkb with hkb
          have := hold a ha k hk
          simp at hkb
          omega
      · simp only [e2, if_false]
        exact h6 a ha b hb' hab k hk
/-- A new row of nil slices. -/
theorem Rows2.made {A : Option Addr} {c base0 : Nat} (h : w.ownsRow base0 t 1 (.slice A n c) n (madeCells #[.slice none 0 0] (n * 1)).toList) (hA : A = some ⟨g, 0, none⟩) (hb : g < base) : Rows2 w base g t te n (fun _ => []) := by
  obtain ⟨h0, ⟨hv, _⟩ | ⟨g', cap, cs, hv, _, hh, hn, _, hsz, htk⟩⟩ := h
  · subst hA; injection hv with hv; cases hv
  · subst hA
    injection hv with hv _ _
    injection hv with hv; injection hv with hv _ _
    subst hv
    refine ⟨cs, fun _ => .slice none 0 0, hh, by omega, hb, fun k hk => ?_, fun y _ => World.ownsRow_nil _ _ _ _, fun _ _ _ _ _ b hb => by cases hb⟩
    have : (cs.toList.take (n * 1))[k]? = (madeCells #[.slice none 0 0] (n * 1)).toList[k]? := by rw [htk]
    rw [List.getElem?_take_of_lt (by omega), Array.getElem?_toList, Array.getElem?_toList] at this
    rw [this]
    simp [madeCells, hk, Nat.mod_one]
end
end Go.Proofs.Yteogfondnpfklaa

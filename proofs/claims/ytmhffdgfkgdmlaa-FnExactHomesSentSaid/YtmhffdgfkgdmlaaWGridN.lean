/-
  A grid made at its full size and filled row by row, each row of any capacity. Over any program.
-/
import Derived.Test.YtmhffdgfkgdmlaaWGrid
namespace Go.Proofs.Ytmhffdgfkgdmlaa
open Go.RowKit

/-- A grid made at its full size, of whose rows k are there. -/
def GridN (w : World) (base : Nat) (t te : TypeId) (g n k : Nat) (len : Nat → Nat) (F : Nat → Nat → Int) (Bk C : Nat → Nat) : Prop :=
  w.ownsRow base t 1 (.slice (some ⟨g, 0, none⟩) n n) n ((List.range n).map fun y => if y < k then Value.slice (some ⟨Bk y, 0, none⟩) (len y) (C y) else .slice none 0 0) ∧
  (∀ y, y < k → base ≤ Bk y ∧ g ≠ Bk y ∧ RowI w (Bk y) te (len y) (F y)) ∧ ∀ y z, y < k → z < k → y ≠ z → Bk y ≠ Bk z
section
variable {w w' : World} {base : Nat} {t te : TypeId} {g n k : Nat} {len : Nat → Nat} {F : Nat → Nat → Int} {Bk C : Nat → Nat}
theorem GridN.start (h : w.ownsRow base t 1 (.slice (some ⟨g, 0, none⟩) n n) n (madeCells #[.slice none 0 0] (n * 1)).toList) : GridN w base t te g n 0 len F Bk C := by
  refine ⟨?_, fun y hy => by omega, fun y z hy => by omega⟩
  have : (madeCells #[.slice none 0 0] (n * 1)).toList = (List.range n).map fun y => if y < 0 then Value.slice (some ⟨Bk y, 0, none⟩) (len y) (C y) else .slice none 0 0 := by
    apply List.ext_getElem?
    intro i
    by_cases hi : i < n
    · simp [madeCells, hi, Nat.mod_one]
    · simp [madeCells, hi]
  rw [← this]
  exact h
theorem GridN.grid (h : GridN w base t te g n n len F Bk C) : Grid w base t te (.slice (some ⟨g, 0, none⟩) n n) n len F Bk C := by
  refine ⟨?_, fun y hy => ⟨(h.2.1 y hy).1, by simpa [Value.ownBlock] using (h.2.1 y hy).2.1, (h.2.1 y hy).2.2⟩, h.2.2⟩
  have := h.1
  rw [show ((List.range n).map fun y => if y < n then Value.slice (some ⟨Bk y, 0, none⟩) (len y) (C y) else .slice none 0 0) = (List.range n).map fun y => Value.slice (some ⟨Bk y, 0, none⟩) (len y) (C y) from List.map_congr_left fun y hy => by simp at hy; simp [hy]] at this
  exact this
theorem GridN.below (h : GridN w base t te g n k len F Bk C) (hb : Below w.heap.size w w') : GridN w' base t te g n k len F Bk C :=
  ⟨own_below h.1 hb, fun y hy => ⟨(h.2.1 y hy).1, (h.2.1 y hy).2.1, (h.2.1 y hy).2.2.below hb (h.2.1 y hy).2.2.lt⟩, h.2.2⟩
theorem GridN.lt (h : GridN w base t te g n k len F Bk C) : g < w.heap.size := by
  obtain ⟨⟨_, ⟨e, _⟩ | ⟨g', cap, cur, e, _, hh, _⟩⟩, _⟩ := h
  · cases e
  · injection e with e _ _; injection e with e; injection e with e _ _; subst e; exact heap_lt hh
theorem GridN.cell (h : GridN w base t te g n k len F Bk C) (hk : k < n) : w.cell? ⟨g, k, none⟩ = some (.slice none 0 0) ∧ w.frozen? ⟨g, k, none⟩ = false := by
  refine ⟨?_, h.1.frozenAt k⟩
  rw [h.1.cellAt k (by omega)]
  simp [hk]
/-- The next row is stored. -/
theorem GridN.step (h : GridN w base t te g n k len F Bk C) (hk : k < n) {b m c : Nat} {f : Nat → Int} (hr : RowI w b te m f) (hb : base ≤ b) (hg : g ≠ b) (hne : ∀ y, y < k → Bk y ≠ b) :
    GridN (w.setCell ⟨g, k, none⟩ (.slice (some ⟨b, 0, none⟩) m c)) base t te g n (k + 1) (fun y => if y = k then m else len y) (fun y => if y = k then f else F y) (fun y => if y = k then b else Bk y) (fun y => if y = k then c else C y) := by
  obtain ⟨h1, h2, h3⟩ := h
  refine ⟨?_, fun y hy => ?_, fun y z hy hz hyz => ?_⟩
  · have := (h1.stored k (.slice (some ⟨b, 0, none⟩) m c)).1
    rw [show ((List.range n).map fun y => if y < k then Value.slice (some ⟨Bk y, 0, none⟩) (len y) (C y) else .slice none 0 0).set k (.slice (some ⟨b, 0, none⟩) m c) = (List.range n).map fun y => if y < k + 1 then Value.slice (some ⟨if y = k then b else Bk y, 0, none⟩) (if y = k then m else len y) (if y = k then c else C y) else .slice none 0 0 from by
      apply List.ext_getElem?
      intro i
      rw [List.getElem?_set]
      by_cases hi : i < n
      · by_cases e : k = i
        · subst e; simp [hi]
        · have e2 : ¬ i = k := fun e' => e e'.symm
          have e3 : (i < k + 1) = (i < k) := by apply propext; omega
          simp [e, e2, e3, hi]
      · have e : ¬ k = i := by omega
        simp [hi, e]] at this
    exact this
  · by_cases e : y = k
    · simp only [e, if_true]
      exact ⟨hb, hg, hr.far (by simpa using hg.symm) _⟩
    · simp only [e, if_false]
      obtain ⟨a1, a2, a3⟩ := h2 y (by omega)
      exact ⟨a1, a2, a3.far (by simpa using a2.symm) _⟩
  · by_cases e1 : y = k
    · have e2 : ¬ z = k := by omega
      simp only [e1, if_true, e2, if_false]
      exact fun e => hne z (by omega) e.symm
    · by_cases e2 : z = k
      · simp only [e1, if_false, e2, if_true]
        exact hne y (by omega)
      · simp only [e1, if_false, e2]
        exact h3 y z (by omega) (by omega) hyz
theorem GridN.congr {F' : Nat → Nat → Int} (h : GridN w base t te g n k len F Bk C) (hF : ∀ y < k, ∀ j < len y, F y j = F' y j) : GridN w base t te g n k len F' Bk C :=
  ⟨h.1, fun y hy => ⟨(h.2.1 y hy).1, (h.2.1 y hy).2.1, (h.2.1 y hy).2.2.congr (hF y hy)⟩, h.2.2⟩
end
end Go.Proofs.Ytmhffdgfkgdmlaa

/-
  Rows of who leads to a state, beside a queue that shares no block with them; what they hold. Over any program.
-/
import Derived.Test.YtknclgfjoajldabWRows
import Derived.Test.YtknclgfjoajldabM24
namespace Go.Proofs.Ytknclgfjoajldab
open Go.RowKit

/-- As Rows2, and no row shares its block with the slice v. -/
def RowsQ (w : World) (base g : Nat) (t te : TypeId) (n : Nat) (Lst : Nat → List Nat) (v : Value) : Prop :=
  ∃ (cs : Array Value) (V : Nat → Value), w.heap[g]? = some (.cells cs t (0, 0)) ∧ n ≤ cs.size ∧ g < base ∧ (∀ y < n, cs[y]? = some (V y)) ∧
    (∀ y < n, w.ownsRow base te 1 (V y) (Lst y).length ((Lst y).map (fun i : Nat => Value.int .i64 i))) ∧ (∀ y < n, ∀ z < n, y ≠ z → ∀ b, (V y).ownBlock = some b → (V z).ownBlock ≠ some b) ∧
    v.ownBlock ≠ some g ∧ ∀ y < n, ∀ b, (V y).ownBlock = some b → v.ownBlock ≠ some b
section
variable {w w1 : World} {base g : Nat} {t te : TypeId} {n : Nat} {Lst : Nat → List Nat} {v : Value}
theorem RowsQ.rows (h : RowsQ w base g t te n Lst v) : Rows2 w base g t te n Lst := by
  obtain ⟨cs, V, h1, h2, h3, h4, h5, h6, _⟩ := h
  exact ⟨cs, V, h1, h2, h3, h4, h5, h6⟩
theorem RowsQ.lt (h : RowsQ w base g t te n Lst v) : g < w.heap.size := h.rows.lt
theorem RowsQ.drew (h : RowsQ w base g t te n Lst v) : RowsQ w.drew base g t te n Lst v := h
theorem RowsQ.drewN (h : RowsQ w base g t te n Lst v) (m : Nat) : RowsQ (w.drewN m) base g t te n Lst v := h
theorem RowsQ.own (h : RowsQ w base g t te n Lst v) : v.ownBlock ≠ some g := by
  obtain ⟨cs, V, _, _, _, _, _, _, h7, _⟩ := h
  exact h7
theorem RowsQ.below (h : RowsQ w base g t te n Lst v) (hx : Below w.heap.size w w1) : RowsQ w1 base g t te n Lst v := by
  obtain ⟨cs, V, h1, h2, h3, h4, h5, h6, h7⟩ := h
  exact ⟨cs, V, (hx.block _ (heap_lt h1)).trans h1, h2, h3, h4, fun y hy => own_below (h5 y hy) hx, h6, h7⟩
theorem RowsQ.alloc (h : RowsQ w base g t te n Lst v) (o : Obj) : RowsQ (w.alloc o) base g t te n Lst v := h.below (below1 _ _)
theorem RowsQ.far (h : RowsQ w base g t te n Lst v) {p : Addr} (hp : p.block < base) (hg : p.block ≠ g) (u : Value) : RowsQ (w.setCell p u) base g t te n Lst v := by
  obtain ⟨cs, V, h1, h2, h3, h4, h5, h6, h7⟩ := h
  exact ⟨cs, V, (Below.heap_setCell _ _ _ _ (Ne.symm hg)).trans h1, h2, h3, h4, fun y hy => ownsRow_setCell_below (h5 y hy) hp u, h6, h7⟩
/-- The queue grows by one. -/
theorem RowsQ.push (h : RowsQ w base g t te n Lst v) {o : Obj} {w2 : World} {v' : Value} (hg : (w.alloc o).grownBy w2 v.ownBlock) (hb : v'.ownBlock = v.ownBlock ∨ v'.ownBlock = some (w.alloc o).heap.size) : RowsQ w2 base g t te n Lst v' := by
  obtain ⟨cs, V, h1, h2, h3, h4, h5, h6, h7, h8⟩ := h
  have lg := heap_lt h1
  have hold : ∀ z < n, ∀ q, (V z).ownBlock = some q → q < w.heap.size := fun z hz q hq => by
    rcases (h5 z hz).2 with ⟨e, _⟩ | ⟨g', cap, cs', e, _, hh, _⟩
    · rw [e] at hq; cases hq
    · rw [e] at hq; injection hq with hq; subst hq; exact heap_lt hh
  refine ⟨cs, V, (hg.block g (by simp; omega) (fun e => h7 e.symm)).trans ((Below.heap_alloc _ _ _ lg).trans h1), h2, h3, h4, fun y hy => ((h5 y hy).alloc o).kept hg (by
    cases hq : (V y).ownBlock with
    | none => exact .inl rfl
    | some q => exact .inr fun e => h8 y hy q hq e.symm), h6, ?_, fun y hy b hb2 => ?_⟩
  · rcases hb with hb | hb
    · rw [hb]; exact h7
    · rw [hb]; simp; omega
  · have := hold y hy b hb2
    rcases hb with hb | hb
    · rw [hb]; exact h8 y hy b hb2
    · rw [hb]; simp; omega
/-- One row, and what it is good for: an append to it; the queue stays. -/
theorem RowsQ.row (h : RowsQ w base g t te n Lst v) {y : Nat} (hy : y < n) : ∃ u, w.cell? ⟨g, y, none⟩ = some u ∧ w.frozen? ⟨g, y, none⟩ = false ∧ w.ownsRow base te 1 u (Lst y).length ((Lst y).map (fun i : Nat => Value.int .i64 i)) ∧ (∀ b, u.ownBlock = some b → v.ownBlock ≠ some b) ∧
    ∀ (o : Obj) (w2 : World) (v' : Value) (x : Nat), (w.alloc o).grownBy w2 u.ownBlock → w2.ownsRow base te 1 v' ((Lst y).length + 1) ((Lst y).map (fun i : Nat => Value.int .i64 i) ++ [.int .i64 (x : Int)]) → (v'.ownBlock = u.ownBlock ∨ v'.ownBlock = some (w.alloc o).heap.size) → base ≤ w.heap.size → (∀ b, v.ownBlock = some b → b < w.heap.size) →
      RowsQ (w2.setCell ⟨g, y, none⟩ v') base g t te n (fun z => if z = y then Lst y ++ [x] else Lst z) v := by
  obtain ⟨cs, V, h1, h2, h3, h4, h5, h6, h7, h8⟩ := h
  refine ⟨V y, (cell_of_row _ _ _ _ _ _ h1).trans (h4 y hy), frozen_row h1, h5 y hy, h8 y hy, fun o w2 v' x hg hown hb hbase hvo => ?_⟩
  have lg := heap_lt h1
  have hg2 : w2.heap[g]? = some (.cells cs t (0, 0)) := (hg.block g (by simp; omega) (fun e => by have := own_from (h5 y hy) g e.symm; omega)).trans ((Below.heap_alloc _ _ _ lg).trans h1)
  refine ⟨cs.setIfInBounds y v', fun z => if z = y then v' else V z, heap_set _ _ _ _ _ _ hg2, by simpa using h2, h3, fun z hz => ?_, fun z hz => ?_, fun a ha b hb' hab k hk => ?_, h7, fun z hz b hzb => ?_⟩
  · by_cases e : z = y
    · subst e
      simp [Array.getElem?_setIfInBounds]
      omega
    · have e1 : ¬ y = z := fun h => e h.symm
      simp [e, e1, h4 z hz]
  · by_cases e : z = y
    · simp only [e, if_true]
      rw [List.length_append, List.map_append]
      exact ownsRow_setCell_below hown h3 v'
    · simp only [e, if_false]
      exact ownsRow_setCell_below (((h5 z hz).alloc o).kept hg (by
        cases hq : (V z).ownBlock with
        | none => exact .inl rfl
        | some q => exact .inr fun he => h6 z hz y hy e q hq he.symm)) h3 v'
  · have hold : ∀ z < n, ∀ q, (V z).ownBlock = some q → q < w.heap.size := fun z hz q hq => by
      rcases (h5 z hz).2 with ⟨e, _⟩ | ⟨g', cap, cs', e, _, hh, _⟩
      · rw [e] at hq; cases hq
      · rw [e] at hq; injection hq with hq; subst hq; exact heap_lt hh
    by_cases e1 : a = y
    · have e2 : ¬ b = y := fun e => hab (by rw [e1, e])
      simp only [e1, if_true] at hk
      simp only [e2, if_false]
      intro hkb
      rcases hb with hb | hb
      · exact h6 y hy b hb' (fun e => e2 e.symm) k (by rw [← hb, hk]) hkb
      · rw [hb] at hk
        injection hk with hk
        have := hold b hb' k hkb
        simp at hk
        omega
    · simp only [e1, if_false] at hk
      by_cases e2 : b = y
      · simp only [e2, if_true]
        intro hkb
        rcases hb with hb | hb
        · exact h6 a ha y hy e1 k hk (by rw [← hb, hkb])
        · rw [hb] at hkb
          injection hkb with hkb
          have := hold a ha k hk
          simp at hkb
          omega
      · simp only [e2, if_false]
        exact h6 a ha b hb' hab k hk
  · by_cases e : z = y
    · simp only [e, if_true] at hzb
      rcases hb with hb | hb
      · exact h8 y hy b (by rw [← hb]; exact hzb)
      · rw [hb] at hzb
        injection hzb with hzb
        intro hv
        have := hvo b hv
        simp at hzb
        omega
    · simp only [e, if_false] at hzb
      exact h8 z hz b hzb
/-- A new row of nil slices beside an older queue. -/
theorem RowsQ.made {A : Option Addr} {c base0 : Nat} (h : w.ownsRow base0 t 1 (.slice A n c) n (madeCells #[.slice none 0 0] (n * 1)).toList) (hA : A = some ⟨g, 0, none⟩) (hb : g < base) (hv : v.ownBlock ≠ some g) : RowsQ w base g t te n (fun _ => []) v := by
  obtain ⟨h0, ⟨hv, _⟩ | ⟨g', cap, cs, hv2, _, hh, hn, _, hsz, htk⟩⟩ := h
  · subst hA; injection hv with hv; cases hv
  · subst hA
    injection hv2 with hv2 _ _
    injection hv2 with hv2; injection hv2 with hv2 _ _
    subst hv2
    refine ⟨cs, fun _ => .slice none 0 0, hh, by omega, hb, fun k hk => ?_, fun y _ => World.ownsRow_nil _ _ _ _, (fun _ _ _ _ _ b hb => by cases hb), hv, (fun _ _ b hb => by cases hb)⟩
    have : (cs.toList.take (n * 1))[k]? = (madeCells #[.slice none 0 0] (n * 1)).toList[k]? := by rw [htk]
    rw [List.getElem?_take_of_lt (by omega), Array.getElem?_toList, Array.getElem?_toList] at this
    rw [this]
    simp [madeCells, hk, Nat.mod_one]
end

/-- Who leads to a state, told by now: all of D, and x by its first j faces. -/
def PredQ (nx : Nat → Nat → Nat) (won : Nat → Int) (m : Nat) (D : List Nat) (x j : Nat) (Lst : Nat → List Nat) : Prop :=
  (∀ y z, z ∈ Lst y ↔ won z = 0 ∧ ((z ∈ D ∧ ∃ face, 1 ≤ face ∧ face ≤ m ∧ nx z face = y) ∨ (z = x ∧ ∃ face, 1 ≤ face ∧ face ≤ j ∧ nx x face = y))) ∧ ∀ y, (Lst y).length ≤ D.length * 8 + j
section
variable {nx : Nat → Nat → Nat} {won : Nat → Int} {m : Nat} {D : List Nat} {x j y : Nat} {Lst : Nat → List Nat}
theorem PredQ.zero (nx : Nat → Nat → Nat) (won : Nat → Int) (m x : Nat) : PredQ nx won m [] x 0 (fun _ => []) :=
  ⟨fun y z => by
    constructor
    · intro h; simp at h
    · rintro ⟨_, ⟨h, _⟩ | ⟨_, face, h1, h2, _⟩⟩
      · simp at h
      · omega, fun _ => by simp⟩
theorem PredQ.other (h : PredQ nx won m D x 0 Lst) (x' : Nat) : PredQ nx won m D x' 0 Lst :=
  ⟨fun y z => by
    rw [h.1 y z]
    constructor
    · rintro ⟨h1, h2 | ⟨_, face, h3, h4, _⟩⟩
      · exact ⟨h1, .inl h2⟩
      · omega
    · rintro ⟨h1, h2 | ⟨_, face, h3, h4, _⟩⟩
      · exact ⟨h1, .inl h2⟩
      · omega, h.2⟩
theorem PredQ.step (h : PredQ nx won m D x j Lst) (hw : won x = 0) (hy : nx x (j + 1) = y) : PredQ nx won m D x (j + 1) (fun z => if z = y then Lst y ++ [x] else Lst z) := by
  refine ⟨fun z k => ?_, fun z => ?_⟩
  · by_cases e : z = y
    · subst e
      simp only [if_true, List.mem_append, List.mem_singleton]
      rw [h.1 z k]
      constructor
      · rintro (⟨h1, h2 | ⟨h2, face, h3, h4, h5⟩⟩ | rfl)
        · exact ⟨h1, .inl h2⟩
        · exact ⟨h1, .inr ⟨h2, face, h3, by omega, h5⟩⟩
        · exact ⟨hw, .inr ⟨rfl, j + 1, by omega, by omega, hy⟩⟩
      · rintro ⟨h1, h2 | ⟨h2, face, h3, h4, h5⟩⟩
        · exact .inl ⟨h1, .inl h2⟩
        · exact .inr h2
    · simp only [e, if_false]
      rw [h.1 z k]
      constructor
      · rintro ⟨h1, h2 | ⟨h2, face, h3, h4, h5⟩⟩
        · exact ⟨h1, .inl h2⟩
        · exact ⟨h1, .inr ⟨h2, face, h3, by omega, h5⟩⟩
      · rintro ⟨h1, h2 | ⟨h2, face, h3, h4, h5⟩⟩
        · exact ⟨h1, .inl h2⟩
        · refine ⟨h1, .inr ⟨h2, face, h3, ?_, h5⟩⟩
          rcases Nat.lt_or_ge face (j + 1) with h6 | h6
          · omega
          · obtain rfl : face = j + 1 := by omega
            exact absurd (h5.symm.trans hy) e
  · have h1 := h.2 z
    have h2 := h.2 y
    by_cases e : z = y
    · simp only [e, if_true, List.length_append, List.length_singleton]; omega
    · simp only [e, if_false]; omega
theorem PredQ.done (h : PredQ nx won m D x j Lst) (hj : j ≤ 8) (hd : j = m ∨ won x ≠ 0) (x' : Nat) : PredQ nx won m (D ++ [x]) x' 0 Lst := by
  refine ⟨fun y z => ?_, fun y => by have := h.2 y; simp; omega⟩
  rw [h.1 y z]
  constructor
  · rintro ⟨h1, ⟨h2, h3⟩ | ⟨h2, face, h3, h4, h5⟩⟩
    · exact ⟨h1, .inl ⟨by simp [h2], h3⟩⟩
    · subst h2
      rcases hd with hd | hd
      · exact ⟨h1, .inl ⟨by simp, face, h3, by omega, h5⟩⟩
      · exact absurd h1 hd
  · rintro ⟨h1, ⟨h2, h3⟩ | ⟨_, face, h3, h4, _⟩⟩
    · rcases List.mem_append.1 h2 with h2 | h2
      · exact ⟨h1, .inl ⟨h2, h3⟩⟩
      · obtain rfl : z = x := by simpa using h2
        rcases hd with hd | hd
        · subst hd
          exact ⟨h1, .inr ⟨rfl, h3⟩⟩
        · exact absurd h1 hd
    · omega
/-- What a row holds in the end: the edges back. -/
theorem PredQ.all {who : Int} {q0 R : Nat} (h : PredQ nx won m D x 0 Lst) (hD : ∀ z, z ∈ D ↔ Rch nx m q0 z) (hR : y ≠ R) (z : Nat) : z ∈ Lst y ↔ eR nx won m who q0 R y z := by
  rw [h.1 y z, eR, hD]
  constructor
  · rintro ⟨h1, ⟨h2, h3⟩ | ⟨_, face, h3, h4, _⟩⟩
    · exact .inr ⟨hR, h2, h1, h3⟩
    · omega
  · rintro (⟨h1, _⟩ | ⟨_, h2, h1, h3⟩)
    · exact absurd h1 hR
    · exact ⟨h1, .inl ⟨h2, h3⟩⟩
end
end Go.Proofs.Ytknclgfjoajldab

/-
  The cells of a ring (64) and of a stand (16), and blocks that hold them. Over any program.
-/
import Derived.Test.YtmhffdgfkgdmlaaWBig
namespace Go.Proofs.Ytmhffdgfkgdmlaa
open Go.RowKit

def ringC (q f k : Int) (A : Option Addr) (n c : Nat) (S : Nat → Bool) : Array Value :=
  ([Value.int .i64 q, .int .i64 f, .int .i64 k, .slice A n c] ++ (List.range 60).map (fun i => Value.bool (S i))).toArray
section
variable {q f k : Int} {A : Option Addr} {n c : Nat} {S S' : Nat → Bool}
theorem ring_size : (ringC q f k A n c S).size = 64 := by simp [ringC]
theorem ring_0 : (ringC q f k A n c S)[0]? = some (.int .i64 q) := rfl
theorem ring_1 : (ringC q f k A n c S)[1]? = some (.int .i64 f) := rfl
theorem ring_2 : (ringC q f k A n c S)[2]? = some (.int .i64 k) := rfl
theorem ring_3 : (ringC q f k A n c S)[3]? = some (.slice A n c) := rfl
theorem ring_at {i : Nat} (hi : i < 60) : (ringC q f k A n c S)[4 + i]? = some (.bool (S i)) := by
  simp only [ringC, List.getElem?_toArray]
  rw [List.getElem?_append_right (by simp)]
  simp [hi]
theorem ring_one : ∀ u ∈ (ringC q f k A n c S).toList, u.oneCell' = true := by
  intro u hu
  simp only [ringC, List.mem_append, List.mem_map] at hu
  rcases hu with hu | ⟨i, _, rfl⟩
  · simp at hu
    rcases hu with rfl | rfl | rfl | rfl <;> rfl
  · rfl
theorem ring_set {i : Nat} (hi : i < 60) (v : Bool) : (ringC q f k A n c S).setIfInBounds (4 + i) (.bool v) = ringC q f k A n c (fun j => if j = i then v else S j) := by
  apply Array.ext_getElem?
  intro m
  rw [Array.getElem?_setIfInBounds, ring_size]
  by_cases hm : 4 + i = m
  · subst hm
    rw [if_pos rfl, if_pos (by omega), ring_at hi, if_pos rfl]
  · rw [if_neg hm]
    rcases Nat.lt_or_ge m 4 with h3 | h3
    · match m, h3 with
      | 0, _ => rfl
      | 1, _ => rfl
      | 2, _ => rfl
      | 3, _ => rfl
    · obtain ⟨j, rfl⟩ : ∃ j, m = 4 + j := ⟨m - 4, by omega⟩
      by_cases hj : j < 60
      · rw [ring_at hj, ring_at hj, if_neg (by omega)]
      · rw [Array.getElem?_eq_none (by rw [ring_size]; omega), Array.getElem?_eq_none (by rw [ring_size]; omega)]
theorem ring_congr (h : ∀ i < 60, S i = S' i) : ringC q f k A n c S = ringC q f k A n c S' := by
  unfold ringC
  rw [List.map_congr_left (fun i hi => by rw [h i (by simpa using hi)])]
end
/-- Block g is a ring. -/
def RA (w : World) (g : Nat) (t : TypeId) (q f k : Int) (A : Option Addr) (n c : Nat) (S : Nat → Bool) : Prop := w.heap[g]? = some (.cells (ringC q f k A n c S) t (0, 0))
section
variable {w w' : World} {g B : Nat} {t : TypeId} {q f k : Int} {A : Option Addr} {n c : Nat} {S S' : Nat → Bool}
theorem RA.lt (h : RA w g t q f k A n c S) : g < w.heap.size := heap_lt h
theorem RA.c0 (h : RA w g t q f k A n c S) : w.cell? ⟨g, 0, none⟩ = some (.int .i64 q) := (cell_of_row _ _ _ _ _ _ h).trans ring_0
theorem RA.c1 (h : RA w g t q f k A n c S) : w.cell? ⟨g, 1, none⟩ = some (.int .i64 f) := (cell_of_row _ _ _ _ _ _ h).trans ring_1
theorem RA.c2 (h : RA w g t q f k A n c S) : w.cell? ⟨g, 2, none⟩ = some (.int .i64 k) := (cell_of_row _ _ _ _ _ _ h).trans ring_2
theorem RA.c3 (h : RA w g t q f k A n c S) : w.cell? ⟨g, 3, none⟩ = some (.slice A n c) := (cell_of_row _ _ _ _ _ _ h).trans ring_3
theorem RA.at_ (h : RA w g t q f k A n c S) {i : Nat} (hi : i < 60) : w.cell? ⟨g, 4 + i, none⟩ = some (.bool (S i)) := (cell_of_row _ _ _ _ _ _ h).trans (ring_at hi)
theorem RA.free (h : RA w g t q f k A n c S) (i : Nat) : w.frozen? ⟨g, i, none⟩ = false := frozen_row h
theorem RA.below (h : RA w g t q f k A n c S) (hb : Below B w w') (hg : g < B) : RA w' g t q f k A n c S := (hb.block g hg).trans h
theorem RA.go (h : RA w g t q f k A n c S) (hb : Below w.heap.size w w') : RA w' g t q f k A n c S := h.below hb h.lt
theorem RA.grown {row : Option Nat} (h : RA w g t q f k A n c S) (hg : w.grownBy w' row) (hne : some g ≠ row) : RA w' g t q f k A n c S := (hg.block g h.lt hne).trans h
theorem RA.alloc (h : RA w g t q f k A n c S) (o : Obj) : RA (w.alloc o) g t q f k A n c S := (Below.heap_alloc w o g h.lt).trans h
theorem RA.drew (h : RA w g t q f k A n c S) : RA w.drew g t q f k A n c S := h
theorem RA.drewN (h : RA w g t q f k A n c S) (m : Nat) : RA (w.drewN m) g t q f k A n c S := h
theorem RA.far (h : RA w g t q f k A n c S) {p : Addr} (hp : g ≠ p.block) (u : Value) : RA (w.setCell p u) g t q f k A n c S := (Below.heap_setCell w p u g hp).trans h
theorem RA.set (h : RA w g t q f k A n c S) {i : Nat} (hi : i < 60) (v : Bool) : RA (w.setCell ⟨g, 4 + i, none⟩ (.bool v)) g t q f k A n c (fun j => if j = i then v else S j) := by
  have := heap_set w g (4 + i) _ _ (.bool v) h
  rw [ring_set hi] at this
  exact this
theorem RA.congr (h : RA w g t q f k A n c S) (he : ∀ i < 60, S i = S' i) : RA w g t q f k A n c S' := by
  have h' := h
  unfold RA at h' ⊢
  rw [h', ring_congr he]
end

def standC (F : Nat → Nat → Int) : Array Value := ((List.range 16).map (fun i => Value.int .i64 (F (i / 4) (i % 4)))).toArray
def updP (F : Nat → Nat → Int) (a b : Nat) (v : Int) : Nat → Nat → Int := fun p t => if p = a ∧ t = b then v else F p t
section
variable {F G : Nat → Nat → Int}
theorem stand_size (F : Nat → Nat → Int) : (standC F).size = 16 := by simp [standC]
theorem stand_idx (F : Nat → Nat → Int) {i : Nat} (hi : i < 16) : (standC F)[i]? = some (.int .i64 (F (i / 4) (i % 4))) := by simp [standC, hi]
theorem stand_at (F : Nat → Nat → Int) {x y : Nat} (hx : x < 4) (hy : y < 4) : (standC F)[x * 4 + y]? = some (.int .i64 (F x y)) := by
  rw [stand_idx F (by omega), show (x * 4 + y) / 4 = x by omega, show (x * 4 + y) % 4 = y by omega]
theorem stand_one (F : Nat → Nat → Int) : ∀ u ∈ (standC F).toList, u.oneCell' = true := by
  intro u hu
  simp only [standC, List.mem_map] at hu
  obtain ⟨i, _, rfl⟩ := hu
  rfl
theorem stand_congr (h : ∀ x < 4, ∀ y < 4, F x y = G x y) : standC F = standC G := by
  apply Array.ext_getElem?
  intro i
  by_cases hi : i < 16
  · rw [stand_idx F hi, stand_idx G hi, h _ (by omega) _ (by omega)]
  · rw [Array.getElem?_eq_none (by rw [stand_size]; omega), Array.getElem?_eq_none (by rw [stand_size]; omega)]
theorem stand_set (F : Nat → Nat → Int) {x y : Nat} (hx : x < 4) (hy : y < 4) (v : Int) : (standC F).setIfInBounds (x * 4 + y) (.int .i64 v) = standC (updP F x y v) := by
  apply Array.ext_getElem?
  intro i
  rw [Array.getElem?_setIfInBounds, stand_size]
  by_cases hi : x * 4 + y = i
  · subst hi
    rw [if_pos rfl, if_pos (by omega), stand_at _ hx hy]
    simp [updP]
  · rw [if_neg hi]
    by_cases hj : i < 16
    · rw [stand_idx _ hj, stand_idx _ hj]
      have : ¬ (i / 4 = x ∧ i % 4 = y) := by omega
      simp [updP, this]
    · rw [Array.getElem?_eq_none (by rw [stand_size]; omega), Array.getElem?_eq_none (by rw [stand_size]; omega)]
theorem stand_inj (h : standC F = standC G) : ∀ x < 4, ∀ y < 4, F x y = G x y := fun x hx y hy => by
  have := stand_at F hx hy
  rw [h, stand_at G hx hy] at this
  injection this with this
  injection this with _ this
  exact this.symm
end
/-- Block g is a stand. -/
def DA (w : World) (g : Nat) (t : TypeId) (F : Nat → Nat → Int) : Prop := w.heap[g]? = some (.cells (standC F) t (0, 0))
section
variable {w w' : World} {g B : Nat} {t : TypeId} {F G : Nat → Nat → Int}
theorem DA.lt (h : DA w g t F) : g < w.heap.size := heap_lt h
theorem DA.at_ (h : DA w g t F) {x y : Nat} (hx : x < 4) (hy : y < 4) : w.cell? ⟨g, x * 4 + y, none⟩ = some (.int .i64 (F x y)) := (cell_of_row _ _ _ _ _ _ h).trans (stand_at F hx hy)
theorem DA.free (h : DA w g t F) (i : Nat) : w.frozen? ⟨g, i, none⟩ = false := frozen_row h
theorem DA.below (h : DA w g t F) (hb : Below B w w') (hg : g < B) : DA w' g t F := (hb.block g hg).trans h
theorem DA.go (h : DA w g t F) (hb : Below w.heap.size w w') : DA w' g t F := h.below hb h.lt
theorem DA.grown {row : Option Nat} (h : DA w g t F) (hg : w.grownBy w' row) (hne : some g ≠ row) : DA w' g t F := (hg.block g h.lt hne).trans h
theorem DA.alloc (h : DA w g t F) (o : Obj) : DA (w.alloc o) g t F := (Below.heap_alloc w o g h.lt).trans h
theorem DA.drew (h : DA w g t F) : DA w.drew g t F := h
theorem DA.drewN (h : DA w g t F) (m : Nat) : DA (w.drewN m) g t F := h
theorem DA.far (h : DA w g t F) {p : Addr} (hp : g ≠ p.block) (u : Value) : DA (w.setCell p u) g t F := (Below.heap_setCell w p u g hp).trans h
theorem DA.set (h : DA w g t F) {x y : Nat} (hx : x < 4) (hy : y < 4) (v : Int) : DA (w.setCell ⟨g, x * 4 + y, none⟩ (.int .i64 v)) g t (updP F x y v) := by
  have := heap_set w g (x * 4 + y) _ _ (.int .i64 v) h
  rw [stand_set F hx hy] at this
  exact this
theorem DA.congr (h : DA w g t F) (he : ∀ x < 4, ∀ y < 4, F x y = G x y) : DA w g t G := by
  have h' := h
  unfold DA at h' ⊢
  rw [h', stand_congr he]
end
end Go.Proofs.Ytmhffdgfkgdmlaa

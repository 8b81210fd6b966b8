/- Several texts, one behind the other: W WRow. -/
import Derived.WalkKit
import Derived.Lib.Hide
import Derived.Deep.Draws
import Derived.Laws.OwnMore

namespace Go.Proofs.Ytnohpclaccaijab
open Go.RowKit

theorem ret_int {k : IntKind} {a b : Int} (h : a = b) : Ending.returned (.int k a) = .returned (.int k b) := by rw [h]
theorem ret_bool {a b : Bool} (h : a = b) : Ending.returned (.bool a) = .returned (.bool b) := by rw [h]
theorem bcell {w w' : World} {B : Nat} (hb : Below B w w') {b o : Nat} (h : b < B) : w'.cell? ⟨b, o, none⟩ = w.cell? ⟨b, o, none⟩ := hb.cell (p := ⟨b, o, none⟩) h

theorem drewB {B : Nat} {w w' : World} (h : Below B w w') (n : Nat) : Below B w (w'.drewN n) := ⟨h.os, h.tape, h.output, h.size, h.block⟩
theorem cell_lt {w : World} {b o : Nat} {v : Value} (h : w.cell? ⟨b, o, none⟩ = some v) : b < w.heap.size := by
  rcases Nat.lt_or_ge b w.heap.size with h1 | h1
  · exact h1
  · simp [World.cell?, Array.getElem?_eq_none h1] at h
/-- A cell that was there before a call is there behind it. -/
theorem keepcell {w w' : World} (hx : Below w.heap.size w w') {b o : Nat} {v : Value} (h : w.cell? ⟨b, o, none⟩ = some v) : w'.cell? ⟨b, o, none⟩ = some v :=
  (bcell hx (cell_lt h)).trans h
/-- What holds below B goes on behind a call. -/
theorem keepB {B : Nat} {a w w' : World} (h : Below B a w) (hB : B ≤ a.heap.size) (hx : Below w.heap.size w w') : Below B a w' :=
  h.trans (hx.mono (Nat.le_trans hB h.size))
theorem heap_alloc_at (w : World) (o : Obj) (k : Nat) (h : k = w.heap.size) : (w.alloc o).heap[k]? = some o := by subst h; exact heap_alloc_new w o
theorem boxcell {w wr : World} {cs : Array Value} {t : TypeId} (hb : Below (w.heap.size + 1) (w.alloc (.cells cs t)) wr) (i : Nat) (v : Value) (h : cs[i]? = some v) : wr.cell? ⟨w.heap.size, i, none⟩ = some v :=
  (bcell hb (by omega)).trans ((World.cell?_alloc_at _ _ _ _ rfl).trans h)

def wfi (n : Int) : Bool := (Lit.int .i64 n).wf
theorem wfi_of {n : Int} (h1 : -1000000000000000000 ≤ n) (h2 : n ≤ 1000000000000000000) : wfi n = true := WalkArith.wf_i64 (by omega)
def wfJ (js : List (Int × Int)) : Prop := ∀ j ∈ js, wfi j.1 = true ∧ wfi j.2 = true
theorem wfJ.at_ {js : List (Int × Int)} (h : wfJ js) {k : Nat} (hk : k < js.length) : wfi js[k].1 = true ∧ wfi js[k].2 = true := h _ (List.getElem_mem hk)

/-- The cells of a box, told at every index. -/
theorem boxcells {w wr : World} {cs : Array Value} {t : TypeId} (hb : Below (w.heap.size + 1) (w.alloc (.cells cs t)) wr) : ∀ i, wr.cell? ⟨w.heap.size, i, none⟩ = cs[i]? :=
  fun _ => (bcell hb (by omega)).trans (World.cell?_alloc_at _ _ _ _ rfl)
theorem box_on {w w1 w2 : World} {o : Obj} {B : Nat} (hb : Below (w.heap.size + 1) (w.alloc o) w1) (hx : Below B w1 w2) (hB : w.heap.size + 1 ≤ B) : Below (w.heap.size + 1) (w.alloc o) w2 := hb.trans (hx.mono hB)

/-- A slice at A that reads as the jumps js, below block B. -/
def RJ (w : World) (B : Nat) (A : Option Addr) (js : List (Int × Int)) : Prop :=
  js.length ≤ 1048576 ∧ wfJ js ∧ (js = [] ∨ ∃ b off, A = some ⟨b, off, none⟩ ∧ b < B ∧ ∀ k (h : k < js.length), w.cell? ⟨b, off + k * 2, none⟩ = some (.int .i64 js[k].1) ∧ w.cell? ⟨b, off + k * 2 + 1, none⟩ = some (.int .i64 js[k].2))

theorem RJ.at_ {w w' : World} {B : Nat} {A js} (h : RJ w B A js) (hb : Below B w w') {k : Nat} (hk : k < js.length) :
    ∃ b off, A = some ⟨b, off, none⟩ ∧ b < B ∧ w'.cell? ⟨b, off + k * 2, none⟩ = some (.int .i64 js[k].1) ∧ w'.cell? ⟨b, off + k * 2 + 1, none⟩ = some (.int .i64 js[k].2) := by
  obtain ⟨_, _, rfl | ⟨b, off, e, hB, hc⟩⟩ := h
  · simp at hk
  · exact ⟨b, off, e, hB, (bcell hb hB).trans (hc k hk).1, (bcell hb hB).trans (hc k hk).2⟩
theorem RJ.below {w w' : World} {B : Nat} {A js} (h : RJ w B A js) (hb : Below B w w') : RJ w' B A js := by
  obtain ⟨h0, hw, rfl | ⟨b, off, e, hB, hc⟩⟩ := h
  · exact ⟨h0, hw, .inl rfl⟩
  · exact ⟨h0, hw, .inr ⟨b, off, e, hB, fun k hk => ⟨(bcell hb hB).trans (hc k hk).1, (bcell hb hB).trans (hc k hk).2⟩⟩⟩
theorem RJ.more {w : World} {B B' : Nat} {A js} (h : RJ w B A js) (hB : B ≤ B') : RJ w B' A js := by
  obtain ⟨h0, hw, h1 | ⟨b, off, e, hb, hc⟩⟩ := h
  · exact ⟨h0, hw, .inl h1⟩
  · exact ⟨h0, hw, .inr ⟨b, off, e, by omega, hc⟩⟩
/-- In a later world, with its own bound. -/
theorem RJ.later {w w' : World} {B : Nat} {A js} (h : RJ w B A js) (hb : Below B w w') (hs : B ≤ w'.heap.size) : RJ w' w'.heap.size A js := (h.below hb).more hs
theorem RJ.go {w w' : World} {A js} (h : RJ w w.heap.size A js) (hb : Below w.heap.size w w') : RJ w' w'.heap.size A js := h.later hb hb.size

/-- A slice at A that reads as the integers xs, below block B. -/
def RI (w : World) (B : Nat) (A : Option Addr) (xs : List Int) : Prop :=
  xs.length ≤ 1048576 ∧ (xs = [] ∨ ∃ b off, A = some ⟨b, off, none⟩ ∧ b < B ∧ ∀ k (h : k < xs.length), w.cell? ⟨b, off + k, none⟩ = some (.int .i64 xs[k]))
theorem RI.at_ {w w' : World} {B : Nat} {A xs} (h : RI w B A xs) (hb : Below B w w') {k : Nat} (hk : k < xs.length) :
    ∃ b off, A = some ⟨b, off, none⟩ ∧ b < B ∧ w'.cell? ⟨b, off + k, none⟩ = some (.int .i64 xs[k]) := by
  obtain ⟨_, rfl | ⟨b, off, e, hB, hc⟩⟩ := h
  · simp at hk
  · exact ⟨b, off, e, hB, (bcell hb hB).trans (hc k hk)⟩
theorem RI.below {w w' : World} {B : Nat} {A xs} (h : RI w B A xs) (hb : Below B w w') : RI w' B A xs := by
  obtain ⟨h0, rfl | ⟨b, off, e, hB, hc⟩⟩ := h
  · exact ⟨h0, .inl rfl⟩
  · exact ⟨h0, .inr ⟨b, off, e, hB, fun k hk => (bcell hb hB).trans (hc k hk)⟩⟩
theorem RI.more {w : World} {B B' : Nat} {A xs} (h : RI w B A xs) (hB : B ≤ B') : RI w B' A xs := by
  obtain ⟨h0, h1 | ⟨b, off, e, hb, hc⟩⟩ := h
  · exact ⟨h0, .inl h1⟩
  · exact ⟨h0, .inr ⟨b, off, e, by omega, hc⟩⟩
theorem RI.later {w w' : World} {B : Nat} {A xs} (h : RI w B A xs) (hb : Below B w w') (hs : B ≤ w'.heap.size) : RI w' w'.heap.size A xs := (h.below hb).more hs
theorem RI.go {w w' : World} {A xs} (h : RI w w.heap.size A xs) (hb : Below w.heap.size w w') : RI w' w'.heap.size A xs := h.later hb hb.size
theorem below1 (w : World) (o : Obj) : Below w.heap.size w (w.alloc o) := (Below.refl _ _).alloc (Nat.le_refl _) _
theorem below2 (w : World) (o o' : Obj) : Below w.heap.size w ((w.alloc o).alloc o') := (below1 w o).alloc (by simp) _
theorem below3 (w : World) (o o' o'' : Obj) : Below w.heap.size w (((w.alloc o).alloc o').alloc o'') := (below2 w o o').alloc (by simp; omega) _

/-- Two jumps are equal; a name of its own, so that the walk leaves it whole. -/
def eqJ (a b : Int × Int) : Bool := a == b
theorem eqJ_mk (a b a' b' : Int) : eqJ (a, b) (a', b') = (a == a' && b == b') := rfl
theorem drop_step {α : Type} (l : List α) (k : Nat) (hk : k < l.length) : l.drop k = l[k] :: l.drop (k + 1) := List.drop_eq_getElem_cons hk
end Go.Proofs.Ytnohpclaccaijab

namespace Go.Proofs.Ytnohpclaccaijab
open Go.RowKit

theorem heap_lt {w : World} {g : Nat} {o : Obj} (h : w.heap[g]? = some o) : g < w.heap.size := by
  rcases Nat.lt_or_ge g w.heap.size with h1 | h1
  · exact h1
  · rw [Array.getElem?_eq_none h1] at h; cases h
theorem heap_set (w : World) (g i : Nat) (cs : Array Value) (t : TypeId) (u : Value) (h : w.heap[g]? = some (.cells cs t (0, 0))) : (w.setCell ⟨g, i, none⟩ u).heap[g]? = some (.cells (cs.setIfInBounds i u) t (0, 0)) := by
  simp [World.setCell, Array.getElem?_modify, h]
theorem frozen_row {w : World} {g i : Nat} {cs : Array Value} {t : TypeId} (h : w.heap[g]? = some (.cells cs t (0, 0))) : w.frozen? ⟨g, i, none⟩ = false := by
  simp [World.frozen?, h]

/-- Block g begins with n jumps, the k-th being F k. -/
def RowJ (w : World) (g : Nat) (t : TypeId) (n : Nat) (F : Nat → Int × Int) : Prop :=
  ∃ cs, w.heap[g]? = some (.cells cs t (0, 0)) ∧ n * 2 ≤ cs.size ∧ ∀ k < n, cs[k * 2]? = some (.int .i64 (F k).1) ∧ cs[k * 2 + 1]? = some (.int .i64 (F k).2)
/-- Block g begins with n integers, the k-th being F k. -/
def RowI (w : World) (g : Nat) (t : TypeId) (n : Nat) (F : Nat → Int) : Prop :=
  ∃ cs, w.heap[g]? = some (.cells cs t (0, 0)) ∧ n ≤ cs.size ∧ ∀ k < n, cs[k]? = some (.int .i64 (F k))
section
variable {w w' : World} {g : Nat} {t : TypeId} {n : Nat} {F G : Nat → Int × Int} {f h' : Nat → Int}
theorem RowJ.lt (h : RowJ w g t n F) : g < w.heap.size := by obtain ⟨cs, h, _⟩ := h; exact heap_lt h
theorem RowJ.cell1 (h : RowJ w g t n F) {k : Nat} (hk : k < n) : w.cell? ⟨g, k * 2, none⟩ = some (.int .i64 (F k).1) := by
  obtain ⟨cs, h, _, hc⟩ := h; exact (cell_of_row w g _ cs t (0, 0) h).trans (hc k hk).1
theorem RowJ.cell2 (h : RowJ w g t n F) {k : Nat} (hk : k < n) : w.cell? ⟨g, k * 2 + 1, none⟩ = some (.int .i64 (F k).2) := by
  obtain ⟨cs, h, _, hc⟩ := h; exact (cell_of_row w g _ cs t (0, 0) h).trans (hc k hk).2
theorem RowJ.free (h : RowJ w g t n F) (i : Nat) : w.frozen? ⟨g, i, none⟩ = false := by obtain ⟨cs, h, _⟩ := h; exact frozen_row h
theorem RowJ.keep (h : RowJ w g t n F) (hb : w'.heap[g]? = w.heap[g]?) : RowJ w' g t n F := by obtain ⟨cs, h, r⟩ := h; exact ⟨cs, hb.trans h, r⟩
theorem RowJ.below {B : Nat} (h : RowJ w g t n F) (hb : Below B w w') (hg : g < B) : RowJ w' g t n F := h.keep (hb.block g hg)
theorem RowJ.alloc (h : RowJ w g t n F) (o : Obj) : RowJ (w.alloc o) g t n F := h.keep (Below.heap_alloc w o g h.lt)
theorem RowJ.drew (h : RowJ w g t n F) : RowJ w.drew g t n F := h
theorem RowJ.drewN (h : RowJ w g t n F) (m : Nat) : RowJ (w.drewN m) g t n F := h
theorem RowJ.far (h : RowJ w g t n F) {p : Addr} (hp : g ≠ p.block) (u : Value) : RowJ (w.setCell p u) g t n F := h.keep (Below.heap_setCell w p u g hp)
theorem RowJ.grown {row : Option Nat} (h : RowJ w g t n F) (hg : w.grownBy w' row) (hne : some g ≠ row) : RowJ w' g t n F := h.keep (hg.block g h.lt hne)
theorem RowJ.congr (h : RowJ w g t n F) (he : ∀ k < n, F k = G k) : RowJ w g t n G := by
  obtain ⟨cs, h, hs, hc⟩ := h; exact ⟨cs, h, hs, fun k hk => by rw [← he k hk]; exact hc k hk⟩
/-- Both cells of a jump are written. -/
theorem RowJ.set (h : RowJ w g t n F) {k : Nat} (hk : k < n) (a b : Int) : RowJ ((w.setCell ⟨g, k * 2, none⟩ (.int .i64 a)).setCell ⟨g, k * 2 + 1, none⟩ (.int .i64 b)) g t n (fun i => if i = k then (a, b) else F i) := by
  obtain ⟨cs, h, hs, hc⟩ := h
  refine ⟨_, heap_set _ g _ _ t _ (heap_set _ g _ _ t _ h), by simpa using hs, fun i hi => ?_⟩
  have h1 := hc i hi
  by_cases e : i = k
  · subst e
    simp [Array.getElem?_setIfInBounds]
    omega
  · have e1 : ¬ k * 2 = i * 2 := by omega
    have e2 : ¬ k * 2 + 1 = i * 2 := by omega
    have e3 : ¬ k * 2 = i * 2 + 1 := by omega
    have e4 : ¬ k * 2 + 1 = i * 2 + 1 := by omega
    simp [e, e1, e2, e3, h1]
theorem RowJ.set1 (h : RowJ w g t n F) {k : Nat} (hk : k < n) (a : Int) : RowJ (w.setCell ⟨g, k * 2, none⟩ (.int .i64 a)) g t n (fun i => if i = k then (a, (F k).2) else F i) := by
  obtain ⟨cs, h, hs, hc⟩ := h
  refine ⟨_, heap_set _ g _ _ t _ h, by simpa using hs, fun i hi => ?_⟩
  have h1 := hc i hi
  by_cases e : i = k
  · subst e
    have e3 : ¬ i * 2 = i * 2 + 1 := by omega
    simp [Array.getElem?_setIfInBounds, h1]
    omega
  · have e1 : ¬ k * 2 = i * 2 := by omega
    have e3 : ¬ k * 2 = i * 2 + 1 := by omega
    simp [e, e1, e3, h1]
theorem RowJ.set2 (h : RowJ w g t n F) {k : Nat} (hk : k < n) (b : Int) : RowJ (w.setCell ⟨g, k * 2 + 1, none⟩ (.int .i64 b)) g t n (fun i => if i = k then ((F k).1, b) else F i) := by
  obtain ⟨cs, h, hs, hc⟩ := h
  refine ⟨_, heap_set _ g _ _ t _ h, by simpa using hs, fun i hi => ?_⟩
  have h1 := hc i hi
  by_cases e : i = k
  · subst e
    have e3 : ¬ i * 2 + 1 = i * 2 := by omega
    simp [Array.getElem?_setIfInBounds, h1]
    omega
  · have e1 : ¬ k * 2 + 1 = i * 2 := by omega
    have e3 : ¬ k * 2 = i * 2 := by omega
    simp [e, e1, e3, h1]
theorem RowJ.rj {A : Option Addr} {js : List (Int × Int)} (h : RowJ w g t js.length (fun k => js.getD k (0, 0))) (hA : A = some ⟨g, 0, none⟩) (hl : js.length ≤ 1048576) (hw : wfJ js) : RJ w w.heap.size A js :=
  ⟨hl, hw, .inr ⟨g, 0, hA, h.lt, fun k hk => by
    have h1 := h.cell1 hk
    have h2 := h.cell2 hk
    simp only [List.getD_eq_getElem?_getD, List.getElem?_eq_getElem hk, Option.getD_some] at h1 h2
    exact ⟨by rw [Nat.zero_add]; exact h1, by rw [Nat.zero_add]; exact h2⟩⟩⟩

theorem RowI.lt (h : RowI w g t n f) : g < w.heap.size := by obtain ⟨cs, h, _⟩ := h; exact heap_lt h
theorem RowI.cell (h : RowI w g t n f) {k : Nat} (hk : k < n) : w.cell? ⟨g, k, none⟩ = some (.int .i64 (f k)) := by
  obtain ⟨cs, h, _, hc⟩ := h; exact (cell_of_row w g _ cs t (0, 0) h).trans (hc k hk)
theorem RowI.free (h : RowI w g t n f) (i : Nat) : w.frozen? ⟨g, i, none⟩ = false := by obtain ⟨cs, h, _⟩ := h; exact frozen_row h
theorem RowI.keep (h : RowI w g t n f) (hb : w'.heap[g]? = w.heap[g]?) : RowI w' g t n f := by obtain ⟨cs, h, r⟩ := h; exact ⟨cs, hb.trans h, r⟩
theorem RowI.below {B : Nat} (h : RowI w g t n f) (hb : Below B w w') (hg : g < B) : RowI w' g t n f := h.keep (hb.block g hg)
theorem RowI.alloc (h : RowI w g t n f) (o : Obj) : RowI (w.alloc o) g t n f := h.keep (Below.heap_alloc w o g h.lt)
theorem RowI.drew (h : RowI w g t n f) : RowI w.drew g t n f := h
theorem RowI.drewN (h : RowI w g t n f) (m : Nat) : RowI (w.drewN m) g t n f := h
theorem RowI.far (h : RowI w g t n f) {p : Addr} (hp : g ≠ p.block) (u : Value) : RowI (w.setCell p u) g t n f := h.keep (Below.heap_setCell w p u g hp)
theorem RowI.grown {row : Option Nat} (h : RowI w g t n f) (hg : w.grownBy w' row) (hne : some g ≠ row) : RowI w' g t n f := h.keep (hg.block g h.lt hne)
theorem RowI.congr (h : RowI w g t n f) (he : ∀ k < n, f k = h' k) : RowI w g t n h' := by
  obtain ⟨cs, h, hs, hc⟩ := h; exact ⟨cs, h, hs, fun k hk => by rw [← he k hk]; exact hc k hk⟩
theorem RowI.set (h : RowI w g t n f) {k : Nat} (hk : k < n) (a : Int) : RowI (w.setCell ⟨g, k, none⟩ (.int .i64 a)) g t n (fun i => if i = k then a else f i) := by
  obtain ⟨cs, h, hs, hc⟩ := h
  refine ⟨_, heap_set _ g _ _ t _ h, by simpa using hs, fun i hi => ?_⟩
  have h1 := hc i hi
  by_cases e : i = k
  · subst e
    simp [Array.getElem?_setIfInBounds]
    omega
  · have e1 : ¬ k = i := fun h => e h.symm
    simp [e, e1, h1]
theorem RowI.ri {A : Option Addr} {xs : List Int} (h : RowI w g t xs.length (fun k => xs.getD k 0)) (hA : A = some ⟨g, 0, none⟩) (hl : xs.length ≤ 1048576) : RI w w.heap.size A xs :=
  ⟨hl, .inr ⟨g, 0, hA, h.lt, fun k hk => by
    have h1 := h.cell hk
    simp only [List.getD_eq_getElem?_getD, List.getElem?_eq_getElem hk, Option.getD_some] at h1
    rw [Nat.zero_add]; exact h1⟩⟩
/-- A slice of n jumps that the call itself made, from block lo on; empty: nothing is asked. -/
def OJ (w : World) (lo : Nat) (t : TypeId) (A : Option Addr) (n : Nat) (F : Nat → Int × Int) : Prop := n = 0 ∨ ∃ g, A = some ⟨g, 0, none⟩ ∧ lo ≤ g ∧ RowJ w g t n F
/-- A slice of n integers that the call itself made, from block lo on; empty: nothing is asked. -/
def OI (w : World) (lo : Nat) (t : TypeId) (A : Option Addr) (n : Nat) (f : Nat → Int) : Prop := n = 0 ∨ ∃ g, A = some ⟨g, 0, none⟩ ∧ lo ≤ g ∧ RowI w g t n f
theorem OJ.get {lo : Nat} {A : Option Addr} (h : OJ w lo t A n F) {k : Nat} (hk : k < n) : ∃ g, A = some ⟨g, 0, none⟩ ∧ lo ≤ g ∧ RowJ w g t n F := by
  rcases h with h | h
  · omega
  · exact h
theorem OI.get {lo : Nat} {A : Option Addr} (h : OI w lo t A n f) {k : Nat} (hk : k < n) : ∃ g, A = some ⟨g, 0, none⟩ ∧ lo ≤ g ∧ RowI w g t n f := by
  rcases h with h | h
  · omega
  · exact h
theorem OJ.below {lo B : Nat} {A : Option Addr} (h : OJ w lo t A n F) (hb : Below B w w') (hB : w.heap.size ≤ B) : OJ w' lo t A n F := by
  rcases h with h | ⟨g, e, hl, h⟩
  · exact .inl h
  · exact .inr ⟨g, e, hl, h.below hb (Nat.lt_of_lt_of_le h.lt hB)⟩
theorem OI.below {lo B : Nat} {A : Option Addr} (h : OI w lo t A n f) (hb : Below B w w') (hB : w.heap.size ≤ B) : OI w' lo t A n f := by
  rcases h with h | ⟨g, e, hl, h⟩
  · exact .inl h
  · exact .inr ⟨g, e, hl, h.below hb (Nat.lt_of_lt_of_le h.lt hB)⟩
theorem OJ.grown {lo : Nat} {A : Option Addr} {row : Option Nat} (h : OJ w lo t A n F) (hg : w.grownBy w' row) (hne : ∀ g, row = some g → g < lo) : OJ w' lo t A n F := by
  rcases h with h | ⟨g, e, hl, h⟩
  · exact .inl h
  · exact .inr ⟨g, e, hl, h.grown hg (fun e => by have := hne g e.symm; omega)⟩
theorem OI.grown {lo : Nat} {A : Option Addr} {row : Option Nat} (h : OI w lo t A n f) (hg : w.grownBy w' row) (hne : ∀ g, row = some g → g < lo) : OI w' lo t A n f := by
  rcases h with h | ⟨g, e, hl, h⟩
  · exact .inl h
  · exact .inr ⟨g, e, hl, h.grown hg (fun e => by have := hne g e.symm; omega)⟩
theorem OJ.congr {lo : Nat} {A : Option Addr} (h : OJ w lo t A n F) (he : ∀ k < n, F k = G k) : OJ w lo t A n G := by
  rcases h with h | ⟨g, e, hl, h⟩
  · exact .inl h
  · exact .inr ⟨g, e, hl, h.congr he⟩
theorem OI.congr {lo : Nat} {A : Option Addr} (h : OI w lo t A n f) (he : ∀ k < n, f k = h' k) : OI w lo t A n h' := by
  rcases h with h | ⟨g, e, hl, h⟩
  · exact .inl h
  · exact .inr ⟨g, e, hl, h.congr he⟩
theorem OJ.rj {lo : Nat} {A : Option Addr} {js : List (Int × Int)} (h : OJ w lo t A js.length (fun k => js.getD k (0, 0))) (hl : js.length ≤ 1048576) (hw : wfJ js) : RJ w w.heap.size A js := by
  rcases h with h | ⟨g, e, _, h⟩
  · exact ⟨hl, hw, .inl (List.length_eq_zero_iff.1 h)⟩
  · exact h.rj e hl hw
theorem OI.ri {lo : Nat} {A : Option Addr} {xs : List Int} (h : OI w lo t A xs.length (fun k => xs.getD k 0)) (hl : xs.length ≤ 1048576) : RI w w.heap.size A xs := by
  rcases h with h | ⟨g, e, _, h⟩
  · exact ⟨hl, .inl (List.length_eq_zero_iff.1 h)⟩
  · exact h.ri e hl
theorem grown_refl (w : World) (row : Option Nat) : w.grownBy w row := ⟨rfl, rfl, rfl, Nat.le_refl _, fun _ _ _ => rfl⟩
theorem grown_trans {w2 : World} {row : Option Nat} (h : w.grownBy w' row) (h2 : w'.grownBy w2 row) : w.grownBy w2 row :=
  ⟨h2.os.trans h.os, h2.tape.trans h.tape, h2.output.trans h.output, Nat.le_trans h.size h2.size, fun k hk hne => (h2.block k (Nat.lt_of_lt_of_le hk h.size) hne).trans (h.block k hk hne)⟩
theorem grown_setCell {row : Option Nat} (h : w.grownBy w' row) (p : Addr) (u : Value) (hp : row = some p.block) : w.grownBy (w'.setCell p u) row :=
  ⟨h.os, h.tape, h.output, by simpa using h.size, fun k hk hne => (Below.heap_setCell _ _ _ _ (fun e => hne (by rw [hp, e]))).trans (h.block k hk hne)⟩
theorem below_grown (h : Below w.heap.size w w') (row : Option Nat) : w.grownBy w' row := ⟨h.os, h.tape, h.output, h.size, fun k hk _ => h.block k hk⟩
theorem own_below {base e size : Nat} {v : Value} {xs : List Value} (h : w.ownsRow base e size v n xs) (hb : Below w.heap.size w w') : w'.ownsRow base e size v n xs :=
  h.kept (below_grown hb none) (by cases v <;> (try rename_i a _ _; cases a) <;> simp [Value.ownBlock])
theorem own_from {base e size : Nat} {v : Value} {xs : List Value} (h : w.ownsRow base e size v n xs) : ∀ g, v.ownBlock = some g → base ≤ g := by
  intro g hg
  rcases h.2 with ⟨rfl, _⟩ | ⟨g', cap, cs, rfl, hb, _⟩
  · cases hg
  · injection hg with hg; subst hg; exact hb
/-- A write to one row, made from block B on, leaves what lies below. -/
theorem grown_below {row : Option Nat} {B : Nat} (h : w.grownBy w' row) (hB : B ≤ w.heap.size) (hr : ∀ k, row = some k → B ≤ k) : Below B w w' := (Below.refl B w).grown h hB hr

/-- A new row of zeros. -/
theorem madeJ {base : Nat} {A : Option Addr} {c : Nat} (h : w.ownsRow base t 2 (.slice A n c) n (madeCells #[.int .i64 0, .int .i64 0] (n * 2)).toList) (hA : A = some ⟨g, 0, none⟩) : RowJ w g t n (fun _ => (0, 0)) := by
  obtain ⟨h0, ⟨hv, _⟩ | ⟨g', cap, cs, hv, _, hh, hn, _, hsz, htk⟩⟩ := h
  · subst hA; injection hv with hv; cases hv
  · subst hA
    injection hv with hv _ _
    injection hv with hv; injection hv with hv _ _
    subst hv
    have hcs : ∀ i < n * 2, cs[i]? = some (.int .i64 0) := fun i hi => by
      have : (cs.toList.take (n * 2))[i]? = (madeCells #[.int .i64 0, .int .i64 0] (n * 2)).toList[i]? := by rw [htk]
      rw [List.getElem?_take_of_lt hi, Array.getElem?_toList, Array.getElem?_toList] at this
      rw [this]
      have hm : i % 2 = 0 ∨ i % 2 = 1 := by omega
      rcases hm with hm | hm <;> simp [madeCells, hi, hm]
    refine ⟨cs, hh, by rw [hsz]; exact Nat.mul_le_mul_right 2 hn, fun k hk => ⟨hcs _ (by omega), hcs _ (by omega)⟩⟩
theorem madeI {base : Nat} {A : Option Addr} {c : Nat} (h : w.ownsRow base t 1 (.slice A n c) n (madeCells #[.int .i64 0] (n * 1)).toList) (hA : A = some ⟨g, 0, none⟩) : RowI w g t n (fun _ => 0) := by
  obtain ⟨h0, ⟨hv, _⟩ | ⟨g', cap, cs, hv, _, hh, hn, _, hsz, htk⟩⟩ := h
  · subst hA; injection hv with hv; cases hv
  · subst hA
    injection hv with hv _ _
    injection hv with hv; injection hv with hv _ _
    subst hv
    refine ⟨cs, hh, by omega, fun k hk => ?_⟩
    have : (cs.toList.take (n * 1))[k]? = (madeCells #[.int .i64 0] (n * 1)).toList[k]? := by rw [htk]
    rw [List.getElem?_take_of_lt (by omega), Array.getElem?_toList, Array.getElem?_toList] at this
    rw [this]
    simp [madeCells, hk, Nat.mod_one]
/-- The cells of jumps, one behind the other. -/
def flatJ (js : List (Int × Int)) : List Value := js.flatMap (fun j => [.int .i64 j.1, .int .i64 j.2])
theorem flatJ_app (a b : List (Int × Int)) : flatJ (a ++ b) = flatJ a ++ flatJ b := by simp [flatJ]
theorem flatJ_at : ∀ (js : List (Int × Int)) (k : Nat) (hk : k < js.length), (flatJ js)[k * 2]? = some (.int .i64 js[k].1) ∧ (flatJ js)[k * 2 + 1]? = some (.int .i64 js[k].2)
  | [], k, hk => by simp at hk
  | j :: t, 0, _ => by simp [flatJ]
  | j :: t, k + 1, hk => by
    have := flatJ_at t k (by simpa using hk)
    have e : flatJ (j :: t) = .int .i64 j.1 :: .int .i64 j.2 :: flatJ t := rfl
    rw [e, show (k + 1) * 2 = k * 2 + 1 + 1 from by omega]
    simpa using this
/-- A slice of jumps that owns its row, as append leaves it. -/
theorem own_oj {base n : Nat} {v : Value} {xs : List (Int × Int)} (h : w.ownsRow base t 2 v n (flatJ xs)) (hn : xs.length = n) : ∃ A c, v = .slice A xs.length c ∧ OJ w base t A xs.length (fun k => xs.getD k (0, 0)) := by
  subst hn
  obtain ⟨h0, ⟨rfl, hz⟩ | ⟨g, cap, cs, rfl, hg, hh, hn, _, hsz, htk⟩⟩ := h
  · exact ⟨none, 0, by rw [hz], .inl hz⟩
  · refine ⟨_, cap, rfl, .inr ⟨g, rfl, hg, cs, hh, by rw [hsz]; exact Nat.mul_le_mul_right 2 hn, fun k hk => ?_⟩⟩
    have hat : ∀ i, i < xs.length * 2 → cs[i]? = (flatJ xs)[i]? := fun i hi => by
      have : (cs.toList.take (xs.length * 2))[i]? = (flatJ xs)[i]? := by rw [htk]
      rw [List.getElem?_take_of_lt hi, Array.getElem?_toList] at this
      exact this
    have hf := flatJ_at xs k hk
    rw [hat _ (by omega), hat _ (by omega), hf.1, hf.2]
    simp [List.getElem?_eq_getElem hk]

/-- A slice of integers that owns its row, as append leaves it. -/
theorem own_oi {base n : Nat} {v : Value} {xs : List Int} (h : w.ownsRow base t 1 v n (xs.map (Value.int .i64))) (hn : xs.length = n) : ∃ A c, v = .slice A xs.length c ∧ OI w base t A xs.length (fun k => xs.getD k 0) := by
  subst hn
  obtain ⟨h0, ⟨rfl, hz⟩ | ⟨g, cap, cs, rfl, hg, hh, hn, _, hsz, htk⟩⟩ := h
  · exact ⟨none, 0, by rw [hz], .inl hz⟩
  · refine ⟨_, cap, rfl, .inr ⟨g, rfl, hg, cs, hh, by omega, fun k hk => ?_⟩⟩
    have : (cs.toList.take (xs.length * 1))[k]? = (xs.map (Value.int .i64))[k]? := by rw [htk]
    rw [List.getElem?_take_of_lt (by omega), Array.getElem?_toList] at this
    rw [this]
    simp [List.getElem?_eq_getElem hk]
end
end Go.Proofs.Ytnohpclaccaijab

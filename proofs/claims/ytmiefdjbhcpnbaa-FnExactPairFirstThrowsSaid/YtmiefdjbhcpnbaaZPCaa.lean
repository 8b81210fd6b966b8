/- Several texts, one behind the other: W. -/
import Derived.WalkKit
import Derived.Lib.Hide
import Derived.Deep.Draws

namespace Go.Proofs.Ytmiefdjbhcpnbaa
open Go.RowKit

theorem ret_int {k : IntKind} {a b : Int} (h : a = b) : Ending.returned (.int k a) = .returned (.int k b) := by rw [h]
theorem ret_bool {a b : Bool} (h : a = b) : Ending.returned (.bool a) = .returned (.bool b) := by rw [h]
theorem bcell {w w' : World} {B : Nat} (hb : Below B w w') {b o : Nat} (h : b < B) : w'.cell? ⟨b, o, none⟩ = w.cell? ⟨b, o, none⟩ := hb.cell (p := ⟨b, o, none⟩) h

theorem drewB {B : Nat} {w w' : World} (h : Below B w w') (n : Nat) : Below B w (w'.drewN n) := ⟨h.os, h.tape, h.output, h.size, h.block⟩
theorem cell_lt {w : World} {b o : Nat} {v : Value} (h : w.cell? ⟨b, o, none⟩ = some v) : b < w.heap.size := by
  rcases Nat.lt_or_ge b w.heap.size with h1 | h1
  · exact h1
  · simp [World.cell?, Array.getElem?_eq_none h1] at h
/-- A cell that was there before a call is there behind it. -/
theorem keepcell {w w' : World} (hx : Below w.heap.size w w') {b o : Nat} {v : Value} (h : w.cell? ⟨b, o, none⟩ = some v) : w'.cell? ⟨b, o, none⟩ = some v :=
  (bcell hx (cell_lt h)).trans h
/-- What holds below B goes on behind a call. -/
theorem keepB {B : Nat} {a w w' : World} (h : Below B a w) (hB : B ≤ a.heap.size) (hx : Below w.heap.size w w') : Below B a w' :=
  h.trans (hx.mono (Nat.le_trans hB h.size))
theorem heap_alloc_at (w : World) (o : Obj) (k : Nat) (h : k = w.heap.size) : (w.alloc o).heap[k]? = some o := by subst h; exact heap_alloc_new w o
theorem boxcell {w wr : World} {cs : Array Value} {t : TypeId} (hb : Below (w.heap.size + 1) (w.alloc (.cells cs t)) wr) (i : Nat) (v : Value) (h : cs[i]? = some v) : wr.cell? ⟨w.heap.size, i, none⟩ = some v :=
  (bcell hb (by omega)).trans ((World.cell?_alloc_at _ _ _ _ rfl).trans h)

def wfi (n : Int) : Bool := (Lit.int .i64 n).wf
theorem wfi_of {n : Int} (h1 : -1000000000000000000 ≤ n) (h2 : n ≤ 1000000000000000000) : wfi n = true := WalkArith.wf_i64 (by omega)
def wfJ (js : List (Int × Int)) : Prop := ∀ j ∈ js, wfi j.1 = true ∧ wfi j.2 = true
theorem wfJ.at_ {js : List (Int × Int)} (h : wfJ js) {k : Nat} (hk : k < js.length) : wfi js[k].1 = true ∧ wfi js[k].2 = true := h _ (List.getElem_mem hk)

/-- The cells of a box, told at every index. -/
theorem boxcells {w wr : World} {cs : Array Value} {t : TypeId} (hb : Below (w.heap.size + 1) (w.alloc (.cells cs t)) wr) : ∀ i, wr.cell? ⟨w.heap.size, i, none⟩ = cs[i]? :=
  fun _ => (bcell hb (by omega)).trans (World.cell?_alloc_at _ _ _ _ rfl)
theorem box_on {w w1 w2 : World} {o : Obj} {B : Nat} (hb : Below (w.heap.size + 1) (w.alloc o) w1) (hx : Below B w1 w2) (hB : w.heap.size + 1 ≤ B) : Below (w.heap.size + 1) (w.alloc o) w2 := hb.trans (hx.mono hB)

/-- A slice at A that reads as the jumps js, below block B. -/
def RJ (w : World) (B : Nat) (A : Option Addr) (js : List (Int × Int)) : Prop :=
  js.length ≤ 1048576 ∧ wfJ js ∧ (js = [] ∨ ∃ b off, A = some ⟨b, off, none⟩ ∧ b < B ∧ ∀ k (h : k < js.length), w.cell? ⟨b, off + k * 2, none⟩ = some (.int .i64 js[k].1) ∧ w.cell? ⟨b, off + k * 2 + 1, none⟩ = some (.int .i64 js[k].2))

theorem RJ.at_ {w w' : World} {B : Nat} {A js} (h : RJ w B A js) (hb : Below B w w') {k : Nat} (hk : k < js.length) :
    ∃ b off, A = some ⟨b, off, none⟩ ∧ b < B ∧ w'.cell? ⟨b, off + k * 2, none⟩ = some (.int .i64 js[k].1) ∧ w'.cell? ⟨b, off + k * 2 + 1, none⟩ = some (.int .i64 js[k].2) := by
  obtain ⟨_, _, rfl | ⟨b, off, e, hB, hc⟩⟩ := h
  · simp at hk
  · exact ⟨b, off, e, hB, (bcell hb hB).trans (hc k hk).1, (bcell hb hB).trans (hc k hk).2⟩
theorem RJ.below {w w' : World} {B : Nat} {A js} (h : RJ w B A js) (hb : Below B w w') : RJ w' B A js := by
  obtain ⟨h0, hw, rfl | ⟨b, off, e, hB, hc⟩⟩ := h
  · exact ⟨h0, hw, .inl rfl⟩
  · exact ⟨h0, hw, .inr ⟨b, off, e, hB, fun k hk => ⟨(bcell hb hB).trans (hc k hk).1, (bcell hb hB).trans (hc k hk).2⟩⟩⟩
theorem RJ.more {w : World} {B B' : Nat} {A js} (h : RJ w B A js) (hB : B ≤ B') : RJ w B' A js := by
  obtain ⟨h0, hw, h1 | ⟨b, off, e, hb, hc⟩⟩ := h
  · exact ⟨h0, hw, .inl h1⟩
  · exact ⟨h0, hw, .inr ⟨b, off, e, by omega, hc⟩⟩
/-- In a later world, with its own bound. -/
theorem RJ.later {w w' : World} {B : Nat} {A js} (h : RJ w B A js) (hb : Below B w w') (hs : B ≤ w'.heap.size) : RJ w' w'.heap.size A js := (h.below hb).more hs
theorem RJ.go {w w' : World} {A js} (h : RJ w w.heap.size A js) (hb : Below w.heap.size w w') : RJ w' w'.heap.size A js := h.later hb hb.size

/-- A slice at A that reads as the integers xs, below block B. -/
def RI (w : World) (B : Nat) (A : Option Addr) (xs : List Int) : Prop :=
  xs.length ≤ 1048576 ∧ (xs = [] ∨ ∃ b off, A = some ⟨b, off, none⟩ ∧ b < B ∧ ∀ k (h : k < xs.length), w.cell? ⟨b, off + k, none⟩ = some (.int .i64 xs[k]))
theorem RI.at_ {w w' : World} {B : Nat} {A xs} (h : RI w B A xs) (hb : Below B w w') {k : Nat} (hk : k < xs.length) :
    ∃ b off, A = some ⟨b, off, none⟩ ∧ b < B ∧ w'.cell? ⟨b, off + k, none⟩ = some (.int .i64 xs[k]) := by
  obtain ⟨_, rfl | ⟨b, off, e, hB, hc⟩⟩ := h
  · simp at hk
  · exact ⟨b, off, e, hB, (bcell hb hB).trans (hc k hk)⟩
theorem RI.below {w w' : World} {B : Nat} {A xs} (h : RI w B A xs) (hb : Below B w w') : RI w' B A xs := by
  obtain ⟨h0, rfl | ⟨b, off, e, hB, hc⟩⟩ := h
  · exact ⟨h0, .inl rfl⟩
  · exact ⟨h0, .inr ⟨b, off, e, hB, fun k hk => (bcell hb hB).trans (hc k hk)⟩⟩
theorem RI.more {w : World} {B B' : Nat} {A xs} (h : RI w B A xs) (hB : B ≤ B') : RI w B' A xs := by
  obtain ⟨h0, h1 | ⟨b, off, e, hb, hc⟩⟩ := h
  · exact ⟨h0, .inl h1⟩
  · exact ⟨h0, .inr ⟨b, off, e, by omega, hc⟩⟩
theorem RI.later {w w' : World} {B : Nat} {A xs} (h : RI w B A xs) (hb : Below B w w') (hs : B ≤ w'.heap.size) : RI w' w'.heap.size A xs := (h.below hb).more hs
theorem RI.go {w w' : World} {A xs} (h : RI w w.heap.size A xs) (hb : Below w.heap.size w w') : RI w' w'.heap.size A xs := h.later hb hb.size
theorem below1 (w : World) (o : Obj) : Below w.heap.size w (w.alloc o) := (Below.refl _ _).alloc (Nat.le_refl _) _
theorem below2 (w : World) (o o' : Obj) : Below w.heap.size w ((w.alloc o).alloc o') := (below1 w o).alloc (by simp) _
theorem below3 (w : World) (o o' o'' : Obj) : Below w.heap.size w (((w.alloc o).alloc o').alloc o'') := (below2 w o o').alloc (by simp; omega) _

/-- Two jumps are equal; a name of its own, so that the walk leaves it whole. -/
def eqJ (a b : Int × Int) : Bool := a == b
theorem eqJ_mk (a b a' b' : Int) : eqJ (a, b) (a', b') = (a == a' && b == b') := rfl
theorem drop_step {α : Type} (l : List α) (k : Nat) (hk : k < l.length) : l.drop k = l[k] :: l.drop (k + 1) := List.drop_eq_getElem_cons hk
end Go.Proofs.Ytmiefdjbhcpnbaa

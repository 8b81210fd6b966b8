/-
  Boxes kept along a law's walk; marks on a board told so that a box behind its row stays. (L4 was this.)
-/
import Derived.Test.YteogfondnpfklaaL80
namespace Go.Proofs.Yteogfondnpfklaa
open Go.RowKit

/-- Block b holds these cells, whole. -/
def Box (w : World) (b : Nat) (cs : Array Value) (t : TypeId) : Prop := w.heap[b]? = some (.cells cs t (0, 0))
section
variable {w w' : World} {b : Nat} {cs : Array Value} {t : TypeId}
theorem Box.made (w : World) (cs : Array Value) (t : TypeId) : Box (w.alloc (.cells cs t)) w.heap.size cs t := heap_alloc_at _ _ _ rfl
theorem Box.madeL (_ : Box w b cs t) (ds : Array Value) (t' : TypeId) : Box (w.alloc (.cells ds t')) w.heap.size ds t' := heap_alloc_at _ _ _ rfl
theorem Box.lt (h : Box w b cs t) : b < w.heap.size := heap_lt h
theorem Box.go (h : Box w b cs t) (hx : Below w.heap.size w w') : Box w' b cs t := (hx.block _ h.lt).trans h
theorem Box.below {B : Nat} (h : Box w b cs t) (hx : Below B w w') (hb : b < B) : Box w' b cs t := (hx.block _ hb).trans h
theorem Box.alloc (h : Box w b cs t) (o : Obj) : Box (w.alloc o) b cs t := (Below.heap_alloc w o b h.lt).trans h
theorem Box.drew (h : Box w b cs t) : Box w.drew b cs t := h
theorem Box.grown {row : Option Nat} (h : Box w b cs t) (hg : w.grownBy w' row) (hne : some b ≠ row) : Box w' b cs t := (hg.block b h.lt hne).trans h
theorem Box.marked {tj : TypeId} {n : Nat} {row : Option Nat} (h : Box w b cs t) (hg : w.grownBy w' row) (hr : ∀ g, row = some g → ∃ F, RowQ w g tj n F) (ht : tj ≠ t) : Box w' b cs t := by
  refine h.grown hg fun e => ?_
  obtain ⟨F, ds, hd, _⟩ := hr b e.symm
  rw [h] at hd
  injection hd with hd; injection hd with _ hd _
  exact ht hd.symm
/-- Three cells of a block written. -/
abbrev set3 (w : World) (b : Nat) (v0 v1 v2 : Value) : World := ((w.setCell ⟨b, 0, none⟩ v0).setCell ⟨b, 1, none⟩ v1).setCell ⟨b, 2, none⟩ v2
theorem set3_heap (w : World) (b k : Nat) (v0 v1 v2 : Value) (h : k ≠ b) : (set3 w b v0 v1 v2).heap[k]? = w.heap[k]? :=
  (Below.heap_setCell _ _ _ _ h).trans ((Below.heap_setCell _ _ _ _ h).trans (Below.heap_setCell _ _ _ _ h))
theorem Box.set3 {g : Nat} (h : Box w b cs t) (hne : b ≠ g) (v0 v1 v2 : Value) : Box (set3 w g v0 v1 v2) b cs t := (set3_heap w g b v0 v1 v2 hne).trans h
theorem Box.set3t {g : Nat} {ds : Array Value} {t' : TypeId} (h : Box w b cs t) (k : Box w g ds t') (ht : t ≠ t') (v0 v1 v2 : Value) : Box (Go.Proofs.Yteogfondnpfklaa.set3 w g v0 v1 v2) b cs t :=
  (set3_heap w g b v0 v1 v2 (fun e => by
    subst e
    rw [Box, h] at k
    injection k with k; injection k with _ k _
    exact ht k)).trans h
theorem Box.set3s {x0 x1 x2 : Value} (h : Box w b #[x0, x1, x2] t) (v0 v1 v2 : Value) : Box (Go.Proofs.Yteogfondnpfklaa.set3 w b v0 v1 v2) b #[v0, v1, v2] t :=
  heap_set _ _ _ _ _ _ (heap_set _ _ _ _ _ _ (heap_set _ _ _ _ _ _ h))
theorem RowQ.set3 {g g1 n : Nat} {F : Nat → Qd} (h : RowQ w g1 t n F) (hne : g1 ≠ g) (v0 v1 v2 : Value) : RowQ (Go.Proofs.Yteogfondnpfklaa.set3 w g v0 v1 v2) g1 t n F := h.keep (set3_heap w g g1 v0 v1 v2 hne)
theorem OQ.set3 {g lo n : Nat} {tj : TypeId} {A : Option Addr} {F : Nat → Qd} (h : OQ w lo tj A n F) (k : Box w g cs t) (ht : tj ≠ t) (v0 v1 v2 : Value) : OQ (Go.Proofs.Yteogfondnpfklaa.set3 w g v0 v1 v2) lo tj A n F := by
  rcases h with h | ⟨g', e, hl, ds, hd, r⟩
  · exact .inl h
  · refine .inr ⟨g', e, hl, RowQ.set3 ⟨ds, hd, r⟩ (fun e => ?_) v0 v1 v2⟩
    rw [e, k] at hd
    injection hd with hd; injection hd with _ hd _
    exact ht hd.symm
theorem below_set3 {B n : Nat} {w0 : World} (h : Below B w0 w) (hb : B ≤ n) (v0 v1 v2 : Value) : Below B w0 (set3 w n v0 v1 v2) := ((h.setCell (by dsimp only; omega) _).setCell (by dsimp only; omega) _).setCell (by dsimp only; omega) _
theorem Box.cell (h : Box w b cs t) : ∀ i, w.cell? ⟨b, i, none⟩ = cs[i]? := fun i => cell_of_row w b i _ _ _ h
end

theorem RQ.later {w w' : World} {B : Nat} {A : Option Addr} {L : List Qd} (h : RQ w B A L) (hb : Below B w w') (hs : B ≤ w'.heap.size) : RQ w' w'.heap.size A L := (h.below hb).more hs
theorem OQ.lo {w : World} {lo lo' n : Nat} {t : TypeId} {A : Option Addr} {F : Nat → Qd} (h : OQ w lo t A n F) (hl : lo' ≤ lo) : OQ w lo' t A n F := h.from_ hl
theorem markPuzzle0_any (q f : Int) (A : Option Addr) (n c : Nat) (k0 : Int) (w : World) (hn : n = 0) (h0 : 0 ≤ k0) (h1 : k0 ≤ 1000000000) :
    Calls Try.prog 18 #[.agg #[.int .i64 q, .int .i64 f, .slice A n c], .int .i64 k0] w fun e w' => e = .returned (.int .i64 (k0 + 4 * n)) ∧ Below w.heap.size w w' := by
  have ha : OQ (w.alloc (.cells #[.int .i64 q, .int .i64 f, .slice A n c] 28)) (w.heap.size + 1) 44 A n (fun _ => zeroQ) := .inl hn
  have hn2 : n ≤ 1048576 := by omega
  clear hn
  go_enter Try.func18, Try.ntmps18
  go_wp2_with (go_at_call 61; refine (markClueS_any _ _ _ _ _ _ _ ha hn2 h0 h1).mono ?_; rintro e w2 ⟨rfl, ho, hg, _, hb⟩)
  go_ret
  exact ⟨rfl, (below1 _ _).trans (hb _ (by omega))⟩
/-- Marks: nothing is written but the row, if there is one. -/
theorem markPuzzleK_any (q f : Int) (A : Option Addr) (n c lo : Nat) (F : Nat → Qd) (k0 : Int) (w : World) (h : OQ w lo 44 A n F) (hlo : lo ≤ w.heap.size) (hn : n ≤ 1048576) (h0 : 0 ≤ k0) (h1 : k0 ≤ 1000000000) :
    Calls Try.prog 18 #[.agg #[.int .i64 q, .int .i64 f, .slice A n c], .int .i64 k0] w fun e w' =>
      e = .returned (.int .i64 (k0 + 4 * n)) ∧ OQ w' lo 44 A n (marksQ k0) ∧ Below lo w w' ∧ ∃ row, w.grownBy w' row ∧ ∀ g, row = some g → lo ≤ g ∧ ∃ F', RowQ w g 44 n F' := by
  by_cases hz : n = 0
  · refine (markPuzzle0_any q f A n c k0 w hz h0 h1).mono ?_
    rintro e w' ⟨rfl, hx⟩
    exact ⟨rfl, .inl hz, hx.mono hlo, none, below_grown hx none, fun g e => by cases e⟩
  · obtain ⟨g, rfl, hg, hr⟩ := h.resolve_left hz
    refine (markPuzzle_any q f (some ⟨g, 0, none⟩) n c lo F k0 w (.inr ⟨g, rfl, hg, hr⟩) hn h0 h1).mono ?_
    rintro e w' ⟨rfl, ho, hgr⟩
    have hgr' : w.grownBy w' (some g) := hgr
    exact ⟨rfl, ho, grown_below hgr' hlo (fun k e => by cases e; exact hg), some g, hgr', fun k e => by cases e; exact ⟨hg, F, hr⟩⟩
end Go.Proofs.Yteogfondnpfklaa

/-
  The methods of a course: holds, hasFace, behind.
-/
import Derived.Test.YtblpfjjnlfjloaaC1c
import Derived.Deep.QuietTactic
import Derived.BigQuiet
namespace Go.Proofs.Ytblpfjjnlfjloaa
open Go.RowKit

theorem CA.at_ {w : World} {g : Nat} {s f o : Int} {G : Nat → Int} (h : CA w g s f o G) {i : Nat} (hi : i < 101) : w.cell? ⟨g, 3 + i, none⟩ = some (.int .i64 (G i)) := (cell_of_row _ _ (3 + i) _ _ _ h).trans (crs_at s f o _ i hi)
theorem CA.sq {w : World} {g : Nat} {s f o : Int} {G : Nat → Int} (h : CA w g s f o G) : w.cell? ⟨g, 0, none⟩ = some (.int .i64 s) := (cell_of_row _ _ 0 _ _ _ h).trans (crs_0 s f o _)
theorem CA.fa {w : World} {g : Nat} {s f o : Int} {G : Nat → Int} (h : CA w g s f o G) : w.cell? ⟨g, 1, none⟩ = some (.int .i64 f) := (cell_of_row _ _ 1 _ _ _ h).trans (crs_1 s f o _)
theorem CA.ov {w : World} {g : Nat} {s f o : Int} {G : Nat → Int} (h : CA w g s f o G) : w.cell? ⟨g, 2, none⟩ = some (.int .i64 o) := (cell_of_row _ _ 2 _ _ _ h).trans (crs_2 s f o _)
theorem CA.below {w w' : World} {g B : Nat} {s f o : Int} {G : Nat → Int} (h : CA w g s f o G) (hb : Below B w w') (hg : g < B) : CA w' g s f o G := (hb.block g hg).trans h
theorem CA.lt {w : World} {g : Nat} {s f o : Int} {G : Nat → Int} (h : CA w g s f o G) : g < w.heap.size := heap_lt h

/-- A course that lies at the start of block g, of a course's own or of a walk's. -/
structure CV (w : World) (g : Nat) (s f o : Int) (G : Nat → Int) : Prop where
  sq : w.cell? ⟨g, 0, none⟩ = some (.int .i64 s)
  fa : w.cell? ⟨g, 1, none⟩ = some (.int .i64 f)
  ov : w.cell? ⟨g, 2, none⟩ = some (.int .i64 o)
  at_ : ∀ {i : Nat}, i < 101 → w.cell? ⟨g, 3 + i, none⟩ = some (.int .i64 (G i))
theorem CA.cv {w : World} {g : Nat} {s f o : Int} {G : Nat → Int} (h : CA w g s f o G) : CV w g s f o G := ⟨h.sq, h.fa, h.ov, fun hi => h.at_ hi⟩

theorem CV.below {w w' : World} {g B : Nat} {s f o : Int} {G : Nat → Int} (h : CV w g s f o G) (hb : Below B w w') (hg : g < B) : CV w' g s f o G := ⟨(bcell hb hg).trans h.sq, (bcell hb hg).trans h.fa, (bcell hb hg).trans h.ov, fun hi => (bcell hb hg).trans (h.at_ hi)⟩
theorem CV.drewN {w : World} {g : Nat} {s f o : Int} {G : Nat → Int} (h : CV w g s f o G) (n : Nat) : CV (w.drewN n) g s f o G := ⟨h.sq, h.fa, h.ov, fun hi => h.at_ hi⟩




/-- A course is stored into the block that was made last. -/
theorem storeCourse (s f o : Int) (G : Nat → Int) (w : World) : (storeCells ⟨w.heap.size, 0, none⟩ (crsCells s f o G).toList 0).run Try.prog (w.alloc (.cells Try.zeroCells58 58)) = .ok () (w.alloc (.cells (crsCells s f o G) 58)) :=
  run_storeCells_new w _ _ _ (by rw [crs_size]; exact sizeCourse) (by rw [courseZero, crs_size, crs_size]) (Array.all_eq_true_iff_forall_mem.2 fun u hu => crs_one _ _ _ _ u (Array.mem_toList_iff.2 hu))


end Go.Proofs.Ytblpfjjnlfjloaa

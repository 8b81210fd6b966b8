/-
  The methods of a course: holds, hasFace, behind.
-/
import Derived.Test.YtbblmbibddjedacDoorC1c
import Derived.Deep.QuietTactic
import Derived.BigQuiet
namespace Go.Proofs.YtbblmbibddjedacDoor
open Go.RowKit

theorem CA.at_ {w : World} {g : Nat} {s f o : Int} {G : Nat → Int} (h : CA w g s f o G) {i : Nat} (hi : i < 101) : w.cell? ⟨g, 3 + i, none⟩ = some (.int .i64 (G i)) := (cell_of_row _ _ (3 + i) _ _ _ h).trans (crs_at s f o _ i hi)
theorem CA.sq {w : World} {g : Nat} {s f o : Int} {G : Nat → Int} (h : CA w g s f o G) : w.cell? ⟨g, 0, none⟩ = some (.int .i64 s) := (cell_of_row _ _ 0 _ _ _ h).trans (crs_0 s f o _)
theorem CA.fa {w : World} {g : Nat} {s f o : Int} {G : Nat → Int} (h : CA w g s f o G) : w.cell? ⟨g, 1, none⟩ = some (.int .i64 f) := (cell_of_row _ _ 1 _ _ _ h).trans (crs_1 s f o _)
theorem CA.ov {w : World} {g : Nat} {s f o : Int} {G : Nat → Int} (h : CA w g s f o G) : w.cell? ⟨g, 2, none⟩ = some (.int .i64 o) := (cell_of_row _ _ 2 _ _ _ h).trans (crs_2 s f o _)
theorem CA.below {w w' : World} {g B : Nat} {s f o : Int} {G : Nat → Int} (h : CA w g s f o G) (hb : Below B w w') (hg : g < B) : CA w' g s f o G := (hb.block g hg).trans h
theorem CA.lt {w : World} {g : Nat} {s f o : Int} {G : Nat → Int} (h : CA w g s f o G) : g < w.heap.size := heap_lt h

/-- A course that lies at the start of block g, of a course's own or of a walk's. -/
structure CV (w : World) (g : Nat) (s f o : Int) (G : Nat → Int) : Prop where
  sq : w.cell? ⟨g, 0, none⟩ = some (.int .i64 s)
  fa : w.cell? ⟨g, 1, none⟩ = some (.int .i64 f)
  ov : w.cell? ⟨g, 2, none⟩ = some (.int .i64 o)
  at_ : ∀ {i : Nat}, i < 101 → w.cell? ⟨g, 3 + i, none⟩ = some (.int .i64 (G i))
theorem CA.cv {w : World} {g : Nat} {s f o : Int} {G : Nat → Int} (h : CA w g s f o G) : CV w g s f o G := ⟨h.sq, h.fa, h.ov, fun hi => h.at_ hi⟩

theorem CV.below {w w' : World} {g B : Nat} {s f o : Int} {G : Nat → Int} (h : CV w g s f o G) (hb : Below B w w') (hg : g < B) : CV w' g s f o G := ⟨(bcell hb hg).trans h.sq, (bcell hb hg).trans h.fa, (bcell hb hg).trans h.ov, fun hi => (bcell hb hg).trans (h.at_ hi)⟩
theorem CV.drewN {w : World} {g : Nat} {s f o : Int} {G : Nat → Int} (h : CV w g s f o G) (n : Nat) : CV (w.drewN n) g s f o G := ⟨h.sq, h.fa, h.ov, fun hi => h.at_ hi⟩
theorem holds_any (g : Nat) (s f o : Int) (js : List (Int × Int)) (sq : Int) (w : World) (hC : CV w g s f o (fun i => jumpOf js i)) (hs : s ≤ 100) :
    Calls Tryd.prog 55 #[.pointer (some ⟨g, 0, none⟩), .int .i64 sq] w fun e w' => e = .returned (.bool (onSq s js sq)) ∧ w = w' := by
  have c0 := hC.sq
  by_cases h0 : 0 ≤ sq
  · obtain ⟨n, rfl⟩ := Int.eq_ofNat_of_zero_le h0
    have g0 : decide ((0 : Int) ≤ n) = true := by simp
    by_cases h1 : (n : Int) ≤ s
    · have c1 := hC.at_ (i := n) (by omega)
      have g1 : decide ((n : Int) ≤ s) = true := by simpa using h1
      go_enter Tryd.func55, Tryd.ntmps55
      go_wp2
      go_ret
      exact ⟨ret_bool (by simp [onSq, inB, h1]), rfl⟩
    · have g1 : decide ((n : Int) ≤ s) = false := by simpa using h1
      go_enter Tryd.func55, Tryd.ntmps55
      go_wp2
      go_ret
      exact ⟨ret_bool (by rw [onSq, inB, g1, Bool.and_false, Bool.false_and]), rfl⟩
  · have g0 : decide ((0 : Int) ≤ sq) = false := by simpa using h0
    go_enter Tryd.func55, Tryd.ntmps55
    go_wp2
    go_ret
    exact ⟨ret_bool (by rw [onSq, inB, g0, Bool.false_and, Bool.false_and]), rfl⟩




/-- A course is stored into the block that was made last. -/
theorem storeCourse (s f o : Int) (G : Nat → Int) (w : World) : (storeCells ⟨w.heap.size, 0, none⟩ (crsCells s f o G).toList 0).run Tryd.prog (w.alloc (.cells Tryd.zeroCells69 69)) = .ok () (w.alloc (.cells (crsCells s f o G) 69)) :=
  run_storeCells_new w _ _ _ (by rw [crs_size]; exact sizeCourse) (by rw [courseZero, crs_size, crs_size]) (Array.all_eq_true_iff_forall_mem.2 fun u hu => crs_one _ _ _ _ u (Array.mem_toList_iff.2 hu))


end Go.Proofs.YtbblmbibddjedacDoor

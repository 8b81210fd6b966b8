/-
  The program: ThrowTo.
-/
import Derived.Test.YteogfondnpfklaaC1h
namespace Go.Proofs.Yteogfondnpfklaa
open Go.RowKit

set_option maxRecDepth 100000 in
set_option maxHeartbeats 400000 in
theorem implThrowTo_any (s f o : Int) (A : Option Addr) (c : Nat) (sq face : Int) (js : List (Int × Int)) (w : World) (hj : RJ w w.heap.size A js) :
    Calls Try.prog 119 #[.agg #[.int .i64 s, .int .i64 f, .int .i64 o, .slice A js.length c], .int .i64 sq, .int .i64 face] w fun e w' => e = .returned (.tuple #[.int .i64 (throwTo s f o js sq face).1, .bool (throwTo s f o js sq face).2]) ∧ Below w.heap.size w w' := by
  have hl := hj.1
  cases ha : asked s f o js sq
  · have ht : throwTo s f o js sq face = (0, false) := by rw [throwTo, ha]; rfl
    have HT := Lib.hid ht; clear ht
    rw [HT.out]
    have hst := storeCourse 0 0 0 (fun _ => 0)
    go_enter Try.func119, Try.ntmps119
    go_wp2_with fail
    refine (courseAt_no _ _ _ _ _ _ _ _ (hj.go (below1 _ _)) ha).mono ?_
    rintro e w2 ⟨rfl, hx⟩
    go_wp2
    go_ret2
    exact ⟨rfl, ((below1 _ _).trans (hx.mono (by simp))).alloc (by have := hx.size; simp at this; omega) _⟩
  · have hz := good_sizes (asked_good ha)
    have hq := onSq_in (asked_on ha)
    have hst := storeCourse s f o (fun i => jumpOf js i)
    cases hi : inB face 1 f
    · have ht : throwTo s f o js sq face = (0, false) := by rw [throwTo, ha, hi]; rfl
      have HT := Lib.hid ht; clear ht
      rw [HT.out]
      go_enter Try.func119, Try.ntmps119
      go_wp2_with fail
      refine (courseAt_yes _ _ _ _ _ _ _ _ (hj.go (below1 _ _)) ha).mono ?_
      rintro e w2 ⟨rfl, hx⟩
      have hCn : CA (w2.alloc (.cells (crsCells s f o (fun i => jumpOf js i)) 138)) w2.heap.size s f o (fun i => jumpOf js i) := heap_alloc_at _ _ _ rfl
      go_wp2_with (go_at_call 133; refine (hasFace_any _ _ _ _ _ _ _ hCn.cv).mono ?_; rintro e w' ⟨rfl, rfl⟩)
      go_ret2
      exact ⟨rfl, ((below1 _ _).trans (hx.mono (by simp))).alloc (by have := hx.size; simp at this; omega) _⟩
    · have hf := inB_iff.1 hi
      have ht : throwTo s f o js sq face = (thrown s o js sq face, true) := by rw [throwTo, ha, hi]; rfl
      have HT := Lib.hid ht; clear ht
      rw [HT.out]
      go_enter Try.func119, Try.ntmps119
      go_wp2_with fail
      refine (courseAt_yes _ _ _ _ _ _ _ _ (hj.go (below1 _ _)) ha).mono ?_
      rintro e w2 ⟨rfl, hx⟩
      have hCn : CA (w2.alloc (.cells (crsCells s f o (fun i => jumpOf js i)) 138)) w2.heap.size s f o (fun i => jumpOf js i) := heap_alloc_at _ _ _ rfl
      go_wp2_with (first | (go_at_call 133; refine (hasFace_any _ _ _ _ _ _ _ hCn.cv).mono ?_; rintro e w' ⟨rfl, rfl⟩) | (go_at_call 137; refine (behind_bel _ _ _ _ _ _ _ _ hCn.cv hz.1.1 hz.1.2 hz.2.2.1.1 hz.2.2.1.2 hq.1 hq.2 (good_end (asked_good ha)) (onSq_fix (asked_on ha)) hf.1 (by omega)).mono ?_; rintro e w' ⟨rfl, hxd, hsd⟩))
      go_ret2
      exact ⟨rfl, (((below1 _ _).trans (hx.mono (by simp))).alloc (by have := hx.size; simp at this; omega) _).trans (hxd.mono (by have := hx.size; simp at this ⊢; omega))⟩
end Go.Proofs.Yteogfondnpfklaa

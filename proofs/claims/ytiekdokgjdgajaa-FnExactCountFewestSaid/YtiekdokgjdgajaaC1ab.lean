/-
  CountFewest, the program's.
-/
import Derived.Test.YtiekdokgjdgajaaC1aa
namespace Go.Proofs.Ytiekdokgjdgajaa
open Go.RowKit

/-- The number of the shortest lists. -/
def CountR (s f o : Int) (js : List (Int × Int)) (q : Nat) (R : Int × Bool) : Prop :=
  (∃ t, DistB s f o js q t ∧ CntIs (pl s f o js q t s) R) ∨ (R = (0, true) ∧ ∀ t, ¬ Way (eB s f o js) q t s.toNat)

set_option maxRecDepth 100000 in
theorem implCountFewest_no (s f o : Int) (A : Option Addr) (c : Nat) (sq : Int) (js : List (Int × Int)) (w : World) (hj : RJ w w.heap.size A js) (ha : asked s f o js sq = false) :
    Calls Try.prog 49 #[.agg #[.int .i64 s, .int .i64 f, .int .i64 o, .slice A js.length c], .int .i64 sq] w (NumIs w (0, false)) := by
  have hl := hj.1
  have hst := storeCourse 0 0 0 (fun _ => 0)
  have HA := Lib.hid ha; clear ha
  go_enter Try.func49, Try.ntmps49
  go_wp2_with fail
  refine (courseAt_no _ _ _ _ _ _ _ _ (hj.go (below1 _ _)) HA.out).mono ?_
  rintro e w2 ⟨rfl, hx⟩
  go_wp2
  go_ret2
  exact ⟨rfl, ((below1 _ _).trans (hx.mono (by simp))).alloc (by have := hx.size; simp at this; omega) _⟩

set_option maxRecDepth 100000 in
set_option maxHeartbeats 1000000 in
theorem implCountFewest_yes (s f o : Int) (A : Option Addr) (c : Nat) (q : Nat) (js : List (Int × Int)) (R : Int × Bool) (w : World) (hj : RJ w w.heap.size A js) (ha : asked s f o js q = true) (hR : CountR s f o js q R) :
    Calls Try.prog 49 #[.agg #[.int .i64 s, .int .i64 f, .int .i64 o, .slice A js.length c], .int .i64 q] w (NumIs w R) := by
  have hl := hj.1
  have hst := storeCourse s f o (fun i => jumpOf js i)
  have hz := good_sizes (asked_good ha)
  have hq := onSq_in (asked_on ha)
  have iq : (q : Int) < 101 := by omega
  have iqn : q < 101 := by omega
  have hpl : Try.zeroCells66.setIfInBounds q (.int .i64 1) = arrN (fun i => sat (pl s f o js q 0 i)) := by
    rw [arrNZero, arrN_set _ iqn]
    refine arrN_congr fun i _ => ?_
    by_cases e : i = q
    · subst e
      rw [if_pos rfl, pl, if_pos rfl]; rfl
    · rw [if_neg e, pl, if_neg (by omega)]; rfl
  have HA := Lib.hid ha; have HR := Lib.hid hR; have HPL := Lib.hid hpl; clear ha hR hpl
  go_enter Try.func49, Try.ntmps49
  go_wp2_with fail
  refine (courseAt_yes _ _ _ _ _ _ _ _ (hj.go (below1 _ _)) HA.out).mono ?_
  rintro e w2 ⟨rfl, hx⟩
  have hs2 : w.heap.size < w2.heap.size := by have := hx.size; simp at this; omega
  have hCn : CA (w2.alloc (.cells (crsCells s f o (fun i => jumpOf js i)) 68)) w2.heap.size s f o (fun i => jumpOf js i) := heap_alloc_at _ _ _ rfl
  have hB2 : Below w.heap.size w (w2.alloc (.cells (crsCells s f o (fun i => jumpOf js i)) 68)) := ((below1 _ _).trans (hx.mono (by simp))).alloc (by omega) _
  clear hx
  go_wp2_with fail
  refine (fewest_any _ _ _ _ _ _ _ hCn.cv (by simp) HA.out).mono ?_
  rintro e w3 ⟨n, ok, rfl, hr, hx3⟩
  have hB3 := hB2.trans (hx3.mono (by simp; omega))
  have hC3 := hCn.below hx3 (by simp)
  have hs3 : w2.heap.size < w3.heap.size := hC3.lt
  clear hx3 hCn hB2
  rcases hr with ⟨rfl, T, rfl, hd⟩ | ⟨rfl, rfl, hno⟩
  · have hdq : DistB s f o js q T := hd
    have hcnt : CntIs (pl s f o js q T s) R := by
      rcases HR.out with ⟨t, hd, h⟩ | ⟨_, hw⟩
      · rw [Least.uniq hdq hd]; exact h
      · exact absurd hdq.1 (hw _)
    have hT := hdq.lt (asked_good HA.out) (okB_of (asked_on HA.out))
    have hT1 : T ≤ 100 := by omega
    have HCNT := Lib.hid hcnt
    clear hd hdq hT hcnt
    have hL4 : (w3.alloc (.cells (Try.zeroCells66.setIfInBounds q (.int .i64 1)) 66)).heap[w3.heap.size]? = some (.cells (Try.zeroCells66.setIfInBounds q (.int .i64 1)) 66 (0, 0)) := heap_alloc_at _ _ _ rfl
    go_wp2_with (first
      | (refine wpList_load_row rfl 66 _ rfl w3.heap.size rfl _ _ _ _ hL4 Try.underlying66 rfl ?_ ?_; (rw [HPL.out, arrN_size]; exact sizeSquares))
      | (go_at_call 87; rw [HPL.out]; refine (listsToEnd_any _ _ _ _ _ _ _ _ _ (CA.cv ((Below.heap_alloc _ _ _ hs3).trans hC3)) (by simp; omega) HA.out hT1 HCNT.out).mono ?_; rintro e w5 ⟨rfl, hx5⟩))
    go_ret2
    exact ⟨rfl, (hB3.alloc (by omega) _).trans (hx5.mono (by simp; omega))⟩
  · have hr : R = (0, true) := by
      rcases HR.out with ⟨t, hd, _⟩ | ⟨e, _⟩
      · exact absurd hd.1 (hno _)
      · exact e
    subst hr
    clear hno
    go_wp2
    go_ret2
    exact ⟨rfl, hB3⟩
end Go.Proofs.Ytiekdokgjdgajaa

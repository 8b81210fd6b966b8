/-
  The console: FirstDesk on both sides, and its law, walked.
-/
import Derived.Test.YtjngiinfpoappaaL11
import Derived.Test.YtjngiinfpoappaaL2
import Derived.Test.YtjngiinfpoappaaWRow
namespace Go.Proofs.Ytjngiinfpoappaa
open Go.RowKit

/-- The jumps of the first desk. -/
def fdJ : List (Int × Int) := [(3, 8), (9, 2)]
theorem fdJ_wf : wfJ fdJ := by
  intro j hj
  rw [fdJ] at hj
  simp only [List.mem_cons, List.not_mem_nil, or_false] at hj
  rcases hj with rfl | rfl <;> exact ⟨wfi_of (by decide) (by decide), wfi_of (by decide) (by decide)⟩
theorem fd_rj {w : World} {g : Nat} (h : RowJ w g 101 2 (fun k => fdJ.getD k (0, 0))) : RJ w w.heap.size (some ⟨g, 0, none⟩) fdJ := h.rj rfl (by decide) fdJ_wf
/-- The first desk is handed back, its jumps in a row of the call's own. -/
def FdBack (w : World) (e : Ending) (w' : World) : Prop := ∃ g, e = .returned (.agg #[.int .i64 10, .int .i64 3, .int .i64 0, .slice (some ⟨g, 0, none⟩) 2 2, .int .i64 0]) ∧ w.heap.size ≤ g ∧ RowJ w' g 101 2 (fun k => fdJ.getD k (0, 0)) ∧ Below w.heap.size w w'
theorem fd_row (w : World) (g : Nat) (hg : g = w.heap.size) : RowJ (w.alloc (.cells #[.int .i64 3, .int .i64 8, .int .i64 9, .int .i64 2] 101)) g 101 2 (fun k => fdJ.getD k (0, 0)) :=
  ⟨_, heap_alloc_at w _ g hg, by decide, fun k hk => by
    rcases (show k = 0 ∨ k = 1 by omega) with rfl | rfl <;> exact ⟨rfl, rfl⟩⟩

set_option maxRecDepth 100000 in
theorem specFirstDesk_any (w : World) : Calls Try.prog 54 #[] w (FdBack w) := by
  have hr := fd_row (w.alloc (.cells #[.int .i64 10, .int .i64 3, .int .i64 0, .slice (some ⟨w.heap.size + 1, 0, none⟩) 2 2, .int .i64 0] 66)) (w.heap.size + 1) (by simp)
  have hb := below2 w (.cells #[.int .i64 10, .int .i64 3, .int .i64 0, .slice (some ⟨w.heap.size + 1, 0, none⟩) 2 2, .int .i64 0] 66) (.cells #[.int .i64 3, .int .i64 8, .int .i64 9, .int .i64 2] 101)
  have HR := Lib.hid hr; have HB := Lib.hid hb
  clear hr hb
  go_enter Try.func54, Try.ntmps54
  go_wp2
  exact bodyPost_ret (v := .agg #[.int .i64 10, .int .i64 3, .int .i64 0, .slice (some ⟨w.heap.size + 1, 0, none⟩) 2 2, .int .i64 0]) (by simp [results, Try.results54, go_sem]) rfl
    ⟨w.heap.size + 1, rfl, by omega, by repeat (first | with_reducible exact HR.out | refine RowJ.far ?_ (by dsimp only; omega) _), by repeat (first | with_reducible exact HB.out | refine Below.setCell ?_ (by dsimp only; omega) _)⟩
set_option maxRecDepth 100000 in
theorem implFirstDesk_any (w : World) : Calls Try.prog 55 #[] w (FdBack w) := by
  have hr := fd_row (w.alloc (.cells #[.int .i64 10, .int .i64 3, .int .i64 0, .slice (some ⟨w.heap.size + 1, 0, none⟩) 2 2, .int .i64 0] 66)) (w.heap.size + 1) (by simp)
  have hb := below2 w (.cells #[.int .i64 10, .int .i64 3, .int .i64 0, .slice (some ⟨w.heap.size + 1, 0, none⟩) 2 2, .int .i64 0] 66) (.cells #[.int .i64 3, .int .i64 8, .int .i64 9, .int .i64 2] 101)
  have HR := Lib.hid hr; have HB := Lib.hid hb
  clear hr hb
  go_enter Try.func55, Try.ntmps55
  go_wp2
  exact bodyPost_ret (v := .agg #[.int .i64 10, .int .i64 3, .int .i64 0, .slice (some ⟨w.heap.size + 1, 0, none⟩) 2 2, .int .i64 0]) (by simp [results, Try.results55, go_sem]) rfl
    ⟨w.heap.size + 1, rfl, by omega, by repeat (first | with_reducible exact HR.out | refine RowJ.far ?_ (by dsimp only; omega) _), by repeat (first | with_reducible exact HB.out | refine Below.setCell ?_ (by dsimp only; omega) _)⟩

set_option maxHeartbeats 400000 in
theorem markDesk_any (s f o sq : Int) (A : Option Addr) (n c lo : Nat) (F : Nat → Int × Int) (k0 : Int) (w : World) (h : OJ w lo 101 A n F) (hn : n ≤ 1048576) (h0 : 0 ≤ k0) (h1 : k0 ≤ 1000000000) :
    Calls Try.prog 56 #[.agg #[.int .i64 s, .int .i64 f, .int .i64 o, .slice A n c, .int .i64 sq], .int .i64 k0] w fun e w' => e = .returned (.int .i64 (k0 + 2 * n)) ∧ OJ w' lo 101 A n (marksJ k0) ∧ w.grownBy w' (A.map (·.block)) := by
  have ha : OJ (w.alloc (.cells #[.int .i64 s, .int .i64 f, .int .i64 o, .slice A n c, .int .i64 sq] 66)) lo 101 A n F := by
    rcases h with h | ⟨g, e, hl, h⟩
    · exact .inl h
    · exact .inr ⟨g, e, hl, h.alloc _⟩
  go_enter Try.func56, Try.ntmps56
  go_wp2_with (go_at_call 31; go_loud (refine (markBoard_any s f o A n c lo F k0 _ ha hn h0 h1).mono ?_; rintro e w2 ⟨rfl, ho, hg⟩))
  go_ret
  exact ⟨rfl, ho, grown_trans (World.grownBy_alloc w _ _) hg⟩
set_option maxHeartbeats 400000 in
theorem heldDesk_any (s f o sq : Int) (A : Option Addr) (n c lo : Nat) (k0 : Int) (w : World) (h : OJ w lo 101 A n (marksJ k0)) (hn : n ≤ 1048576) (h0 : 0 ≤ k0) (h1 : k0 ≤ 1000000000) :
    Calls Try.prog 57 #[.agg #[.int .i64 s, .int .i64 f, .int .i64 o, .slice A n c, .int .i64 sq], .int .i64 k0] w fun e w' => e = .returned (.int .i64 (k0 + 2 * n)) ∧ Below w.heap.size w w' := by
  have ha : OJ (w.alloc (.cells #[.int .i64 s, .int .i64 f, .int .i64 o, .slice A n c, .int .i64 sq] 66)) lo 101 A n (marksJ k0) := h.below (below1 _ _) (Nat.le_refl _)
  have h2 : ¬ k0 + 2 * n < 0 := by omega
  go_enter Try.func57, Try.ntmps57
  go_wp2_with (go_at_call 32; go_loud (refine (heldBoard_any s f o A n c lo k0 _ ha hn h0 h1).mono ?_; rintro e w2 ⟨rfl, hx⟩))
  go_ret
  exact ⟨rfl, (below1 _ _).trans (hx.mono (by simp))⟩
theorem eqFd_any (g g' : Nat) (w : World) (h : RJ w w.heap.size (some ⟨g, 0, none⟩) fdJ) (h' : RJ w w.heap.size (some ⟨g', 0, none⟩) fdJ) :
    Calls Try.prog 53 #[.agg #[.int .i64 10, .int .i64 3, .int .i64 0, .slice (some ⟨g, 0, none⟩) 2 2, .int .i64 0], .agg #[.int .i64 10, .int .i64 3, .int .i64 0, .slice (some ⟨g', 0, none⟩) 2 2, .int .i64 0]] w fun e w' => e = .returned (.bool true) ∧ Below w.heap.size w w' := by
  have := eqDesk_any 10 3 0 0 10 3 0 0 (some ⟨g, 0, none⟩) (some ⟨g', 0, none⟩) 2 2 fdJ fdJ w h h'
  rwa [show ((10 : Int) == 10 && (3 : Int) == 3 && (0 : Int) == 0 && fdJ == fdJ && ((0 : Int) == 0)) = true by simp, show fdJ.length = 2 from rfl] at this

set_option maxRecDepth 100000 in
set_option maxHeartbeats 1000000 in
theorem lawFirstDesk (w : World) : Calls Try.prog 14 #[] w fun e w' => e = .returned (.bool true) ∧ Below w.heap.size w w' := by
  go_enter Try.func14, Try.ntmps14
  go_wp2_with fail
  refine (specFirstDesk_any _).mono ?_
  rintro e w1 ⟨g1, rfl, hg1, r1, hx1⟩
  have k1 := heap_alloc_at w1 (.cells #[.int .i64 10, .int .i64 3, .int .i64 0, .slice (some ⟨g1, 0, none⟩) 2 2, .int .i64 0] 66) _ rfl
  have r1a := r1.alloc (.cells #[.int .i64 10, .int .i64 3, .int .i64 0, .slice (some ⟨g1, 0, none⟩) 2 2, .int .i64 0] 66)
  have b1 := hx1.alloc hx1.size (.cells #[.int .i64 10, .int .i64 3, .int .i64 0, .slice (some ⟨g1, 0, none⟩) 2 2, .int .i64 0] 66)
  have l1 := r1.lt
  go_wp2_with fail
  refine (implFirstDesk_any _).mono ?_
  rintro e w2 ⟨g2, rfl, hg2, r2, hx2⟩
  simp only [World.size_alloc] at hg2 hx2
  have s2 : w1.heap.size + 1 ≤ w2.heap.size := by have := hx2.size; simpa using this
  have l2 := r2.lt
  have hww : w.heap.size ≤ g2 := by have := hx1.size; omega
  have k12 := (hx2.block w1.heap.size (by omega)).trans k1
  have r12 := r1a.below hx2 (by omega)
  have b2 := b1.trans (hx2.mono (by have := hx1.size; omega))
  have k2 := heap_alloc_at w2 (.cells #[.int .i64 10, .int .i64 3, .int .i64 0, .slice (some ⟨g2, 0, none⟩) 2 2, .int .i64 0] 66) _ rfl
  have k1a := (Below.heap_alloc w2 (.cells #[.int .i64 10, .int .i64 3, .int .i64 0, .slice (some ⟨g2, 0, none⟩) 2 2, .int .i64 0] 66) _ (heap_lt k12)).trans k12
  have r1b := r12.alloc (.cells #[.int .i64 10, .int .i64 3, .int .i64 0, .slice (some ⟨g2, 0, none⟩) 2 2, .int .i64 0] 66)
  have r2b := r2.alloc (.cells #[.int .i64 10, .int .i64 3, .int .i64 0, .slice (some ⟨g2, 0, none⟩) 2 2, .int .i64 0] 66)
  have b3 := b2.alloc b2.size (.cells #[.int .i64 10, .int .i64 3, .int .i64 0, .slice (some ⟨g2, 0, none⟩) 2 2, .int .i64 0] 66)
  have q1 := fun i => cell_of_row w2 w1.heap.size i _ _ _ k12
  have h12 : w1.heap.size < w2.heap.size := by omega
  clear k1 r1a b1 hx1 hx2 r12 r2 r1
  go_wp2_with fail
  obtain ⟨V, hV⟩ : ∃ V, V = w2.alloc (.cells #[.int .i64 10, .int .i64 3, .int .i64 0, .slice (some ⟨g2, 0, none⟩) 2 2, .int .i64 0] 66) := ⟨_, rfl⟩
  rw [← hV] at k2 k1a r1b r2b b3 ⊢
  clear hV q1 k12 b2
  refine (eqFd_any g2 g1 V (fd_rj r2b) (fd_rj r1b)).mono ?_
  rintro e w3 ⟨rfl, hx3⟩
  have k13 := (hx3.block _ (heap_lt k1a)).trans k1a
  have k23 := (hx3.block _ (heap_lt k2)).trans k2
  have r13 := r1b.below hx3 r1b.lt
  have r23 := r2b.below hx3 r2b.lt
  have b4 := b3.trans (hx3.mono b3.size)
  have q2 := fun i => cell_of_row w3 w2.heap.size i _ _ _ k23
  clear k2 k1a r1b r2b b3 hx3
  go_wp2_with fail
  refine (markDesk_any 10 3 0 0 (some ⟨g2, 0, none⟩) 2 2 (w1.heap.size + 1) _ 1 w3 (.inr ⟨g2, rfl, by omega, r23⟩) (by decide) (by decide) (by decide)).mono ?_
  rintro e w4 ⟨rfl, o4, hg4⟩
  replace hg4 : w3.grownBy w4 (some g2) := hg4
  have k14 := (hg4.block _ (heap_lt k13) (fun e => by injection e with e; omega)).trans k13
  have k24 := (hg4.block _ (heap_lt k23) (fun e => by injection e with e; omega)).trans k23
  have r14 := r13.grown hg4 (fun e => by injection e with e; omega)
  have b5 := b4.grown hg4 b4.size (fun g e => by injection e with e; omega)
  have q24 := fun i => cell_of_row w4 w2.heap.size i _ _ _ k24
  clear q2 k13 k23 r13 r23 b4
  go_wp2_with fail
  refine (heldDesk_any 10 3 0 0 (some ⟨g2, 0, none⟩) 2 2 (w1.heap.size + 1) 1 w4 o4 (by decide) (by decide) (by decide)).mono ?_
  rintro e w5 ⟨rfl, hx5⟩
  have k15 := (hx5.block _ (heap_lt k14)).trans k14
  have k25 := (hx5.block _ (heap_lt k24)).trans k24
  have r15 := r14.below hx5 r14.lt
  have o5 := o4.below hx5 (Nat.le_refl _)
  have b6 := b5.trans (hx5.mono b5.size)
  clear q24 k14 k24 r14 o4 b5 hx5
  go_wp2_with fail
  refine (implFirstDesk_any _).mono ?_
  rintro e w6 ⟨g6, rfl, hg6, r6, hx6⟩
  have k16 := (hx6.block _ (heap_lt k15)).trans k15
  have k26 := (hx6.block _ (heap_lt k25)).trans k25
  have r16 := r15.below hx6 r15.lt
  have o6 := o5.below hx6 (Nat.le_refl _)
  have b7 := b6.trans (hx6.mono b6.size)
  have k1a := (Below.heap_alloc w6 (.cells #[.int .i64 10, .int .i64 3, .int .i64 0, .slice (some ⟨g6, 0, none⟩) 2 2, .int .i64 0] 66) _ (heap_lt k16)).trans k16
  have k2a := (Below.heap_alloc w6 (.cells #[.int .i64 10, .int .i64 3, .int .i64 0, .slice (some ⟨g6, 0, none⟩) 2 2, .int .i64 0] 66) _ (heap_lt k26)).trans k26
  have r1b := r16.alloc (.cells #[.int .i64 10, .int .i64 3, .int .i64 0, .slice (some ⟨g6, 0, none⟩) 2 2, .int .i64 0] 66)
  have r6b := r6.alloc (.cells #[.int .i64 10, .int .i64 3, .int .i64 0, .slice (some ⟨g6, 0, none⟩) 2 2, .int .i64 0] 66)
  have o6a := o6.below (below1 w6 (.cells #[.int .i64 10, .int .i64 3, .int .i64 0, .slice (some ⟨g6, 0, none⟩) 2 2, .int .i64 0] 66)) (Nat.le_refl _)
  have b8 := b7.alloc b7.size (.cells #[.int .i64 10, .int .i64 3, .int .i64 0, .slice (some ⟨g6, 0, none⟩) 2 2, .int .i64 0] 66)
  have q16 := fun i => cell_of_row w6 w1.heap.size i _ _ _ k16
  have h16 : w1.heap.size < w6.heap.size := heap_lt k16
  clear k15 k25 r15 o5 b6 hx6 k26 r16 o6 b7
  go_wp2_with fail
  obtain ⟨U, hU⟩ : ∃ U, U = w6.alloc (.cells #[.int .i64 10, .int .i64 3, .int .i64 0, .slice (some ⟨g6, 0, none⟩) 2 2, .int .i64 0] 66) := ⟨_, rfl⟩
  rw [← hU] at k1a k2a r1b r6b o6a b8 ⊢
  clear hU q16
  refine (eqFd_any g6 g1 U (fd_rj r6b) (fd_rj r1b)).mono ?_
  rintro e w7 ⟨rfl, hx7⟩
  have k27 := (hx7.block _ (heap_lt k2a)).trans k2a
  have o7 := o6a.below hx7 (Nat.le_refl _)
  have b9 := b8.trans (hx7.mono b8.size)
  have q27 := fun i => cell_of_row w7 w2.heap.size i _ _ _ k27
  clear k1a k2a r1b r6b o6a b8 hx7
  go_wp2_with fail
  refine (heldDesk_any 10 3 0 0 (some ⟨g2, 0, none⟩) 2 2 (w1.heap.size + 1) 1 w7 o7 (by decide) (by decide) (by decide)).mono ?_
  rintro e w8 ⟨rfl, hx8⟩
  have b10 := b9.trans (hx8.mono b9.size)
  clear q27
  go_wp2
  go_ret
  exact ⟨rfl, b10⟩
end Go.Proofs.Ytjngiinfpoappaa

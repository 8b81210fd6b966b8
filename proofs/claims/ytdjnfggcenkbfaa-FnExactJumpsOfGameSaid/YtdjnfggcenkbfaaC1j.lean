/-
  LandingsOf, the model's and the program's.
-/
import Derived.Test.YtdjnfggcenkbfaaC1e
import Derived.Test.YtdjnfggcenkbfaaC1d
import Derived.Test.YtdjnfggcenkbfaaC1i
namespace Go.Proofs.Ytdjnfggcenkbfaa
open Go.RowKit

set_option maxRecDepth 100000 in
set_option maxHeartbeats 400000 in
theorem specLandingsOf_any (s f o : Int) (A : Option Addr) (c : Nat) (sq : Int) (js : List (Int × Int)) (w : World) (hj : RJ w w.heap.size A js) :
    Calls Try.prog 34 #[.agg #[.int .i64 s, .int .i64 f, .int .i64 o, .slice A js.length c], .int .i64 sq] w (IntsBack w (landingsR s f o js sq)) := by
  have hl := hj.1
  cases ha : asked s f o js sq
  · have ht : landingsR s f o js sq = ([], false) := by rw [landingsR, ha]; rfl
    rw [ht]
    go_enter Try.func34, Try.ntmps34
    go_wp2_with (go_at_call 50; refine (sqAsked_any _ _ _ _ _ _ _ _ (hj.go (below1 _ _))).mono ?_; rintro e w2 ⟨rfl, hx⟩)
    go_ret2
    exact ⟨none, 0, rfl, .inl rfl, (below1 _ _).trans (hx.mono (by simp))⟩
  · have ht : landingsR s f o js sq = (landings s o js sq f.toNat, true) := by rw [landingsR, ha]; rfl
    rw [ht]
    have hz := good_sizes (asked_good ha)
    have hq := onSq_in (asked_on ha)
    obtain ⟨i0, hi, hz0, hz1, hz2⟩ := info_parts infoInt1
    go_enter Try.func34, Try.ntmps34
    go_wp2_with fail
    refine (sqAsked_any _ _ _ _ _ _ _ _ (hj.go (below1 _ _))).mono ?_
    rintro e w2 ⟨rfl, hx⟩
    have hb := box_on (Below.refl _ _) hx (by simp)
    go_wp2_with fail
    go_loopw [6, 7] (fun v i wr => ∃ k : Nat, k ≤ f.toNat ∧ i = .int .i64 ((k : Int) + 1) ∧ Below (w.heap.size + 1) (w.alloc (.cells #[.int .i64 s, .int .i64 f, .int .i64 o, .slice A js.length c] 31)) wr ∧ wr.ownsRow (w.heap.size + 1) 3 1 v k ((landings s o js sq k).map (Value.int .i64))) (fun _ i _ => f.toNat + 1 - (intOf i).toNat)
    case atStart => exact ⟨0, Nat.zero_le _, rfl, hb, World.ownsRow_nil _ _ _ _⟩
    case round =>
      clear hb
      obtain ⟨k, hk, rfl, hb, hown⟩ := hrel
      have q := boxcells hb
      have hs : w.heap.size < wr.heap.size := by have := hb.size; simp at this; omega
      by_cases hlt : k < f.toNat
      · have h3 : (k : Int) + 1 ≤ f := by omega
        go_wp2_with (first | (go_at_call 47; refine (sqThrow_any _ _ _ _ _ _ _ _ _ (hj.go ((below1 _ _).trans (hb.mono (by omega)))) hz.1.1 hz.1.2 hz.2.2.1.1 hz.2.2.1.2 hq.1 hq.2 (by omega) (by omega)).mono ?_; rintro e w3 ⟨rfl, hx3⟩) | (at_builtin; go_loud (refine wpList_append_own _ rfl _ _ 25 rfl (w.heap.size + 1) 3 i0 (.int .i64 0) 1 8 Try.underlying25 hi hz0 hz1 hz2 rfl (by decide) _ _ _ rfl ((own_below hown hx3).alloc _) ⟨w3.heap.size, 0, none⟩ 1 1 [.int .i64 (thrown s o js sq ((k : Int) + 1))] rfl rfl (cell_new1 _ _ _) (one_int _) (by unfold maxLen; omega) (by omega) (by have := hx3.size; simp; omega) ?_; intro v1 w4 hown4 hg4 _)))
        go_roundw
        case rel =>
          have hs3 := hx3.size
          refine ⟨k + 1, by omega, by go_num, ((box_on hb hx3 (by omega)).alloc (by omega) _).grown hg4 (by simp; omega) ?_, by rw [landings_succ, List.map_append]; exact hown4⟩
          intro g hg
          have := own_from hown g hg
          omega
        case measure => simp [intOf]; omega
      · have h3 : ¬ (k : Int) + 1 ≤ f := by omega
        obtain rfl : k = f.toNat := by omega
        go_wp2
        obtain ⟨A', c', rfl, ho⟩ := own_oi hown (landings_len _ _ _ _ _)
        go_ret2
        refine ⟨A', c', rfl, ?_, (below1 _ _).trans (hb.mono (by omega))⟩
        rcases ho with h | ⟨g, e, hg, hr⟩
        · exact .inl h
        · exact .inr ⟨g, e, by omega, hr⟩

set_option maxRecDepth 100000 in
set_option maxHeartbeats 400000 in
theorem implLandingsOf_any (s f o : Int) (A : Option Addr) (c : Nat) (sq : Int) (js : List (Int × Int)) (w : World) (hj : RJ w w.heap.size A js) :
    Calls Try.prog 35 #[.agg #[.int .i64 s, .int .i64 f, .int .i64 o, .slice A js.length c], .int .i64 sq] w (IntsBack w (landingsR s f o js sq)) := by
  have hl := hj.1
  cases ha : asked s f o js sq
  · have ht : landingsR s f o js sq = ([], false) := by rw [landingsR, ha]; rfl
    rw [ht]
    have hst := storeCourse 0 0 0 (fun _ => 0)
    go_enter Try.func35, Try.ntmps35
    go_wp2_with fail
    refine (courseAt_no _ _ _ _ _ _ _ _ (hj.go (below1 _ _)) ha).mono ?_
    rintro e w2 ⟨rfl, hx⟩
    go_wp2
    go_ret2
    exact ⟨none, 0, rfl, .inl rfl, ((below1 _ _).trans (hx.mono (by simp))).alloc (by have := hx.size; simp at this; omega) _⟩
  · have ht : landingsR s f o js sq = (landings s o js sq f.toNat, true) := by rw [landingsR, ha]; rfl
    rw [ht]
    have hz := good_sizes (asked_good ha)
    have hq := onSq_in (asked_on ha)
    have hst := storeCourse s f o (fun i => jumpOf js i)
    obtain ⟨i0, hi, hz0, hz1, hz2⟩ := info_parts infoInt1
    go_enter Try.func35, Try.ntmps35
    go_wp2_with fail
    refine (courseAt_yes _ _ _ _ _ _ _ _ (hj.go (below1 _ _)) ha).mono ?_
    rintro e w2 ⟨rfl, hx⟩
    have hs2 : w.heap.size < w2.heap.size := by have := hx.size; simp at this; omega
    have hCn : CA (w2.alloc (.cells (crsCells s f o (fun i => jumpOf js i)) 57)) w2.heap.size s f o (fun i => jumpOf js i) := heap_alloc_at _ _ _ rfl
    have hB : Below w.heap.size w (w2.alloc (.cells (crsCells s f o (fun i => jumpOf js i)) 57)) := ((below1 _ _).trans (hx.mono (by simp))).alloc (by omega) _
    have c1 := hCn.fa
    go_wp2_with (at_make; go_loud (refine wpList_make_own _ rfl _ _ 25 rfl (w2.heap.size + 1) 3 i0 (.int .i64 0) 1 Try.underlying25 hi hz0 hz1 _ _ _ f.toNat rfl rfl (by omega) (by rw [hz2]; omega) (by unfold maxLen; omega) (by simp) ?_; intro w3 hown hgrow))
    have hC3 : CA w3 w2.heap.size s f o (fun i => jumpOf js i) := (hgrow.block _ (by simp) (by simp)).trans hCn
    have B3 : Below w.heap.size w w3 := hB.grown hgrow (by simp; omega) (fun k h => by cases h)
    have hs3 : w2.heap.size < w3.heap.size := hC3.lt
    simp only [World.size_alloc] at hown
    clear c1 hCn
    go_loopw [8, 9] (fun v i wr => ∃ k : Nat, k ≤ f.toNat ∧ i = .int .i64 ((k : Int) + 1) ∧ Below w.heap.size w wr ∧ CA wr w2.heap.size s f o (fun i => jumpOf js i) ∧ wr.ownsRow (w2.heap.size + 1) 3 1 v k ((landings s o js sq k).map (Value.int .i64))) (fun _ i _ => f.toNat + 1 - (intOf i).toNat)
    case atStart => exact ⟨0, Nat.zero_le _, rfl, B3, hC3, hown⟩
    case round =>
      clear hown B3 hC3
      obtain ⟨k, hk, rfl, hb, hC, hown⟩ := hrel
      have c1 := hC.fa
      have hs : w2.heap.size < wr.heap.size := hC.lt
      by_cases hlt : k < f.toNat
      · have h3 : (k : Int) + 1 ≤ f := by omega
        go_wp2_with (first | (go_at_call 49; refine (behind_bel _ _ _ _ _ _ _ _ hC.cv hz.1.1 hz.1.2 hz.2.2.1.1 hz.2.2.1.2 hq.1 hq.2 (good_end (asked_good ha)) (onSq_fix (asked_on ha)) (by omega) (by omega)).mono ?_; rintro e w' ⟨rfl, hxd, hsd⟩; replace hown := own_below hown hxd; replace hb := keepB hb (by have := hb.size; omega) hxd; replace hC := hC.below hxd hs; rw [← hsd] at hs; clear hsd) | (at_builtin; go_loud (refine wpList_append_own _ rfl _ _ 25 rfl (w2.heap.size + 1) 3 i0 (.int .i64 0) 1 8 Try.underlying25 hi hz0 hz1 hz2 rfl (by decide) _ _ _ rfl (hown.alloc _) ⟨w'.heap.size, 0, none⟩ 1 1 [.int .i64 (thrown s o js sq ((k : Int) + 1))] rfl rfl (cell_new1 _ _ _) (one_int _) (by unfold maxLen; omega) (by omega) (by simp; omega) ?_; intro v1 w4 hown4 hg4 _)))
        go_roundw
        case rel =>
          have hf := own_from hown
          refine ⟨k + 1, by omega, by go_num, (hb.alloc (by omega) _).grown hg4 (by simp; omega) (fun g hg => by have := hf g hg; omega), (hg4.block _ (by simp; omega) (fun hg => by have := hf _ hg.symm; omega)).trans ((Below.heap_alloc _ _ _ hs).trans hC), by rw [landings_succ, List.map_append]; exact hown4⟩
        case measure => simp [intOf]; omega
      · have h3 : ¬ (k : Int) + 1 ≤ f := by omega
        obtain rfl : k = f.toNat := by omega
        go_wp2
        obtain ⟨A', c', rfl, ho⟩ := own_oi hown (landings_len _ _ _ _ _)
        go_ret2
        refine ⟨A', c', rfl, ?_, hb⟩
        rcases ho with h | ⟨g, e, hg, hr⟩
        · exact .inl h
        · exact .inr ⟨g, e, by omega, hr⟩
end Go.Proofs.Ytdjnfggcenkbfaa

/-
  Pairs: PairMoves, the model's and the program's.
-/
import Derived.Test.YtknclgfjoajldabC5b
import Derived.Test.YtknclgfjoajldabC1i
import Derived.Test.YtknclgfjoajldabWSeek
namespace Go.Proofs.Ytknclgfjoajldab
open Go.RowKit

/-- The tokens that can move by a face: among the first k. -/
def movK (s a b face : Int) (k : Nat) : List Int := (if 1 ≤ k ∧ a + face ≤ s then [0] else []) ++ (if 2 ≤ k ∧ b + face ≤ s then [1] else [])
theorem movK_len (s a b face : Int) (k : Nat) : (movK s a b face k).length ≤ 2 := by
  unfold movK
  split <;> split <;> simp

theorem idx_both0 (x y : Int) (w : World) : (Instr.index 63 (.agg #[.int .i64 x, .int .i64 y]) (.int .i64 0)).run Try.prog w = .ok (.int .i64 x) w := by kernel_rfl
theorem idx_both1 (x y : Int) (w : World) : (Instr.index 63 (.agg #[.int .i64 x, .int .i64 y]) (.int .i64 1)).run Try.prog w = .ok (.int .i64 y) w := by kernel_rfl
set_option maxRecDepth 100000 in
set_option maxHeartbeats 1000000 in
theorem movers_any (g : Nat) (s f o : Int) (G : Nat → Int) (a b face : Int) (w : World) (hC : CV w g s f o G) (ha0 : 0 ≤ a) (ha : a ≤ 100) (hb0 : 0 ≤ b) (hb : b ≤ 100) (hf0 : 0 ≤ face) (hf : face ≤ 8) :
    Calls Try.prog 38 #[.pointer (some ⟨g, 0, none⟩), .agg #[.int .i64 a, .int .i64 b], .int .i64 face] w fun e w' =>
      ∃ A c, e = .returned (.slice A (movK s a b face 2).length c) ∧ OI w' w.heap.size 3 A (movK s a b face 2).length (fun k => (movK s a b face 2).getD k 0) ∧ Below w.heap.size w w' := by
  obtain ⟨i0, hi, hz0, hz1, hz2⟩ := info_parts infoInt1
  have hgl : g < w.heap.size := cell_lt hC.sq
  have hx0 := idx_both0 a b
  have hx1 := idx_both1 a b
  go_enter Try.func38, Try.ntmps38
  go_wp2_with fail
  go_loopw [7, 8, 9, 11] (fun v _ _ i wr => ∃ k : Nat, k ≤ 2 ∧ i = .int .i64 (k : Int) ∧ Below w.heap.size w wr ∧ wr.ownsRow w.heap.size 3 1 v (movK s a b face k).length ((movK s a b face k).map (Value.int .i64))) (fun _ _ _ i _ => 2 - (intOf i).toNat)
  case atStart => exact ⟨0, by omega, rfl, below1 _ _, World.ownsRow_nil _ _ _ _⟩
  case round =>
    obtain ⟨k, hk, rfl, hB, hown⟩ := hrel
    have c0 := (bcell hB hgl).trans hC.sq
    have hsz := hB.size
    have hlen := movK_len s a b face k
    have hf' := own_from hown
    rcases (show k = 0 ∨ k = 1 ∨ k = 2 by omega) with rfl | rfl | rfl
    · have w0 : IntKind.i64.wrap (a + face) = a + face := IntWalk.i64_in _ (by omega)
      by_cases h : a + face ≤ s
      · go_wp2_with (at_builtin; go_loud (refine wpList_append_own _ rfl _ _ 23 rfl w.heap.size 3 i0 (.int .i64 0) 1 8 Try.underlying23 hi hz0 hz1 hz2 rfl (by decide) _ _ _ rfl (hown.alloc _) ⟨wr.heap.size, 0, none⟩ 1 1 [.int .i64 0] rfl rfl (cell_new1 _ _ _) (one_int _) (by unfold maxLen; omega) (by omega) (by simp; omega) ?_; intro v1 w4 hown4 hg4 _))
        go_roundw
        case rel => exact ⟨1, by omega, rfl, (hB.alloc (by omega) _).grown hg4 (by simp; omega) (fun j hj => hf' j hj), by simpa [movK, h] using hown4⟩
        case measure => simp [intOf]
      · go_wp2_with fail
        go_roundw
        case rel => exact ⟨1, by omega, rfl, hB, by simpa [movK, h] using hown⟩
        case measure => simp [intOf]
    · have w0 : IntKind.i64.wrap (b + face) = b + face := IntWalk.i64_in _ (by omega)
      by_cases h : b + face ≤ s
      · go_wp2_with (at_builtin; go_loud (refine wpList_append_own _ rfl _ _ 23 rfl w.heap.size 3 i0 (.int .i64 0) 1 8 Try.underlying23 hi hz0 hz1 hz2 rfl (by decide) _ _ _ rfl (hown.alloc _) ⟨wr.heap.size, 0, none⟩ 1 1 [.int .i64 1] rfl rfl (cell_new1 _ _ _) (one_int _) (by unfold maxLen; omega) (by omega) (by simp; omega) ?_; intro v1 w4 hown4 hg4 _))
        go_roundw
        case rel => exact ⟨2, by omega, rfl, (hB.alloc (by omega) _).grown hg4 (by simp; omega) (fun j hj => hf' j hj), by
          have e : movK s a b face 2 = movK s a b face 1 ++ [1] := by simp [movK, h]
          rw [e, List.length_append, List.map_append]; exact hown4⟩
        case measure => simp [intOf]
      · go_wp2_with fail
        go_roundw
        case rel => exact ⟨2, by omega, rfl, hB, by
          have e : movK s a b face 2 = movK s a b face 1 := by simp [movK, h]
          rw [e]; exact hown⟩
        case measure => simp [intOf]
    · go_wp2_with fail
      obtain ⟨A', c', rfl, ho⟩ := own_oi hown rfl
      go_ret
      exact ⟨A', c', rfl, ho, hB⟩

def movesR (s f a b face : Int) : List Int × Bool := if pairOk s f a b && inB face 1 f then (movK s a b face 2, true) else ([], false)
theorem movesR_len (s f a b face : Int) : (movesR s f a b face).1.length ≤ 1048576 := by
  unfold movesR
  split
  · have := movK_len s a b face 2
    simp only; omega
  · simp

set_option maxRecDepth 100000 in
set_option maxHeartbeats 1000000 in
theorem specPairMoves_any (s f a b face : Int) (w : World) :
    Calls Try.prog 12 #[.int .i64 s, .int .i64 f, .int .i64 a, .int .i64 b, .int .i64 face] w (IntsBack w (movesR s f a b face)) := by
  obtain ⟨i0, hi, hz0, hz1, hz2⟩ := info_parts infoInt1
  cases hp : pairOk s f a b
  · have e : movesR s f a b face = ([], false) := by rw [movesR, hp]; rfl
    rw [e]
    have HP := Lib.hid hp; clear hp e
    go_enter Try.func12, Try.ntmps12
    go_wp2_with (go_at_call 34; refine (oiGood_any _ _ _ _ _).mono ?_; rintro e w' ⟨rfl, rfl⟩; rw [HP.out])
    go_ret2
    exact ⟨none, 0, rfl, .inl rfl, Below.refl _ _⟩
  cases hq : inB face 1 f
  · have e : movesR s f a b face = ([], false) := by rw [movesR, hp, hq]; rfl
    rw [e]
    have HP := Lib.hid hp; have HQ := Lib.hid hq; clear hp hq e
    go_enter Try.func12, Try.ntmps12
    go_wp2_with (first | (go_at_call 34; refine (oiGood_any _ _ _ _ _).mono ?_; rintro e w' ⟨rfl, rfl⟩; rw [HP.out]) | (go_at_call 35; refine (l1In_p _ _ _ _).mono ?_; rintro e w' ⟨rfl, rfl⟩; rw [HQ.out]))
    go_ret2
    exact ⟨none, 0, rfl, .inl rfl, Below.refl _ _⟩
  have e : movesR s f a b face = (movK s a b face 2, true) := by rw [movesR, hp, hq]; rfl
  rw [e]
  have hh := pairOk_iff.1 hp
  have hfa := inB_iff.1 hq
  have HP := Lib.hid hp; have HQ := Lib.hid hq; clear hp hq e
  have w0 : IntKind.i64.wrap (a + face) = a + face := IntWalk.i64_in _ (by omega)
  have w1 : IntKind.i64.wrap (b + face) = b + face := IntWalk.i64_in _ (by omega)
  have own0 := World.ownsRow_nil w w.heap.size 3 1
  by_cases h1 : a + face ≤ s <;> by_cases h2 : b + face ≤ s
  · have e2 : movK s a b face 2 = [0, 1] := by simp [movK, h1, h2]
    rw [e2]; clear e2
    go_enter Try.func12, Try.ntmps12
    go_wp2_with (first | (go_at_call 34; refine (oiGood_any _ _ _ _ _).mono ?_; rintro e w' ⟨rfl, rfl⟩; rw [HP.out]) | (go_at_call 35; refine (l1In_p _ _ _ _).mono ?_; rintro e w' ⟨rfl, rfl⟩; rw [HQ.out]) | (at_builtin; go_loud (refine wpList_append_own _ rfl _ _ 23 rfl w.heap.size 3 i0 (.int .i64 0) 1 8 Try.underlying23 hi hz0 hz1 hz2 rfl (by decide) _ _ _ rfl ((own0).alloc _) ⟨w.heap.size, 0, none⟩ 1 1 [.int .i64 0] rfl rfl (cell_new1 _ _ _) (one_int _) (by unfold maxLen; omega) (by omega) (by simp; try omega) ?_; intro v1 w4 hown4 hg4 _; obtain ⟨Av, cv, rfl⟩ := own_sliceS hown4; have hb4 : Below w.heap.size w w4 := (below1 _ _).grown hg4 (by simp) (fun j h => by cases h); have hs4 := hb4.size; have hf4 := own_from hown4)) | (at_builtin; go_loud (refine wpList_append_own _ rfl _ _ 23 rfl w.heap.size 3 i0 (.int .i64 0) 1 8 Try.underlying23 hi hz0 hz1 hz2 rfl (by decide) _ _ _ rfl ((hown4).alloc _) ⟨w4.heap.size, 0, none⟩ 1 1 [.int .i64 1] rfl rfl (cell_new1 _ _ _) (one_int _) (by unfold maxLen; omega) (by omega) (by simp; try omega) ?_; intro v2 w5 hown5 hg5 _)))
    obtain ⟨A', c', rfl, ho⟩ := own_oi (xs := [0, 1]) hown5 rfl
    go_ret2
    exact ⟨A', c', rfl, ho, (hb4.alloc hs4 _).grown hg5 (by simp; omega) (fun j h => hf4 j h)⟩
  · have e2 : movK s a b face 2 = [0] := by simp [movK, h1, h2]
    rw [e2]; clear e2
    go_enter Try.func12, Try.ntmps12
    go_wp2_with (first | (go_at_call 34; refine (oiGood_any _ _ _ _ _).mono ?_; rintro e w' ⟨rfl, rfl⟩; rw [HP.out]) | (go_at_call 35; refine (l1In_p _ _ _ _).mono ?_; rintro e w' ⟨rfl, rfl⟩; rw [HQ.out]) | (at_builtin; go_loud (refine wpList_append_own _ rfl _ _ 23 rfl w.heap.size 3 i0 (.int .i64 0) 1 8 Try.underlying23 hi hz0 hz1 hz2 rfl (by decide) _ _ _ rfl ((own0).alloc _) ⟨w.heap.size, 0, none⟩ 1 1 [.int .i64 0] rfl rfl (cell_new1 _ _ _) (one_int _) (by unfold maxLen; omega) (by omega) (by simp; try omega) ?_; intro v1 w4 hown4 hg4 _)))
    obtain ⟨A', c', rfl, ho⟩ := own_oi (xs := [0]) hown4 rfl
    go_ret2
    exact ⟨A', c', rfl, ho, (below1 _ _).grown hg4 (by simp) (fun j h => by cases h)⟩
  · have e2 : movK s a b face 2 = [1] := by simp [movK, h1, h2]
    rw [e2]; clear e2
    go_enter Try.func12, Try.ntmps12
    go_wp2_with (first | (go_at_call 34; refine (oiGood_any _ _ _ _ _).mono ?_; rintro e w' ⟨rfl, rfl⟩; rw [HP.out]) | (go_at_call 35; refine (l1In_p _ _ _ _).mono ?_; rintro e w' ⟨rfl, rfl⟩; rw [HQ.out]) | (at_builtin; go_loud (refine wpList_append_own _ rfl _ _ 23 rfl w.heap.size 3 i0 (.int .i64 0) 1 8 Try.underlying23 hi hz0 hz1 hz2 rfl (by decide) _ _ _ rfl ((own0).alloc _) ⟨w.heap.size, 0, none⟩ 1 1 [.int .i64 1] rfl rfl (cell_new1 _ _ _) (one_int _) (by unfold maxLen; omega) (by omega) (by simp; try omega) ?_; intro v1 w4 hown4 hg4 _)))
    obtain ⟨A', c', rfl, ho⟩ := own_oi (xs := [1]) hown4 rfl
    go_ret2
    exact ⟨A', c', rfl, ho, (below1 _ _).grown hg4 (by simp) (fun j h => by cases h)⟩
  · have e2 : movK s a b face 2 = [] := by simp [movK, h1, h2]
    rw [e2]; clear e2
    go_enter Try.func12, Try.ntmps12
    go_wp2_with (first | (go_at_call 34; refine (oiGood_any _ _ _ _ _).mono ?_; rintro e w' ⟨rfl, rfl⟩; rw [HP.out]) | (go_at_call 35; refine (l1In_p _ _ _ _).mono ?_; rintro e w' ⟨rfl, rfl⟩; rw [HQ.out]))
    go_ret2
    exact ⟨none, 0, rfl, .inl rfl, Below.refl _ _⟩

set_option maxRecDepth 100000 in
set_option maxHeartbeats 1000000 in
theorem implPairMoves_any (s f a b face : Int) (w : World) :
    Calls Try.prog 13 #[.int .i64 s, .int .i64 f, .int .i64 a, .int .i64 b, .int .i64 face] w (IntsBack w (movesR s f a b face)) := by
  cases hp : pairOk s f a b
  · have e : movesR s f a b face = ([], false) := by rw [movesR, hp]; rfl
    rw [e]
    have hst := storeCourse 0 0 0 (fun _ => 0)
    have HP := Lib.hid hp; clear hp e
    go_enter Try.func13, Try.ntmps13
    go_wp2_with fail
    refine (courseOfPair_no _ _ _ _ _ HP.out).mono ?_
    rintro e w2 ⟨rfl, hx⟩
    go_wp2
    go_ret2
    exact ⟨none, 0, rfl, .inl rfl, hx.alloc hx.size _⟩
  have hst := storeCourse s f 0 (fun i => jumpOf [] i)
  cases hq : inB face 1 f
  · have e : movesR s f a b face = ([], false) := by rw [movesR, hp, hq]; rfl
    rw [e]
    have HP := Lib.hid hp; have HQ := Lib.hid hq; clear hp hq e
    go_enter Try.func13, Try.ntmps13
    go_wp2_with fail
    refine (courseOfPair_yes _ _ _ _ _ HP.out).mono ?_
    rintro e w2 ⟨rfl, hx⟩
    have hCn : CA (w2.alloc (.cells (crsCells s f 0 (fun i => jumpOf [] i)) 57)) w2.heap.size s f 0 (fun i => jumpOf [] i) := heap_alloc_at _ _ _ rfl
    go_wp2_with (go_at_call 37; refine (hasFace_any _ _ _ _ _ _ _ hCn.cv).mono ?_; rintro e w3 ⟨rfl, rfl⟩; rw [HQ.out])
    go_ret2
    exact ⟨none, 0, rfl, .inl rfl, hx.alloc hx.size _⟩
  have e : movesR s f a b face = (movK s a b face 2, true) := by rw [movesR, hp, hq]; rfl
  rw [e]
  have hh := pairOk_iff.1 hp
  have hfa := inB_iff.1 hq
  have HP := Lib.hid hp; have HQ := Lib.hid hq; clear hp hq e
  go_enter Try.func13, Try.ntmps13
  go_wp2_with fail
  refine (courseOfPair_yes _ _ _ _ _ HP.out).mono ?_
  rintro e w2 ⟨rfl, hx⟩
  have hCn : CA (w2.alloc (.cells (crsCells s f 0 (fun i => jumpOf [] i)) 57)) w2.heap.size s f 0 (fun i => jumpOf [] i) := heap_alloc_at _ _ _ rfl
  go_wp2_with (first | (go_at_call 37; refine (hasFace_any _ _ _ _ _ _ _ hCn.cv).mono ?_; rintro e w3 ⟨rfl, rfl⟩; rw [HQ.out]) | (go_at_call 38; refine (movers_any _ s f 0 _ a b face _ hCn.cv (by omega) (by omega) (by omega) (by omega) (by omega) (by omega)).mono ?_; rintro e w5 ⟨A', c', rfl, ho, hx5⟩))
  go_ret2
  simp only [World.size_alloc] at ho
  have hs := hx.size
  refine ⟨A', c', rfl, ?_, (hx.alloc hs _).trans (hx5.mono (by simp; omega))⟩
  rcases ho with h | ⟨g, e, hg, hr⟩
  · exact .inl h
  · exact .inr ⟨g, e, by omega, hr⟩

theorem pairMoves_both (s f a b face : Int) : ∃ R : List Int × Bool, R.1.length ≤ 1048576 ∧
    (∀ W : World, Calls Try.prog 12 #[.int .i64 s, .int .i64 f, .int .i64 a, .int .i64 b, .int .i64 face] W (IntsBack W R)) ∧
    (∀ W : World, Calls Try.prog 13 #[.int .i64 s, .int .i64 f, .int .i64 a, .int .i64 b, .int .i64 face] W (IntsBack W R)) :=
  ⟨movesR s f a b face, movesR_len s f a b face, specPairMoves_any s f a b face, implPairMoves_any s f a b face⟩
end Go.Proofs.Ytknclgfjoajldab

/-
  Walks: walkTo, walkHome.
-/
import Derived.Test.YtiekdokgjdgajabC2c
namespace Go.Proofs.Ytiekdokgjdgajab
open Go.RowKit

/-- What walkTo hands back: a walk behind t throws. -/
def WalkIs (w : World) (s f o : Int) (js : List (Int × Int)) (wt sq : Int) (t : Nat) (e : Ending) (w' : World) : Prop :=
  ∃ bl bb, e = .returned (.tuple #[.agg (wlkCells s f o (fun i => jumpOf js i) wt (f ^ t) (some bl) (some bb)), .bool true]) ∧ w.heap.size ≤ bl ∧ w.heap.size ≤ bb ∧ bl ≠ bb ∧ bl < w'.heap.size ∧ bb < w'.heap.size ∧
    SW w' bl (ct s f o js wt sq t) ∧ SW w' bb (fun _ _ => 0) ∧ Below w.heap.size w w'
theorem storeWalk (s f o : Int) (G : Nat → Int) (wt al : Int) (l b : Option Nat) (w : World) : (storeCells ⟨w.heap.size, 0, none⟩ (wlkCells s f o G wt al l b).toList 0).run Try.prog (w.alloc (.cells Try.zeroCells57 57)) = .ok () (w.alloc (.cells (wlkCells s f o G wt al l b) 57)) :=
  run_storeCells_new w _ _ _ (by rw [wlk_size]; exact sizeWalk) (by rw [walkZero, wlk_size, wlk_size]) (Array.all_eq_true_iff_forall_mem.2 fun u hu => wlk_one _ _ _ _ _ _ _ _ u (Array.mem_toList_iff.2 hu))

set_option maxRecDepth 100000 in
set_option maxHeartbeats 400000 in
theorem walkTo_yes (s f o : Int) (A : Option Addr) (c : Nat) (js : List (Int × Int)) (sq wt : Int) (t : Nat) (most : Int) (w : World) (hj : RJ w w.heap.size A js) (ha : asked s f o js sq = true) (hwt : onSq s js wt = true) (ht : (t : Int) ≤ most) (hm : most ≤ 20) :
    Calls Try.prog 67 #[.agg #[.int .i64 s, .int .i64 f, .int .i64 o, .slice A js.length c], .int .i64 sq, .int .i64 wt, .int .i64 t, .int .i64 most] w (WalkIs w s f o js wt sq t) := by
  have hl := hj.1
  have hz := good_sizes (asked_good ha)
  have hq := onSq_in (asked_on ha)
  have HA := Lib.hid ha; have HWT := Lib.hid hwt; clear ha hwt
  have hst := storeCourse s f o (fun i => jumpOf js i)
  have hst3 : ∀ (x y : Option Nat) (w : World), (storeCells ⟨w.heap.size, 0, none⟩ (wlkCells s f o (fun i => jumpOf js i) wt 1 x y).toList 0).run Try.prog (w.alloc (.cells Try.zeroCells57 57)) = .ok () (w.alloc (.cells (wlkCells s f o (fun i => jumpOf js i) wt 1 x y) 57)) := fun x y w => storeWalk _ _ _ _ _ _ _ _ w
  go_enter Try.func67, Try.ntmps67
  go_wp2_with fail
  refine (courseAt_yes _ _ _ _ _ _ _ _ (hj.go (below2 _ _ _)) HA.out).mono ?_
  rintro e w1 ⟨rfl, hx⟩
  have hs1 : w.heap.size + 2 ≤ w1.heap.size := by have := hx.size; simpa using this
  have hB1 : Below w.heap.size w w1 := (below2 _ _ _).trans (hx.mono (by simp; omega))
  have hR1 : w1.heap[w.heap.size + 1]? = some (.cells Try.zeroCells57 57 (0, 0)) := (hx.block _ (by simp)).trans (heap_alloc_at _ _ _ (by simp))
  have hCn : CA (w1.alloc (.cells (crsCells s f o (fun i => jumpOf js i)) 54)) w1.heap.size s f o (fun i => jumpOf js i) := heap_alloc_at _ _ _ rfl
  have g0 : ¬ (t : Int) < 0 := by omega
  have g1 : ¬ most < (t : Int) := by omega
  go_wp2_with (first | (go_at_call 56; refine (holds_any _ _ _ _ _ _ _ hCn.cv hz.1.2).mono ?_; rintro e w2 ⟨rfl, rfl⟩; rw [HWT.out]) | (refine wpList_load_row rfl 54 _ rfl w1.heap.size rfl _ _ _ _ hCn Try.underlying54 rfl ?_ ?_; (rw [crs_size]; exact sizeCourse)) | (go_at_call 79; refine (walkFrom_any s f o (fun i => jumpOf js i) sq wt _ hq.1 (by omega)).mono ?_; rintro e w3 ⟨bl, bb, rfl, q1, q2, q3, q4, q5, hx3⟩))
  have b1 : w1.heap.size < w3.heap.size := by have := hx3.size; simp at this; omega
  have hB3 : Below w.heap.size w w3 := (hB1.alloc (by omega) _).trans (hx3.mono (by simp; omega))
  have hR3 : w3.heap[w.heap.size + 1]? = some (.cells Try.zeroCells57 57 (0, 0)) := (hx3.block _ (by simp; omega)).trans ((Below.heap_alloc _ _ _ (by omega)).trans hR1)
  have hL0 := q4.lt
  have hE0 := q5.lt
  simp only [World.size_alloc] at q1 q2
  have hR4 := (Below.heap_alloc w3 (.cells (wlkCells s f o (fun i => jumpOf js i) wt 1 (some bl) (some bb)) 57) _ (by omega)).trans hR3
  have hB4 := hB3.alloc (by omega) (.cells (wlkCells s f o (fun i => jumpOf js i) wt 1 (some bl) (some bb)) 57)
  have hW4 : WA (w3.alloc (.cells (wlkCells s f o (fun i => jumpOf js i) wt 1 (some bl) (some bb)) 57)) w3.heap.size s f o (fun i => jumpOf js i) wt 1 (some bl) (some bb) := heap_alloc_at _ _ _ rfl
  have hL4 := q4.alloc (.cells (wlkCells s f o (fun i => jumpOf js i) wt 1 (some bl) (some bb)) 57)
  have hE4 := q5.alloc (.cells (wlkCells s f o (fun i => jumpOf js i) wt 1 (some bl) (some bb)) 57)
  clear hst hst3 hCn q4 q5 hR3 hR1
  go_loopw [43] (fun i wr => ∃ (k l b : Nat), k ≤ t ∧ i = .int .i64 k ∧ WA wr w3.heap.size s f o (fun i => jumpOf js i) wt (f ^ k) (some l) (some b) ∧ SW wr l (ct s f o js wt sq k) ∧ SW wr b (fun _ _ => 0) ∧ l ≠ b ∧ w.heap.size + 2 ≤ l ∧ w.heap.size + 2 ≤ b ∧ Below w.heap.size w wr ∧
    wr.heap[w.heap.size + 1]? = some (.cells Try.zeroCells57 57 (0, 0))) (fun i _ => t - (intOf i).toNat)
  case atStart => exact ⟨0, bl, bb, Nat.zero_le _, rfl, by rw [Int.pow_zero]; exact hW4, hL4, hE4, q3, by omega, by omega, hB4, hR4⟩
  case round =>
    clear hW4 hL4 hE4 hB4 hR4
    obtain ⟨k, l, b, hk, rfl, hW, hL, hE, hne, l0, b0, hB, hR⟩ := hrel
    by_cases hlt : k < t
    · have hlt' : (k : Int) < (t : Int) := by omega
      have HNE := Lib.hid hne; clear hne
      go_wp2_with (go_at_call 68; refine (throw_any _ _ _ _ _ _ _ _ _ _ _ hW hL hE HNE.out (asked_good HA.out) (asked_on HA.out) (by omega)).mono ?_; rintro e w5 ⟨rfl, hW5, hL5, hE5, hB5⟩)
      go_roundw
      case rel => exact ⟨k + 1, b, l, hlt, by go_num, hW5, hL5, hE5, HNE.out.symm, b0, l0, hB.trans (hB5 _ (by omega) (by omega) (by omega)), ((hB5 (w.heap.size + 2) (by omega) l0 b0).block _ (by omega)).trans hR⟩
      case measure => simp [intOf]; omega
    · obtain rfl : k = t := by omega
      have hlt' : ¬ (k : Int) < (k : Int) := by omega
      have hl1 := hL.lt
      have hl2 := hE.lt
      have hl3 := heap_lt hW
      go_wp2_with (first | (refine wpList_load_row rfl 57 _ rfl w3.heap.size rfl _ _ _ _ hW Try.underlying57 rfl ?_ ?_; (rw [wlk_size]; exact sizeWalk)) | (refine wpList_store_row rfl 57 _ _ rfl (w.heap.size + 1) rfl _ _ _ rfl hR ?_ ?_ (wlk_one _ _ _ _ _ _ _ _) ?_; (rw [wlk_size, walkZero, wlk_size]); (rw [wlk_size]; exact sizeWalk); intro w7 h7 g7 s7))
      exact bodyPost_ret (v := .tuple #[.agg (wlkCells s f o (fun i => jumpOf js i) wt (f ^ k) (some l) (some b)), .bool true]) (results_cell_slot Try.results67 _ _ _ _ _ _ _ _ rfl rfl h7 Try.underlying57 rfl (by rw [wlk_size]; exact sizeWalk)) rfl
        ⟨l, b, rfl, by omega, by omega, hne, by omega, by omega, hL.kept g7 (by simp; omega), hE.kept g7 (by simp; omega), hB.grown g7 (by omega) (fun j h => by cases h; omega)⟩

/-- What walkTo hands back where there is none. -/
def NoWalk (w : World) (e : Ending) (w' : World) : Prop := e = .returned (.tuple #[.agg (wlkCells 0 0 0 (fun _ => 0) 0 0 none none), .bool false]) ∧ Below w.heap.size w w'
set_option maxRecDepth 100000 in
set_option maxHeartbeats 400000 in
theorem walkTo_no (s f o : Int) (A : Option Addr) (c : Nat) (js : List (Int × Int)) (sq wt th most : Int) (w : World) (hj : RJ w w.heap.size A js) (hn : (asked s f o js sq && onSq s js wt && decide (0 ≤ th) && decide (th ≤ most)) = false) :
    Calls Try.prog 67 #[.agg #[.int .i64 s, .int .i64 f, .int .i64 o, .slice A js.length c], .int .i64 sq, .int .i64 wt, .int .i64 th, .int .i64 most] w (NoWalk w) := by
  have hl := hj.1
  have zs : Try.zeroCells57.size = 108 := by rw [walkZero, wlk_size]
  have z1 : ∀ u ∈ Try.zeroCells57.toList, u.oneCell' = true := by rw [walkZero]; exact wlk_one _ _ _ _ _ _ _ _
  cases ha : asked s f o js sq
  · have hst := storeCourse 0 0 0 (fun _ => 0)
    have HA := Lib.hid ha; clear ha hn
    go_enter Try.func67, Try.ntmps67
    go_wp2_with fail
    refine (courseAt_no _ _ _ _ _ _ _ _ (hj.go (below2 _ _ _)) HA.out).mono ?_
    rintro e w1 ⟨rfl, hx⟩
    have hs1 : w.heap.size + 2 ≤ w1.heap.size := by have := hx.size; simpa using this
    have hB1 : Below w.heap.size w w1 := (below2 _ _ _).trans (hx.mono (by simp; omega))
    have hR1 : w1.heap[w.heap.size + 1]? = some (.cells Try.zeroCells57 57 (0, 0)) := (hx.block _ (by simp)).trans (heap_alloc_at _ _ _ (by simp))
    have hR2 := (Below.heap_alloc w1 (.cells (crsCells 0 0 0 (fun _ => 0)) 54) _ (by omega)).trans hR1
    have hB2 := hB1.alloc (by omega) (.cells (crsCells 0 0 0 (fun _ => 0)) 54)
    go_wp2_with (refine wpList_store_row rfl 57 _ _ rfl (w.heap.size + 1) rfl _ _ Try.zeroCells57 rfl hR2 rfl ?_ z1 ?_; (rw [zs, sizeWalk]); intro w7 h7 g7 s7)
    rw [walkZero] at h7
    exact bodyPost_ret (v := .tuple #[.agg (wlkCells 0 0 0 (fun _ => 0) 0 0 none none), .bool false]) (results_cell_slot Try.results67 _ _ _ _ _ _ _ _ rfl rfl h7 Try.underlying57 rfl (by rw [wlk_size]; exact sizeWalk)) rfl
      ⟨rfl, hB2.grown g7 (by simp; omega) (fun j h => by cases h; omega)⟩
  · have hz := good_sizes (asked_good ha)
    have hst := storeCourse s f o (fun i => jumpOf js i)
    have HA := Lib.hid ha
    rw [ha] at hn; clear ha
    have key : ∀ hw : onSq s js wt = true ∧ 0 ≤ th ∧ th ≤ most, False := fun hw => by simp [hw.1, hw.2.1, hw.2.2] at hn
    have HK := Lib.hid key; clear key hn
    cases hwt : onSq s js wt
    · have HWT := Lib.hid hwt; clear hwt
      go_enter Try.func67, Try.ntmps67
      go_wp2_with fail
      refine (courseAt_yes _ _ _ _ _ _ _ _ (hj.go (below2 _ _ _)) HA.out).mono ?_
      rintro e w1 ⟨rfl, hx⟩
      have hs1 : w.heap.size + 2 ≤ w1.heap.size := by have := hx.size; simpa using this
      have hB1 : Below w.heap.size w w1 := (below2 _ _ _).trans (hx.mono (by simp; omega))
      have hR1 : w1.heap[w.heap.size + 1]? = some (.cells Try.zeroCells57 57 (0, 0)) := (hx.block _ (by simp)).trans (heap_alloc_at _ _ _ (by simp))
      have hR2 := (Below.heap_alloc w1 (.cells (crsCells s f o (fun i => jumpOf js i)) 54) _ (by omega)).trans hR1
      have hB2 := hB1.alloc (by omega) (.cells (crsCells s f o (fun i => jumpOf js i)) 54)
      have hCn : CA (w1.alloc (.cells (crsCells s f o (fun i => jumpOf js i)) 54)) w1.heap.size s f o (fun i => jumpOf js i) := heap_alloc_at _ _ _ rfl
      go_wp2_with (first | (go_at_call 56; refine (holds_any _ _ _ _ _ _ _ hCn.cv hz.1.2).mono ?_; rintro e w2 ⟨rfl, rfl⟩; rw [HWT.out]) | (refine wpList_store_row rfl 57 _ _ rfl (w.heap.size + 1) rfl _ _ Try.zeroCells57 rfl hR2 rfl ?_ z1 ?_; (rw [zs, sizeWalk]); intro w7 h7 g7 s7))
      rw [walkZero] at h7
      exact bodyPost_ret (v := .tuple #[.agg (wlkCells 0 0 0 (fun _ => 0) 0 0 none none), .bool false]) (results_cell_slot Try.results67 _ _ _ _ _ _ _ _ rfl rfl h7 Try.underlying57 rfl (by rw [wlk_size]; exact sizeWalk)) rfl
        ⟨rfl, hB2.grown g7 (by simp; omega) (fun j h => by cases h; omega)⟩
    · by_cases h0 : th < 0
      · have HWT := Lib.hid hwt; clear hwt
        go_enter Try.func67, Try.ntmps67
        go_wp2_with fail
        refine (courseAt_yes _ _ _ _ _ _ _ _ (hj.go (below2 _ _ _)) HA.out).mono ?_
        rintro e w1 ⟨rfl, hx⟩
        have hs1 : w.heap.size + 2 ≤ w1.heap.size := by have := hx.size; simpa using this
        have hB1 : Below w.heap.size w w1 := (below2 _ _ _).trans (hx.mono (by simp; omega))
        have hR1 : w1.heap[w.heap.size + 1]? = some (.cells Try.zeroCells57 57 (0, 0)) := (hx.block _ (by simp)).trans (heap_alloc_at _ _ _ (by simp))
        have hR2 := (Below.heap_alloc w1 (.cells (crsCells s f o (fun i => jumpOf js i)) 54) _ (by omega)).trans hR1
        have hB2 := hB1.alloc (by omega) (.cells (crsCells s f o (fun i => jumpOf js i)) 54)
        have hCn : CA (w1.alloc (.cells (crsCells s f o (fun i => jumpOf js i)) 54)) w1.heap.size s f o (fun i => jumpOf js i) := heap_alloc_at _ _ _ rfl
        go_wp2_with (first | (go_at_call 56; refine (holds_any _ _ _ _ _ _ _ hCn.cv hz.1.2).mono ?_; rintro e w2 ⟨rfl, rfl⟩; rw [HWT.out]) | (refine wpList_store_row rfl 57 _ _ rfl (w.heap.size + 1) rfl _ _ Try.zeroCells57 rfl hR2 rfl ?_ z1 ?_; (rw [zs, sizeWalk]); intro w7 h7 g7 s7))
        rw [walkZero] at h7
        exact bodyPost_ret (v := .tuple #[.agg (wlkCells 0 0 0 (fun _ => 0) 0 0 none none), .bool false]) (results_cell_slot Try.results67 _ _ _ _ _ _ _ _ rfl rfl h7 Try.underlying57 rfl (by rw [wlk_size]; exact sizeWalk)) rfl
          ⟨rfl, hB2.grown g7 (by simp; omega) (fun j h => by cases h; omega)⟩
      · have h1 : most < th := Int.not_le.1 fun h => HK.out ⟨hwt, by omega, h⟩
        have HWT := Lib.hid hwt; clear hwt
        go_enter Try.func67, Try.ntmps67
        go_wp2_with fail
        refine (courseAt_yes _ _ _ _ _ _ _ _ (hj.go (below2 _ _ _)) HA.out).mono ?_
        rintro e w1 ⟨rfl, hx⟩
        have hs1 : w.heap.size + 2 ≤ w1.heap.size := by have := hx.size; simpa using this
        have hB1 : Below w.heap.size w w1 := (below2 _ _ _).trans (hx.mono (by simp; omega))
        have hR1 : w1.heap[w.heap.size + 1]? = some (.cells Try.zeroCells57 57 (0, 0)) := (hx.block _ (by simp)).trans (heap_alloc_at _ _ _ (by simp))
        have hR2 := (Below.heap_alloc w1 (.cells (crsCells s f o (fun i => jumpOf js i)) 54) _ (by omega)).trans hR1
        have hB2 := hB1.alloc (by omega) (.cells (crsCells s f o (fun i => jumpOf js i)) 54)
        have hCn : CA (w1.alloc (.cells (crsCells s f o (fun i => jumpOf js i)) 54)) w1.heap.size s f o (fun i => jumpOf js i) := heap_alloc_at _ _ _ rfl
        go_wp2_with (first | (go_at_call 56; refine (holds_any _ _ _ _ _ _ _ hCn.cv hz.1.2).mono ?_; rintro e w2 ⟨rfl, rfl⟩; rw [HWT.out]) | (refine wpList_store_row rfl 57 _ _ rfl (w.heap.size + 1) rfl _ _ Try.zeroCells57 rfl hR2 rfl ?_ z1 ?_; (rw [zs, sizeWalk]); intro w7 h7 g7 s7))
        rw [walkZero] at h7
        exact bodyPost_ret (v := .tuple #[.agg (wlkCells 0 0 0 (fun _ => 0) 0 0 none none), .bool false]) (results_cell_slot Try.results67 _ _ _ _ _ _ _ _ rfl rfl h7 Try.underlying57 rfl (by rw [wlk_size]; exact sizeWalk)) rfl
          ⟨rfl, hB2.grown g7 (by simp; omega) (fun j h => by cases h; omega)⟩

end Go.Proofs.Ytiekdokgjdgajab

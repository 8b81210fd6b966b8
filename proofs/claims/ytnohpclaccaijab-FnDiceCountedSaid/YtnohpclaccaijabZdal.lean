/- Several texts, one behind the other: C6t. -/
import Derived.Deep.RegionHeld3
import Derived.Test.YtnohpclaccaijabZdak
import Derived.Test.YtnohpclaccaijabZdai

namespace Go.Proofs.Ytnohpclaccaijab
open Go.RowKit

def faceI (g : Nat) (a : Int) (W : World) : Prop := W.cell? ⟨g, 0, none⟩ = some (.int .i64 a)
theorem faceI_stable (g B : Nat) (a : Int) (h : g < B) : StableI B (faceI g a) := fun _ _ h0 hk => (cell_keptC (hk g h) 0).trans h0
def pairI (gc gs d f : Nat) (a : Int) (W : World) : Prop := W.heap[gc]? = some (.cells #[.int .i64 d, .int .i64 f] 61 (0, 0)) ∧ W.cell? ⟨gs, 0, none⟩ = some (.int .i64 a)
theorem pairI_stable (gc gs d f B : Nat) (a : Int) (h : gc < B) (h' : gs < B) : StableI B (pairI gc gs d f a) := fun _ _ h0 hk => ⟨(hk gc h).trans h0.1, (cell_keptC (hk gs h') 0).trans h0.2⟩

set_option maxRecDepth 100000 in
theorem some_wants (g d f a : Nat) (hd : d ≤ 8) (hf : f ≤ 12) (h1 : 1 ≤ a) (h2 : a ≤ 12) : Wants 76 #[.pointer (some ⟨g, 0, none⟩)] d f (fun t => decide (0 < t.count a)) (faceI g a) := by
  intro t W ht hI
  have lg := cell_lt hI
  have hB := below1 W (.cells (thC (gt t)) 67)
  have kb : TA (W.alloc (.cells (thC (gt t)) 67)) W.heap.size 67 (gt t) := heap_alloc_at _ _ _ rfl
  have c1 : (W.alloc (.cells (thC (gt t)) 67)).cell? ⟨g, 0, none⟩ = some (.int .i64 (a : Int)) := (bcell hB lg).trans hI
  have htm := fun w => times_any d f a t w hd hf ht h1 h2
  obtain ⟨c, hc⟩ : ∃ c, c = t.count a := ⟨_, rfl⟩
  rw [← hc] at htm
  have HTM := Lib.hid htm; have HC := Lib.hid hc
  clear hI htm hc
  show Calls Try.prog 76 #[.agg (thC (gt t)), .pointer (some ⟨g, 0, none⟩)] W _
  go_enter Try.func76, Try.ntmps76
  go_wp2_with (refine wpList_load_row rfl 67 (.tmp 2) rfl W.heap.size rfl _ _ _ _ kb Try.underlying67 rfl ?_ ?_; (rw [thC_size]; exact sizeThr))
  refine (HTM.out _).mono ?_
  rintro e w2 ⟨rfl, hx2⟩
  go_wp2
  go_ret
  exact ⟨ret_bool (by rw [← HC.out, Bool.eq_iff_iff]; try simp), hB.trans (hx2.mono (by simp))⟩
theorem greatest_wants (g d f a : Nat) : Wants 61 #[.pointer (some ⟨g, 0, none⟩)] d f (fun t => gt t 0 == a) (faceI g a) := by
  intro t W ht hI
  have lg := cell_lt hI
  have hB := below1 W (.cells (thC (gt t)) 67)
  have kb : TA (W.alloc (.cells (thC (gt t)) 67)) W.heap.size 67 (gt t) := heap_alloc_at _ _ _ rfl
  have c1 : (W.alloc (.cells (thC (gt t)) 67)).cell? ⟨g, 0, none⟩ = some (.int .i64 (a : Int)) := (bcell hB lg).trans hI
  have c2 := kb.at_ (show 0 < 8 by omega)
  obtain ⟨x, hx⟩ : ∃ x, x = gt t 0 := ⟨_, rfl⟩
  rw [← hx] at c2
  have HX := Lib.hid hx
  clear hI hx
  show Calls Try.prog 61 #[.agg (thC (gt t)), .pointer (some ⟨g, 0, none⟩)] W _
  go_enter Try.func61, Try.ntmps61
  go_wp2
  go_ret
  exact ⟨ret_bool (by show _ = (gt t 0 == a); rw [← HX.out, Bool.eq_iff_iff]; simp; try omega), hB⟩

set_option maxRecDepth 100000 in
set_option maxHeartbeats 1000000 in
theorem same_wants (gc gs d f a : Nat) (hd : d ≤ 8) (hf : f ≤ 12) : Wants 79 #[.pointer (some ⟨gc, 0, none⟩), .pointer (some ⟨gs, 0, none⟩)] d f (fun t => mostN t f == a) (pairI gc gs d f a) := by
  intro t W ht ⟨hI1, hI2⟩
  have lc := heap_lt hI1
  have ls := cell_lt hI2
  obtain ⟨W1, hW1⟩ : ∃ W1, W1 = W.alloc (.cells (thC (gt t)) 67) := ⟨_, rfl⟩
  have hB : Below W.heap.size W W1 := by rw [hW1]; exact below1 _ _
  have kb : TA W1 W.heap.size 67 (gt t) := by rw [hW1]; exact heap_alloc_at _ _ _ rfl
  have k1 := (hB.block gc lc).trans hI1
  have c1 : W1.cell? ⟨gs, 0, none⟩ = some (.int .i64 (a : Int)) := (bcell hB ls).trans hI2
  have hm := fun w => most_any d f t w hd hf ht
  obtain ⟨v, hv⟩ : ∃ v, v = mostN t f := ⟨_, rfl⟩
  rw [← hv] at hm
  have HM := Lib.hid hm; have HV := Lib.hid hv; have HW := Lib.hid hW1
  have sizeCup : (Try.prog.info? 61).map (·.size) = some 2 := by kernel_rfl
  clear hI1 hI2 hm hv hW1
  show Calls Try.prog 79 #[.agg (thC (gt t)), .pointer (some ⟨gc, 0, none⟩), .pointer (some ⟨gs, 0, none⟩)] W _
  go_enter Try.func79, Try.ntmps79
  go_wp2_with fail
  rw [← HW.out]
  refine wp_region_held_drew (S := (fun w' => TA w' W.heap.size 67 (gt t) ∧ w'.heap[gc]? = some (.cells #[.int .i64 d, .int .i64 f] 61 (0, 0)) ∧ w'.cell? ⟨gs, 0, none⟩ = some (.int .i64 (a : Int)))) (by kernel_rfl) ⟨kb, k1, c1⟩ (fun hS => ?_)
  refine wpAnyH_take (i := 0) (oi := ⟨some 5, _, _, _, _, _⟩) rfl (by kernel_rfl) (by kernel_rfl) (by kernel_rfl) (fun _ _ _ h => h) (yields_load_row rfl 61 (.tmp 1) rfl gc rfl _ _ _ _ (fun _ h => h.2.1) Try.underlying61 rfl sizeCup) hS ?_
  try simp only [Act.put, List.setIfInBounds_toArray, List.set_cons_zero, List.set_cons_succ]
  refine wpAnyH_take (i := 1) (oi := ⟨some 6, _, _, _, _, _⟩) rfl (by kernel_rfl) (by kernel_rfl) (by kernel_rfl) (fun _ _ _ h => h) (yields_load_row rfl 67 (.tmp 3) rfl W.heap.size rfl _ _ _ _ (fun _ h => h.1) Try.underlying67 rfl (by rw [thC_size]; exact sizeThr)) hS ?_
  try simp only [Act.put, List.setIfInBounds_toArray, List.set_cons_zero, List.set_cons_succ]
  refine wpAnyH_take (i := 3) (oi := ⟨some 8, _, _, _, _, _⟩) (v := ?vsame1) rfl (by kernel_rfl) (by kernel_rfl) (by kernel_rfl) (fun _ _ _ h => h) (Or.inl ⟨by rfl, ?hsame1⟩) hS ?rsame1
  case hsame1 => (intro w' hSw; (try dsimp only at hSw); go_simp; (try with_reducible rfl))
  try simp only [Act.put, List.setIfInBounds_toArray, List.set_cons_zero, List.set_cons_succ]
  refine wpAnyH_ready (rs := [2]) (by kernel_rfl) (by simp) ?_
  refine AllReadyH.cons (o := ⟨some 7, _, _, _, _, _⟩) rfl (fun K' hK' => ?_) AllReadyH.nil
  go_simp
  go_at_call 80
  refine (HM.out _).mono ?_
  rintro e w2 ⟨rfl, hx2⟩
  have hx2 : Below W1.heap.size W1 w2 := ((Below.refl W1.heap.size W1).drew).trans hx2
  have kb2 := kb.below hx2 kb.lt
  have k2 := (hx2.block _ (heap_lt k1)).trans k1
  have c2 := (bcell hx2 (cell_lt c1)).trans c1
  refine hK'.out _ _ ⟨kb2, k2, c2⟩ (fun _ => ?_)
  clear hK' K'
  try simp only [Act.put, List.setIfInBounds_toArray, List.set_cons_zero, List.set_cons_succ]
  refine wpAnyH_take (i := 4) (oi := ⟨some 9, _, _, _, _, _⟩) (v := ?vsame2) rfl (by kernel_rfl) (by kernel_rfl) (by kernel_rfl) (fun _ _ _ h => h) (Or.inl ⟨by rfl, ?hsame2⟩) ⟨kb2, k2, c2⟩ ?rsame2
  case hsame2 => (intro w' hSw; (try dsimp only at hSw); go_simp; (try with_reducible rfl))
  try simp only [Act.put, List.setIfInBounds_toArray, List.set_cons_zero, List.set_cons_succ]
  refine wpAnyH_ready (rs := [5]) (by kernel_rfl) (by simp) ?_
  refine AllReadyH.cons (o := ⟨some 4, _, _, _, _, _⟩) rfl (fun K' hK' => ?_) AllReadyH.nil
  go_simp
  refine hK'.out _ _ ⟨kb2, k2, c2⟩ (fun _ => ?_)
  clear hK' K'
  try simp only [Act.put, List.setIfInBounds_toArray, List.set_cons_zero, List.set_cons_succ]
  refine wpAnyH_done (by kernel_rfl) ?_ _
  go_wp2
  go_ret
  exact ⟨ret_bool (by show _ = (mostN t f == a); rw [← HV.out, Bool.eq_iff_iff]; try (simp; try omega)), hB.trans (hx2.mono hB.size)⟩

set_option maxRecDepth 100000 in
set_option maxHeartbeats 1000000 in
theorem runs_wants (gc gs d f a : Nat) (hd : d ≤ 8) (hf : f ≤ 12) : Wants 82 #[.pointer (some ⟨gc, 0, none⟩), .pointer (some ⟨gs, 0, none⟩)] d f (fun t => decide (a ≤ lonN t f)) (pairI gc gs d f a) := by
  intro t W ht ⟨hI1, hI2⟩
  have lc := heap_lt hI1
  have ls := cell_lt hI2
  obtain ⟨W1, hW1⟩ : ∃ W1, W1 = W.alloc (.cells (thC (gt t)) 67) := ⟨_, rfl⟩
  have hB : Below W.heap.size W W1 := by rw [hW1]; exact below1 _ _
  have kb : TA W1 W.heap.size 67 (gt t) := by rw [hW1]; exact heap_alloc_at _ _ _ rfl
  have k1 := (hB.block gc lc).trans hI1
  have c1 : W1.cell? ⟨gs, 0, none⟩ = some (.int .i64 (a : Int)) := (bcell hB ls).trans hI2
  have hm := fun w => longest_any d f t w hd hf ht
  obtain ⟨v, hv⟩ : ∃ v, v = lonN t f := ⟨_, rfl⟩
  rw [← hv] at hm
  have HM := Lib.hid hm; have HV := Lib.hid hv; have HW := Lib.hid hW1
  have sizeCup : (Try.prog.info? 61).map (·.size) = some 2 := by kernel_rfl
  clear hI1 hI2 hm hv hW1
  show Calls Try.prog 82 #[.agg (thC (gt t)), .pointer (some ⟨gc, 0, none⟩), .pointer (some ⟨gs, 0, none⟩)] W _
  go_enter Try.func82, Try.ntmps82
  go_wp2_with fail
  rw [← HW.out]
  refine wp_region_held_drew (S := (fun w' => TA w' W.heap.size 67 (gt t) ∧ w'.heap[gc]? = some (.cells #[.int .i64 d, .int .i64 f] 61 (0, 0)) ∧ w'.cell? ⟨gs, 0, none⟩ = some (.int .i64 (a : Int)))) (by kernel_rfl) ⟨kb, k1, c1⟩ (fun hS => ?_)
  refine wpAnyH_take (i := 0) (oi := ⟨some 5, _, _, _, _, _⟩) rfl (by kernel_rfl) (by kernel_rfl) (by kernel_rfl) (fun _ _ _ h => h) (yields_load_row rfl 61 (.tmp 1) rfl gc rfl _ _ _ _ (fun _ h => h.2.1) Try.underlying61 rfl sizeCup) hS ?_
  try simp only [Act.put, List.setIfInBounds_toArray, List.set_cons_zero, List.set_cons_succ]
  refine wpAnyH_take (i := 1) (oi := ⟨some 6, _, _, _, _, _⟩) rfl (by kernel_rfl) (by kernel_rfl) (by kernel_rfl) (fun _ _ _ h => h) (yields_load_row rfl 67 (.tmp 3) rfl W.heap.size rfl _ _ _ _ (fun _ h => h.1) Try.underlying67 rfl (by rw [thC_size]; exact sizeThr)) hS ?_
  try simp only [Act.put, List.setIfInBounds_toArray, List.set_cons_zero, List.set_cons_succ]
  refine wpAnyH_take (i := 3) (oi := ⟨some 8, _, _, _, _, _⟩) (v := ?vruns1) rfl (by kernel_rfl) (by kernel_rfl) (by kernel_rfl) (fun _ _ _ h => h) (Or.inl ⟨by rfl, ?hruns1⟩) hS ?rruns1
  case hruns1 => (intro w' hSw; (try dsimp only at hSw); go_simp; (try with_reducible rfl))
  try simp only [Act.put, List.setIfInBounds_toArray, List.set_cons_zero, List.set_cons_succ]
  refine wpAnyH_ready (rs := [2]) (by kernel_rfl) (by simp) ?_
  refine AllReadyH.cons (o := ⟨some 7, _, _, _, _, _⟩) rfl (fun K' hK' => ?_) AllReadyH.nil
  go_simp
  go_at_call 83
  refine (HM.out _).mono ?_
  rintro e w2 ⟨rfl, hx2⟩
  have hx2 : Below W1.heap.size W1 w2 := ((Below.refl W1.heap.size W1).drew).trans hx2
  have kb2 := kb.below hx2 kb.lt
  have k2 := (hx2.block _ (heap_lt k1)).trans k1
  have c2 := (bcell hx2 (cell_lt c1)).trans c1
  refine hK'.out _ _ ⟨kb2, k2, c2⟩ (fun _ => ?_)
  clear hK' K'
  try simp only [Act.put, List.setIfInBounds_toArray, List.set_cons_zero, List.set_cons_succ]
  refine wpAnyH_take (i := 4) (oi := ⟨some 9, _, _, _, _, _⟩) (v := ?vruns2) rfl (by kernel_rfl) (by kernel_rfl) (by kernel_rfl) (fun _ _ _ h => h) (Or.inl ⟨by rfl, ?hruns2⟩) ⟨kb2, k2, c2⟩ ?rruns2
  case hruns2 => (intro w' hSw; (try dsimp only at hSw); go_simp; (try with_reducible rfl))
  try simp only [Act.put, List.setIfInBounds_toArray, List.set_cons_zero, List.set_cons_succ]
  refine wpAnyH_ready (rs := [5]) (by kernel_rfl) (by simp) ?_
  refine AllReadyH.cons (o := ⟨some 4, _, _, _, _, _⟩) rfl (fun K' hK' => ?_) AllReadyH.nil
  go_simp
  refine hK'.out _ _ ⟨kb2, k2, c2⟩ (fun _ => ?_)
  clear hK' K'
  try simp only [Act.put, List.setIfInBounds_toArray, List.set_cons_zero, List.set_cons_succ]
  refine wpAnyH_done (by kernel_rfl) ?_ _
  go_wp2
  go_ret
  exact ⟨ret_bool (by show _ = (decide (a ≤ lonN t f)); rw [← HV.out, Bool.eq_iff_iff]; try (simp; try omega)), hB.trans (hx2.mono hB.size)⟩

theorem countSome_enters : EntersT 76 := fun _ _ => Try.call76 _ _
set_option maxRecDepth 100000 in
set_option maxHeartbeats 1000000 in
theorem implCountSome_yes (d f a : Nat) (w : World) (hd1 : 1 ≤ d) (hd : d ≤ 8) (hf1 : 1 ≤ f) (hf : f ≤ 12) (ha1 : 1 ≤ a) (ha : a ≤ f) :
    Calls Try.prog 35 #[.int .i64 d, .int .i64 f, .int .i64 a] w fun e w' => e = .returned (.tuple #[.int .i64 (W d f (fun t => is (decide (0 < t.count a))) : Nat), .bool true]) ∧ Below w.heap.size w w' := by
  obtain ⟨N, hN⟩ : ∃ N, N = W d f (fun t => is (decide (0 < t.count a))) := ⟨_, rfl⟩
  have HN := Lib.hid hN
  clear hN
  have hc : cupB (d : Int) (f : Int) = true := cupB_iff.2 (by omega)
  have hB1 := below1 w (.cells #[.int .i64 a] 3)
  have k1 : (w.alloc (.cells #[.int .i64 a] 3)).heap[w.heap.size]? = some (.cells #[.int .i64 a] 3 (0, 0)) := heap_alloc_at _ _ _ rfl
  have hfb : faceB (f : Int) (a : Int) = true := faceB_iff.2 (by omega)
  have HFB := Lib.hid hfb
  clear hfb
  go_enter Try.func35, Try.ntmps35
  go_wp2_with fail
  refine (cupOf_yes _ _ _ hc).mono ?_
  rintro e w1 ⟨rfl, hx1⟩
  have hB2 := hB1.trans (hx1.mono (by simp))
  have k2 := (hx1.block w.heap.size (by simp)).trans k1
  have hlt := heap_lt k2
  have hB3 := hB2.alloc hB2.size (.cells #[.int .i64 d, .int .i64 f] 61)
  have k3 := (Below.heap_alloc w1 (.cells #[.int .i64 d, .int .i64 f] 61) _ hlt).trans k2
  have kc : (w1.alloc (.cells #[.int .i64 d, .int .i64 f] 61)).heap[w1.heap.size]? = some (.cells #[.int .i64 d, .int .i64 f] 61 (0, 0)) := heap_alloc_at _ _ _ rfl
  have q3 := fun i => cell_of_row (w1.alloc (.cells #[.int .i64 d, .int .i64 f] 61)) w.heap.size i _ _ _ k3
  obtain ⟨w3, hw3⟩ : ∃ w3, w3 = w1.alloc (.cells #[.int .i64 d, .int .i64 f] 61) := ⟨_, rfl⟩
  have hlc : w1.heap.size < w3.heap.size := by rw [hw3]; simp
  rw [← hw3] at k3 kc hB3
  have HW3 := Lib.hid hw3
  clear hx1 k2 hB2 hw3
  go_wp2_with fail
  rw [← HW3.out]
  refine (hasFace_any _ _ _ _).mono ?_
  rintro e w4 ⟨rfl, hx4⟩
  rw [HFB.out]
  have hB4 := hB3.trans (hx4.mono hB3.size)
  have k4 := (hx4.block _ (heap_lt k3)).trans k3
  have kc4 := (hx4.block _ (heap_lt kc)).trans kc
  have q4 := fun i => cell_of_row w4 w1.heap.size i _ _ _ kc4
  have c4 : w4.cell? ⟨w.heap.size, 0, none⟩ = some (.int .i64 (a : Int)) := (cell_of_row _ _ _ _ _ _ k4).trans rfl
  clear q3 HW3
  go_wp2_with fail
  refine (count_any d f 76 _ (fun t => decide (0 < t.count a)) (faceI w.heap.size a) _ hd1 hd hf1 hf countSome_enters (faceI_stable _ _ _ (heap_lt k4)) (some_wants _ d f a hd hf ha1 (by omega)) (c4)).mono ?_
  rintro e w5 ⟨rfl, hx5⟩
  rw [← HN.out]
  go_wp2
  go_ret2
  exact ⟨by rw [← HN.out]; rfl, hB4.trans (hx5.mono hB4.size)⟩

theorem countGreatest_enters : EntersT 61 := fun _ _ => Try.call61 _ _
set_option maxRecDepth 100000 in
set_option maxHeartbeats 1000000 in
theorem implCountGreatest_yes (d f a : Nat) (w : World) (hd1 : 1 ≤ d) (hd : d ≤ 8) (hf1 : 1 ≤ f) (hf : f ≤ 12) (ha1 : 1 ≤ a) (ha : a ≤ f) :
    Calls Try.prog 20 #[.int .i64 d, .int .i64 f, .int .i64 a] w fun e w' => e = .returned (.tuple #[.int .i64 (W d f (fun t => is (gt t 0 == a)) : Nat), .bool true]) ∧ Below w.heap.size w w' := by
  obtain ⟨N, hN⟩ : ∃ N, N = W d f (fun t => is (gt t 0 == a)) := ⟨_, rfl⟩
  have HN := Lib.hid hN
  clear hN
  have hc : cupB (d : Int) (f : Int) = true := cupB_iff.2 (by omega)
  have hB1 := below1 w (.cells #[.int .i64 a] 3)
  have k1 : (w.alloc (.cells #[.int .i64 a] 3)).heap[w.heap.size]? = some (.cells #[.int .i64 a] 3 (0, 0)) := heap_alloc_at _ _ _ rfl
  have hfb : faceB (f : Int) (a : Int) = true := faceB_iff.2 (by omega)
  have HFB := Lib.hid hfb
  clear hfb
  go_enter Try.func20, Try.ntmps20
  go_wp2_with fail
  refine (cupOf_yes _ _ _ hc).mono ?_
  rintro e w1 ⟨rfl, hx1⟩
  have hB2 := hB1.trans (hx1.mono (by simp))
  have k2 := (hx1.block w.heap.size (by simp)).trans k1
  have hlt := heap_lt k2
  have hB3 := hB2.alloc hB2.size (.cells #[.int .i64 d, .int .i64 f] 61)
  have k3 := (Below.heap_alloc w1 (.cells #[.int .i64 d, .int .i64 f] 61) _ hlt).trans k2
  have kc : (w1.alloc (.cells #[.int .i64 d, .int .i64 f] 61)).heap[w1.heap.size]? = some (.cells #[.int .i64 d, .int .i64 f] 61 (0, 0)) := heap_alloc_at _ _ _ rfl
  have q3 := fun i => cell_of_row (w1.alloc (.cells #[.int .i64 d, .int .i64 f] 61)) w.heap.size i _ _ _ k3
  obtain ⟨w3, hw3⟩ : ∃ w3, w3 = w1.alloc (.cells #[.int .i64 d, .int .i64 f] 61) := ⟨_, rfl⟩
  have hlc : w1.heap.size < w3.heap.size := by rw [hw3]; simp
  rw [← hw3] at k3 kc hB3
  have HW3 := Lib.hid hw3
  clear hx1 k2 hB2 hw3
  go_wp2_with fail
  rw [← HW3.out]
  refine (hasFace_any _ _ _ _).mono ?_
  rintro e w4 ⟨rfl, hx4⟩
  rw [HFB.out]
  have hB4 := hB3.trans (hx4.mono hB3.size)
  have k4 := (hx4.block _ (heap_lt k3)).trans k3
  have kc4 := (hx4.block _ (heap_lt kc)).trans kc
  have q4 := fun i => cell_of_row w4 w1.heap.size i _ _ _ kc4
  have c4 : w4.cell? ⟨w.heap.size, 0, none⟩ = some (.int .i64 (a : Int)) := (cell_of_row _ _ _ _ _ _ k4).trans rfl
  clear q3 HW3
  go_wp2_with fail
  refine (count_any d f 61 _ (fun t => gt t 0 == a) (faceI w.heap.size a) _ hd1 hd hf1 hf countGreatest_enters (faceI_stable _ _ _ (heap_lt k4)) (greatest_wants _ d f a) (c4)).mono ?_
  rintro e w5 ⟨rfl, hx5⟩
  rw [← HN.out]
  go_wp2
  go_ret2
  exact ⟨by rw [← HN.out]; rfl, hB4.trans (hx5.mono hB4.size)⟩

theorem countSame_enters : EntersT 79 := fun _ _ => Try.call79 _ _
set_option maxRecDepth 100000 in
set_option maxHeartbeats 1000000 in
theorem implCountSame_yes (d f a : Nat) (w : World) (hd1 : 1 ≤ d) (hd : d ≤ 8) (hf1 : 1 ≤ f) (hf : f ≤ 12) (ha1 : 1 ≤ a) (ha : a ≤ 8) :
    Calls Try.prog 42 #[.int .i64 d, .int .i64 f, .int .i64 a] w fun e w' => e = .returned (.tuple #[.int .i64 (W d f (fun t => is (mostN t f == a)) : Nat), .bool true]) ∧ Below w.heap.size w w' := by
  obtain ⟨N, hN⟩ : ∃ N, N = W d f (fun t => is (mostN t f == a)) := ⟨_, rfl⟩
  have HN := Lib.hid hN
  clear hN
  have hc : cupB (d : Int) (f : Int) = true := cupB_iff.2 (by omega)
  have hB1 := below1 w (.cells #[.int .i64 a] 3)
  have k1 : (w.alloc (.cells #[.int .i64 a] 3)).heap[w.heap.size]? = some (.cells #[.int .i64 a] 3 (0, 0)) := heap_alloc_at _ _ _ rfl
  have h1 : ¬ (a : Int) < 1 := by omega
  have h2 : ¬ (8 : Int) < (a : Int) := by omega
  go_enter Try.func42, Try.ntmps42
  go_wp2_with fail
  refine (cupOf_yes _ _ _ hc).mono ?_
  rintro e w1 ⟨rfl, hx1⟩
  have hB2 := hB1.trans (hx1.mono (by simp))
  have k2 := (hx1.block w.heap.size (by simp)).trans k1
  have hlt := heap_lt k2
  have hB3 := hB2.alloc hB2.size (.cells #[.int .i64 d, .int .i64 f] 61)
  have k3 := (Below.heap_alloc w1 (.cells #[.int .i64 d, .int .i64 f] 61) _ hlt).trans k2
  have kc : (w1.alloc (.cells #[.int .i64 d, .int .i64 f] 61)).heap[w1.heap.size]? = some (.cells #[.int .i64 d, .int .i64 f] 61 (0, 0)) := heap_alloc_at _ _ _ rfl
  have q3 := fun i => cell_of_row (w1.alloc (.cells #[.int .i64 d, .int .i64 f] 61)) w.heap.size i _ _ _ k3
  obtain ⟨w3, hw3⟩ : ∃ w3, w3 = w1.alloc (.cells #[.int .i64 d, .int .i64 f] 61) := ⟨_, rfl⟩
  have hlc : w1.heap.size < w3.heap.size := by rw [hw3]; simp
  rw [← hw3] at k3 kc hB3
  have HW3 := Lib.hid hw3
  clear hx1 k2 hB2 hw3
  go_wp2_with fail
  rw [← HW3.out]
  clear q3
  refine (count_any d f 79 _ (fun t => mostN t f == a) (pairI w1.heap.size w.heap.size d f a) _ hd1 hd hf1 hf countSame_enters (pairI_stable _ _ _ _ _ _ hlc (heap_lt k3)) (same_wants _ _ d f a hd hf) (⟨kc, (cell_of_row _ _ _ _ _ _ k3).trans rfl⟩)).mono ?_
  rintro e w5 ⟨rfl, hx5⟩
  rw [← HN.out]
  go_wp2
  go_ret2
  exact ⟨by rw [← HN.out]; rfl, hB3.trans (hx5.mono hB3.size)⟩

theorem countRuns_enters : EntersT 82 := fun _ _ => Try.call82 _ _
set_option maxRecDepth 100000 in
set_option maxHeartbeats 1000000 in
theorem implCountRuns_yes (d f a : Nat) (w : World) (hd1 : 1 ≤ d) (hd : d ≤ 8) (hf1 : 1 ≤ f) (hf : f ≤ 12) (ha1 : 1 ≤ a) (ha : a ≤ 12) :
    Calls Try.prog 45 #[.int .i64 d, .int .i64 f, .int .i64 a] w fun e w' => e = .returned (.tuple #[.int .i64 (W d f (fun t => is (decide (a ≤ lonN t f))) : Nat), .bool true]) ∧ Below w.heap.size w w' := by
  obtain ⟨N, hN⟩ : ∃ N, N = W d f (fun t => is (decide (a ≤ lonN t f))) := ⟨_, rfl⟩
  have HN := Lib.hid hN
  clear hN
  have hc : cupB (d : Int) (f : Int) = true := cupB_iff.2 (by omega)
  have hB1 := below1 w (.cells #[.int .i64 a] 3)
  have k1 : (w.alloc (.cells #[.int .i64 a] 3)).heap[w.heap.size]? = some (.cells #[.int .i64 a] 3 (0, 0)) := heap_alloc_at _ _ _ rfl
  have h1 : ¬ (a : Int) < 1 := by omega
  have h2 : ¬ (12 : Int) < (a : Int) := by omega
  go_enter Try.func45, Try.ntmps45
  go_wp2_with fail
  refine (cupOf_yes _ _ _ hc).mono ?_
  rintro e w1 ⟨rfl, hx1⟩
  have hB2 := hB1.trans (hx1.mono (by simp))
  have k2 := (hx1.block w.heap.size (by simp)).trans k1
  have hlt := heap_lt k2
  have hB3 := hB2.alloc hB2.size (.cells #[.int .i64 d, .int .i64 f] 61)
  have k3 := (Below.heap_alloc w1 (.cells #[.int .i64 d, .int .i64 f] 61) _ hlt).trans k2
  have kc : (w1.alloc (.cells #[.int .i64 d, .int .i64 f] 61)).heap[w1.heap.size]? = some (.cells #[.int .i64 d, .int .i64 f] 61 (0, 0)) := heap_alloc_at _ _ _ rfl
  have q3 := fun i => cell_of_row (w1.alloc (.cells #[.int .i64 d, .int .i64 f] 61)) w.heap.size i _ _ _ k3
  obtain ⟨w3, hw3⟩ : ∃ w3, w3 = w1.alloc (.cells #[.int .i64 d, .int .i64 f] 61) := ⟨_, rfl⟩
  have hlc : w1.heap.size < w3.heap.size := by rw [hw3]; simp
  rw [← hw3] at k3 kc hB3
  have HW3 := Lib.hid hw3
  clear hx1 k2 hB2 hw3
  go_wp2_with fail
  rw [← HW3.out]
  clear q3
  refine (count_any d f 82 _ (fun t => decide (a ≤ lonN t f)) (pairI w1.heap.size w.heap.size d f a) _ hd1 hd hf1 hf countRuns_enters (pairI_stable _ _ _ _ _ _ hlc (heap_lt k3)) (runs_wants _ _ d f a hd hf) (⟨kc, (cell_of_row _ _ _ _ _ _ k3).trans rfl⟩)).mono ?_
  rintro e w5 ⟨rfl, hx5⟩
  rw [← HN.out]
  go_wp2
  go_ret2
  exact ⟨by rw [← HN.out]; rfl, hB3.trans (hx5.mono hB3.size)⟩

set_option maxRecDepth 100000 in
set_option maxHeartbeats 1000000 in
theorem implCountSome_no (d f a : Int) (w : World) (h : cupB d f = false ∨ faceB f a = false) :
    Calls Try.prog 35 #[.int .i64 d, .int .i64 f, .int .i64 a] w fun e w' => e = .returned (.tuple #[.int .i64 0, .bool false]) ∧ Below w.heap.size w w' := by
  have hB1 := below1 w (.cells #[.int .i64 a] 3)
  have k1 : (w.alloc (.cells #[.int .i64 a] 3)).heap[w.heap.size]? = some (.cells #[.int .i64 a] 3 (0, 0)) := heap_alloc_at _ _ _ rfl
  cases hc : cupB d f
  · clear h
    go_enter Try.func35, Try.ntmps35
    go_wp2_with fail
    refine (cupOf_no _ _ _ hc).mono ?_
    rintro e w1 ⟨rfl, hx1⟩
    have hB2 := hB1.trans (hx1.mono (by simp))
    have hB3 := hB2.alloc hB2.size (.cells #[.int .i64 0, .int .i64 0] 61)
    go_wp2
    go_ret2
    exact ⟨rfl, hB3⟩
  · have hfb : faceB f a = false := by
      rcases h with h | h
      · rw [hc] at h; cases h
      · exact h
    have HFB := Lib.hid hfb
    clear h hfb
    go_enter Try.func35, Try.ntmps35
    go_wp2_with fail
    refine (cupOf_yes _ _ _ hc).mono ?_
    rintro e w1 ⟨rfl, hx1⟩
    have hB2 := hB1.trans (hx1.mono (by simp))
    have k2 := (hx1.block w.heap.size (by simp)).trans k1
    have hlt := heap_lt k2
    have hB3 := hB2.alloc hB2.size (.cells #[.int .i64 d, .int .i64 f] 61)
    have k3 := (Below.heap_alloc w1 (.cells #[.int .i64 d, .int .i64 f] 61) _ hlt).trans k2
    have q3 := fun i => cell_of_row (w1.alloc (.cells #[.int .i64 d, .int .i64 f] 61)) w.heap.size i _ _ _ k3
    go_wp2_with fail
    refine (hasFace_any _ _ _ _).mono ?_
    rintro e w4 ⟨rfl, hx4⟩
    rw [HFB.out]
    have hB4 := hB3.trans (hx4.mono hB3.size)
    go_wp2
    go_ret2
    exact ⟨rfl, hB4⟩

set_option maxRecDepth 100000 in
set_option maxHeartbeats 1000000 in
theorem implCountGreatest_no (d f a : Int) (w : World) (h : cupB d f = false ∨ faceB f a = false) :
    Calls Try.prog 20 #[.int .i64 d, .int .i64 f, .int .i64 a] w fun e w' => e = .returned (.tuple #[.int .i64 0, .bool false]) ∧ Below w.heap.size w w' := by
  have hB1 := below1 w (.cells #[.int .i64 a] 3)
  have k1 : (w.alloc (.cells #[.int .i64 a] 3)).heap[w.heap.size]? = some (.cells #[.int .i64 a] 3 (0, 0)) := heap_alloc_at _ _ _ rfl
  cases hc : cupB d f
  · clear h
    go_enter Try.func20, Try.ntmps20
    go_wp2_with fail
    refine (cupOf_no _ _ _ hc).mono ?_
    rintro e w1 ⟨rfl, hx1⟩
    have hB2 := hB1.trans (hx1.mono (by simp))
    have hB3 := hB2.alloc hB2.size (.cells #[.int .i64 0, .int .i64 0] 61)
    go_wp2
    go_ret2
    exact ⟨rfl, hB3⟩
  · have hfb : faceB f a = false := by
      rcases h with h | h
      · rw [hc] at h; cases h
      · exact h
    have HFB := Lib.hid hfb
    clear h hfb
    go_enter Try.func20, Try.ntmps20
    go_wp2_with fail
    refine (cupOf_yes _ _ _ hc).mono ?_
    rintro e w1 ⟨rfl, hx1⟩
    have hB2 := hB1.trans (hx1.mono (by simp))
    have k2 := (hx1.block w.heap.size (by simp)).trans k1
    have hlt := heap_lt k2
    have hB3 := hB2.alloc hB2.size (.cells #[.int .i64 d, .int .i64 f] 61)
    have k3 := (Below.heap_alloc w1 (.cells #[.int .i64 d, .int .i64 f] 61) _ hlt).trans k2
    have q3 := fun i => cell_of_row (w1.alloc (.cells #[.int .i64 d, .int .i64 f] 61)) w.heap.size i _ _ _ k3
    go_wp2_with fail
    refine (hasFace_any _ _ _ _).mono ?_
    rintro e w4 ⟨rfl, hx4⟩
    rw [HFB.out]
    have hB4 := hB3.trans (hx4.mono hB3.size)
    go_wp2
    go_ret2
    exact ⟨rfl, hB4⟩

set_option maxRecDepth 100000 in
set_option maxHeartbeats 1000000 in
theorem implCountSame_no (d f a : Int) (w : World) (h : cupB d f = false ∨ (a < 1 ∨ 8 < a)) :
    Calls Try.prog 42 #[.int .i64 d, .int .i64 f, .int .i64 a] w fun e w' => e = .returned (.tuple #[.int .i64 0, .bool false]) ∧ Below w.heap.size w w' := by
  have hB1 := below1 w (.cells #[.int .i64 a] 3)
  have k1 : (w.alloc (.cells #[.int .i64 a] 3)).heap[w.heap.size]? = some (.cells #[.int .i64 a] 3 (0, 0)) := heap_alloc_at _ _ _ rfl
  cases hc : cupB d f
  · clear h
    go_enter Try.func42, Try.ntmps42
    go_wp2_with fail
    refine (cupOf_no _ _ _ hc).mono ?_
    rintro e w1 ⟨rfl, hx1⟩
    have hB2 := hB1.trans (hx1.mono (by simp))
    have hB3 := hB2.alloc hB2.size (.cells #[.int .i64 0, .int .i64 0] 61)
    go_wp2
    go_ret2
    exact ⟨rfl, hB3⟩
  · have hn : a < 1 ∨ 8 < a := by
      rcases h with h | h
      · rw [hc] at h; cases h
      · exact h
    clear h
    rcases hn with hn | hn
    · go_enter Try.func42, Try.ntmps42
      go_wp2_with fail
      refine (cupOf_yes _ _ _ hc).mono ?_
      rintro e w1 ⟨rfl, hx1⟩
      have hB2 := hB1.trans (hx1.mono (by simp))
      have k2 := (hx1.block w.heap.size (by simp)).trans k1
      have hlt := heap_lt k2
      have hB3 := hB2.alloc hB2.size (.cells #[.int .i64 d, .int .i64 f] 61)
      have k3 := (Below.heap_alloc w1 (.cells #[.int .i64 d, .int .i64 f] 61) _ hlt).trans k2
      have q3 := fun i => cell_of_row (w1.alloc (.cells #[.int .i64 d, .int .i64 f] 61)) w.heap.size i _ _ _ k3
      go_wp2
      go_ret2
      exact ⟨rfl, hB3⟩
    · have hn1 : ¬ a < 1 := by omega
      go_enter Try.func42, Try.ntmps42
      go_wp2_with fail
      refine (cupOf_yes _ _ _ hc).mono ?_
      rintro e w1 ⟨rfl, hx1⟩
      have hB2 := hB1.trans (hx1.mono (by simp))
      have k2 := (hx1.block w.heap.size (by simp)).trans k1
      have hlt := heap_lt k2
      have hB3 := hB2.alloc hB2.size (.cells #[.int .i64 d, .int .i64 f] 61)
      have k3 := (Below.heap_alloc w1 (.cells #[.int .i64 d, .int .i64 f] 61) _ hlt).trans k2
      have q3 := fun i => cell_of_row (w1.alloc (.cells #[.int .i64 d, .int .i64 f] 61)) w.heap.size i _ _ _ k3
      go_wp2
      go_ret2
      exact ⟨rfl, hB3⟩

set_option maxRecDepth 100000 in
set_option maxHeartbeats 1000000 in
theorem implCountRuns_no (d f a : Int) (w : World) (h : cupB d f = false ∨ (a < 1 ∨ 12 < a)) :
    Calls Try.prog 45 #[.int .i64 d, .int .i64 f, .int .i64 a] w fun e w' => e = .returned (.tuple #[.int .i64 0, .bool false]) ∧ Below w.heap.size w w' := by
  have hB1 := below1 w (.cells #[.int .i64 a] 3)
  have k1 : (w.alloc (.cells #[.int .i64 a] 3)).heap[w.heap.size]? = some (.cells #[.int .i64 a] 3 (0, 0)) := heap_alloc_at _ _ _ rfl
  cases hc : cupB d f
  · clear h
    go_enter Try.func45, Try.ntmps45
    go_wp2_with fail
    refine (cupOf_no _ _ _ hc).mono ?_
    rintro e w1 ⟨rfl, hx1⟩
    have hB2 := hB1.trans (hx1.mono (by simp))
    have hB3 := hB2.alloc hB2.size (.cells #[.int .i64 0, .int .i64 0] 61)
    go_wp2
    go_ret2
    exact ⟨rfl, hB3⟩
  · have hn : a < 1 ∨ 12 < a := by
      rcases h with h | h
      · rw [hc] at h; cases h
      · exact h
    clear h
    rcases hn with hn | hn
    · go_enter Try.func45, Try.ntmps45
      go_wp2_with fail
      refine (cupOf_yes _ _ _ hc).mono ?_
      rintro e w1 ⟨rfl, hx1⟩
      have hB2 := hB1.trans (hx1.mono (by simp))
      have k2 := (hx1.block w.heap.size (by simp)).trans k1
      have hlt := heap_lt k2
      have hB3 := hB2.alloc hB2.size (.cells #[.int .i64 d, .int .i64 f] 61)
      have k3 := (Below.heap_alloc w1 (.cells #[.int .i64 d, .int .i64 f] 61) _ hlt).trans k2
      have q3 := fun i => cell_of_row (w1.alloc (.cells #[.int .i64 d, .int .i64 f] 61)) w.heap.size i _ _ _ k3
      go_wp2
      go_ret2
      exact ⟨rfl, hB3⟩
    · have hn1 : ¬ a < 1 := by omega
      go_enter Try.func45, Try.ntmps45
      go_wp2_with fail
      refine (cupOf_yes _ _ _ hc).mono ?_
      rintro e w1 ⟨rfl, hx1⟩
      have hB2 := hB1.trans (hx1.mono (by simp))
      have k2 := (hx1.block w.heap.size (by simp)).trans k1
      have hlt := heap_lt k2
      have hB3 := hB2.alloc hB2.size (.cells #[.int .i64 d, .int .i64 f] 61)
      have k3 := (Below.heap_alloc w1 (.cells #[.int .i64 d, .int .i64 f] 61) _ hlt).trans k2
      have q3 := fun i => cell_of_row (w1.alloc (.cells #[.int .i64 d, .int .i64 f] 61)) w.heap.size i _ _ _ k3
      go_wp2
      go_ret2
      exact ⟨rfl, hB3⟩
end Go.Proofs.Ytnohpclaccaijab

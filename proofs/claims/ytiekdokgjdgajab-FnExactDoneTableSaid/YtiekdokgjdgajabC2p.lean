/-
  DoneTable, the model's and the program's.
-/
import Derived.Test.YtiekdokgjdgajabC2t
import Derived.Test.YtiekdokgjdgajabC2m
import Derived.Test.YtiekdokgjdgajabC2h
namespace Go.Proofs.Ytiekdokgjdgajab
open Go.RowKit

/-- How many lists of 0, 1, .. throws lead to the end, of the first k numbers. -/
def doneL (s f o : Int) (js : List (Int × Int)) (sq : Int) (k : Nat) : List Int := (List.range k).map (fun (i : Nat) => pl s f o js sq i s)
theorem doneL_succ (s f o : Int) (js : List (Int × Int)) (sq : Int) (k : Nat) : doneL s f o js sq (k + 1) = doneL s f o js sq k ++ [pl s f o js sq k s] := by simp [doneL, List.range_succ]
theorem doneL_len (s f o : Int) (js : List (Int × Int)) (sq : Int) (k : Nat) : (doneL s f o js sq k).length = k := by simp [doneL]
def doneR (s f o : Int) (js : List (Int × Int)) (sq th : Int) : List Int × Bool := if asked s f o js sq && inB th 0 20 then (doneL s f o js sq (th.toNat + 1), true) else ([], false)
theorem doneR_len {s f o : Int} {js : List (Int × Int)} {sq th : Int} : (doneR s f o js sq th).1.length ≤ 1048576 := by
  unfold doneR
  by_cases h : (asked s f o js sq && inB th 0 20) = true
  · rw [if_pos h]
    rw [Bool.and_eq_true] at h
    have := inB_iff.1 h.2
    simp only [doneL_len]
    omega
  · rw [if_neg h]; simp

set_option maxRecDepth 100000 in
set_option maxHeartbeats 2000000 in
theorem specDoneTable_any (s f o : Int) (A : Option Addr) (c : Nat) (sq th : Int) (js : List (Int × Int)) (w : World) (hj : RJ w w.heap.size A js) :
    Calls Try.prog 40 #[.agg #[.int .i64 s, .int .i64 f, .int .i64 o, .slice A js.length c], .int .i64 sq, .int .i64 th] w (IntsBack w (doneR s f o js sq th)) := by
  have hl := hj.1
  cases ha : (asked s f o js sq && inB th 0 20)
  · have ht : doneR s f o js sq th = ([], false) := by rw [doneR, ha]; rfl
    rw [ht]
    have HA := Lib.hid ha; clear ha ht
    go_enter Try.func40, Try.ntmps40
    go_wp2_with (go_at_call 47; refine (chAsked_any _ _ _ _ _ _ _ _ _ (hj.go (below1 _ _))).mono ?_; rintro e w2 ⟨rfl, hx⟩; rw [HA.out])
    go_ret2
    exact ⟨none, 0, rfl, .inl rfl, (below1 _ _).trans (hx.mono (by simp))⟩
  · have ht : doneR s f o js sq th = (doneL s f o js sq (th.toNat + 1), true) := by rw [doneR, ha]; rfl
    rw [ht]
    have ha1 := ha
    rw [Bool.and_eq_true] at ha1
    have hz := good_sizes (asked_good ha1.1)
    have hth := inB_iff.1 ha1.2
    obtain ⟨t, rfl⟩ := Int.eq_ofNat_of_zero_le hth.1
    obtain ⟨S, rfl⟩ := Int.eq_ofNat_of_zero_le (show 0 ≤ s by omega)
    have HA := Lib.hid ha; have HA1 := Lib.hid ha1.1; clear ha ht ha1
    have ht20 : t ≤ 20 := by omega
    have iq : (S : Int) < ((nsq S : Nat) : Int) := by unfold nsq; omega
    have iqn : S < nsq S := by omega
    have iq0 : (0 : Int) ≤ (S : Int) := by omega
    obtain ⟨i0, hi, hz0, hz1, hz2⟩ := info_parts infoInt1
    simp only [Int.toNat_natCast]
    go_enter Try.func40, Try.ntmps40
    go_wp2_with fail
    refine (chAsked_any _ _ _ _ _ _ _ _ _ (hj.go (below1 _ _))).mono ?_
    rintro e w2 ⟨rfl, hx⟩
    rw [HA.out]
    have hb := box_on (Below.refl _ _) hx (by simp)
    go_wp2_with fail
    go_loopw [8, 9] (fun v i wr => ∃ k : Nat, k ≤ t + 1 ∧ i = .int .i64 (k : Int) ∧ Below (w.heap.size + 1) (w.alloc (.cells #[.int .i64 S, .int .i64 f, .int .i64 o, .slice A js.length c] 31)) wr ∧ wr.ownsRow (w.heap.size + 1) 3 1 v k ((doneL S f o js sq k).map (Value.int .i64))) (fun _ i _ => t + 1 - (intOf i).toNat)
    case atStart => exact ⟨0, Nat.zero_le _, rfl, hb, World.ownsRow_nil _ _ _ _⟩
    case round =>
      clear hb
      obtain ⟨k, hk, rfl, hb, hown⟩ := hrel
      have q := boxcells hb
      have hs : w.heap.size < wr.heap.size := by have := hb.size; simp at this; omega
      by_cases hlt : k < t + 1
      · have h3 : (k : Int) ≤ (t : Int) := by omega
        have hbd := hb.drew
        have hownd : World.ownsRow wr.drew (w.heap.size + 1) 3 1 _ k ((doneL S f o js sq k).map (Value.int .i64)) := hown
        go_wp2_with fail
        refine wp_region_held_drew (S := (fun w' => Below (w.heap.size + 1) (w.alloc (.cells #[.int .i64 S, .int .i64 f, .int .i64 o, .slice A js.length c] 31)) w' ∧ (∀ i, w'.cell? ⟨w.heap.size, i, none⟩ = #[.int .i64 S, .int .i64 f, .int .i64 o, .slice A js.length c][i]?))) (by kernel_rfl) ⟨hbd, boxcells hbd⟩ (fun hS => ?_)
        refine wpAnyH_take (i := 0) (oi := ⟨some 20, _, _, _, _, _⟩) (v := ?va0) rfl (by kernel_rfl) (by kernel_rfl) (by kernel_rfl) (fun _ _ _ h => h) (Or.inl ⟨by rfl, ?ha0⟩) hS ?ra0
        case ha0 => (intro w' hSw; (try dsimp only at hSw); go_simp; (try with_reducible rfl))
        try simp only [Act.put, List.setIfInBounds_toArray, List.set_cons_zero, List.set_cons_succ]
        refine wpAnyH_take (i := 1) (oi := ⟨some 21, _, _, _, _, _⟩) (v := ?va1) rfl (by kernel_rfl) (by kernel_rfl) (by kernel_rfl) (fun _ _ _ h => h) (Or.inl ⟨by rfl, ?ha1⟩) hS ?ra1
        case ha1 => (intro w' hSw; (try dsimp only at hSw); go_simp; (try with_reducible rfl))
        try simp only [Act.put, List.setIfInBounds_toArray, List.set_cons_zero, List.set_cons_succ]
        refine wpAnyH_take (i := 2) (oi := ⟨some 22, _, _, _, _, _⟩) (v := ?va2) rfl (by kernel_rfl) (by kernel_rfl) (by kernel_rfl) (fun _ _ _ h => h) (Or.inl ⟨by rfl, ?ha2⟩) hS ?ra2
        case ha2 => (intro w' hSw; (try dsimp only at hSw); go_simp; (try with_reducible rfl))
        try simp only [Act.put, List.setIfInBounds_toArray, List.set_cons_zero, List.set_cons_succ]
        refine wpAnyH_take (i := 3) (oi := ⟨some 23, _, _, _, _, _⟩) (v := ?va3) rfl (by kernel_rfl) (by kernel_rfl) (by kernel_rfl) (fun _ _ _ h => h) (Or.inl ⟨by rfl, ?ha3⟩) hS ?ra3
        case ha3 => (intro w' hSw; (try dsimp only at hSw); go_simp; (try with_reducible rfl))
        try simp only [Act.put, List.setIfInBounds_toArray, List.set_cons_zero, List.set_cons_succ]
        refine wpAnyH_take (i := 5) (oi := ⟨some 25, _, _, _, _, _⟩) (v := ?va5) rfl (by kernel_rfl) (by kernel_rfl) (by kernel_rfl) (fun _ _ _ h => h) (Or.inl ⟨by rfl, ?ha5⟩) hS ?ra5
        case ha5 => (intro w' hSw; (try dsimp only at hSw); go_simp; (try with_reducible rfl))
        try simp only [Act.put, List.setIfInBounds_toArray, List.set_cons_zero, List.set_cons_succ]
        refine wpAnyH_take (i := 6) (oi := ⟨some 26, _, _, _, _, _⟩) (v := ?va6) rfl (by kernel_rfl) (by kernel_rfl) (by kernel_rfl) (fun _ _ _ h => h) (Or.inl ⟨by rfl, ?ha6⟩) hS ?ra6
        case ha6 => (intro w' hSw; (try dsimp only at hSw); go_simp; (try with_reducible rfl))
        try simp only [Act.put, List.setIfInBounds_toArray, List.set_cons_zero, List.set_cons_succ]
        refine wpAnyH_ready (rs := [4]) (by kernel_rfl) (by simp) ?_
        refine AllReadyH.cons (o := ⟨some 24, _, _, _, _, _⟩) rfl (fun K' hK' => ?_) AllReadyH.nil
        go_simp
        go_at_call 48
        refine (chPlaces_any _ _ _ _ _ _ k _ _ (hj.go ((below1 _ _).trans (hbd.mono (by omega)))) HA1.out (by omega)).mono ?_
        rintro e w4 ⟨g, rfl, hgg, hrow, hx4⟩
        have d4 := hrow.cell iqn
        have k1 := box_on hbd hx4 (by have := hbd.size; simpa using this)
        have ho4 := (own_below hownd hx4).alloc (.cells #[.int .i64 (pl S f o js sq k S)] 3)
        refine hK'.out _ _ ⟨k1, boxcells k1⟩ (fun _ => ?_)
        clear hK' K'
        try simp only [Act.put, List.setIfInBounds_toArray, List.set_cons_zero, List.set_cons_succ]
        refine wpAnyH_take (i := 7) (oi := ⟨some 27, _, _, _, _, _⟩) (v := ?va7) rfl (by kernel_rfl) (by kernel_rfl) (by kernel_rfl) (fun _ _ _ h => h) (Or.inl ⟨by rfl, ?ha7⟩) ⟨k1, boxcells k1⟩ ?ra7
        case ha7 => (intro w' hSw; (try dsimp only at hSw); go_simp; (try with_reducible rfl))
        try simp only [Act.put, List.setIfInBounds_toArray, List.set_cons_zero, List.set_cons_succ]
        refine wpAnyH_ready (rs := [8]) (by kernel_rfl) (by simp) ?_
        refine AllReadyH.cons (o := ⟨some 28, _, _, _, _, _⟩) rfl (fun K' hK' => ?_) AllReadyH.nil
        go_simp
        refine hK'.out _ _ ⟨k1, boxcells k1⟩ (fun _ => ?_)
        clear hK' K'
        try simp only [Act.put, List.setIfInBounds_toArray, List.set_cons_zero, List.set_cons_succ]
        refine wpAnyH_ready (rs := [9]) (by kernel_rfl) (by simp) ?_
        refine AllReadyH.cons (o := ⟨some 29, _, _, _, _, _⟩) rfl (fun K' hK' => ?_) AllReadyH.nil
        go_simp
        have k2 := k1.alloc (by have := k1.size; simpa using this) (.cells #[.int .i64 (pl S f o js sq k S)] 3)
        refine hK'.out _ _ ⟨k2, boxcells k2⟩ (fun _ => ?_)
        clear hK' K'
        try simp only [Act.put, List.setIfInBounds_toArray, List.set_cons_zero, List.set_cons_succ]
        refine wpAnyH_ready (rs := [10]) (by kernel_rfl) (by simp) ?_
        refine AllReadyH.cons (o := ⟨some 30, _, _, _, _, _⟩) rfl (fun K' hK' => ?_) AllReadyH.nil
        rw [if_pos (wanted_plain rfl)]
        refine wp_append_own _ _ _ 26 rfl (w.heap.size + 1) 3 i0 (.int .i64 0) 1 8 Try.underlying26 hi hz0 hz1 hz2 rfl (by decide) _ _ _ rfl ho4 ⟨w4.heap.size, 0, none⟩ 1 1 [.int .i64 (pl S f o js sq k S)] rfl rfl (cell_new1 _ _ _) (one_int _) (by unfold maxLen; omega) (by omega) (by have := k2.size; simpa using this) ?_
        intro v1 w5 hown5 hg5 _
        have k3 := k2.grown hg5 (by have := k2.size; simpa using this) (fun g hg => own_from ho4 g hg)
        refine hK'.out _ _ ⟨k3, boxcells k3⟩ (fun _ => ?_)
        clear hK' K'
        try simp only [Act.put, List.setIfInBounds_toArray, List.set_cons_zero, List.set_cons_succ]
        refine wpAnyH_ready (rs := [11]) (by kernel_rfl) (by simp) ?_
        refine AllReadyH.cons (o := ⟨some 8, _, _, _, _, _⟩) rfl (fun K' hK' => ?_) AllReadyH.nil
        go_simp
        refine hK'.out _ _ ⟨k3, boxcells k3⟩ (fun _ => ?_)
        clear hK' K'
        try simp only [Act.put, List.setIfInBounds_toArray, List.set_cons_zero, List.set_cons_succ]
        refine wpAnyH_done (by kernel_rfl) ?_ _
        go_wp2
        go_roundw
        case rel => exact ⟨k + 1, by omega, by go_num, k3, by rw [doneL_succ, List.map_append]; exact hown5⟩
        case measure => simp [intOf]; omega
      · have h3 : ¬ (k : Int) ≤ (t : Int) := by omega
        obtain rfl : k = t + 1 := by omega
        go_wp2
        obtain ⟨A', c', rfl, ho⟩ := own_oi hown (doneL_len _ _ _ _ _ _)
        go_ret2
        refine ⟨A', c', rfl, ?_, (below1 _ _).trans (hb.mono (by omega))⟩
        rcases ho with h | ⟨g, e, hg, hr⟩
        · exact .inl h
        · exact .inr ⟨g, e, by omega, hr⟩

theorem own_oth {g l b base e size n : Nat} {w y : World} {v : Value} {xs : List Value} (h : w.ownsRow base e size v n xs) (hx : Oth g l b w y) (h1 : g < base) (h2 : l < base) (h3 : b < base) : y.ownsRow base e size v n xs := by
  obtain ⟨h0, ⟨rfl, hz⟩ | ⟨g', cap, cs, rfl, hb, hh, r⟩⟩ := h
  · exact ⟨h0, .inl ⟨rfl, hz⟩⟩
  · exact ⟨h0, .inr ⟨g', cap, cs, rfl, hb, (hx.block g' (heap_lt hh) (by omega) (by omega) (by omega)).trans hh, r⟩⟩

set_option maxRecDepth 100000 in
set_option maxHeartbeats 1000000 in
theorem implDoneTable_any (s f o : Int) (A : Option Addr) (c : Nat) (sq th : Int) (js : List (Int × Int)) (w : World) (hj : RJ w w.heap.size A js) :
    Calls Try.prog 41 #[.agg #[.int .i64 s, .int .i64 f, .int .i64 o, .slice A js.length c], .int .i64 sq, .int .i64 th] w (IntsBack w (doneR s f o js sq th)) := by
  have hl := hj.1
  cases ha : asked s f o js sq
  · have ht : doneR s f o js sq th = ([], false) := by rw [doneR, ha]; rfl
    rw [ht]
    have hn : (asked s f o js sq && decide (0 ≤ (0 : Int)) && decide ((0 : Int) ≤ 20)) = false := by rw [ha]; rfl
    have hst := fun w => storeWalk 0 0 0 (fun _ => 0) 0 0 none none w
    have HN := Lib.hid hn; clear ha ht hn
    go_enter Try.func41, Try.ntmps41
    go_wp2_with (go_at_call 50; refine (walkHome_no _ _ _ _ _ _ _ _ _ _ (hj.go (below1 _ _)) HN.out).mono ?_; rintro e w2 ⟨rfl, hx⟩)
    go_ret2
    exact ⟨none, 0, rfl, .inl rfl, ((below1 _ _).trans (hx.mono (by simp))).alloc (by have := hx.size; simp at this; omega) _⟩
  · have hz := good_sizes (asked_good ha)
    have HA := Lib.hid ha
    have hst : ∀ (x y : Option Nat) (w : World), (storeCells ⟨w.heap.size, 0, none⟩ (wlkCells s f o (fun i => jumpOf js i) s 1 x y).toList 0).run Try.prog (w.alloc (.cells Try.zeroCells57 57)) = .ok () (w.alloc (.cells (wlkCells s f o (fun i => jumpOf js i) s 1 x y) 57)) := fun x y w => storeWalk _ _ _ _ _ _ _ _ w
    cases hi : inB th 0 20
    · have ht : doneR s f o js sq th = ([], false) := by rw [doneR, ha, hi]; rfl
      rw [ht]
      have hib := inB_false.1 hi
      clear ha ht hi
      rcases hib with hib | hib
      · go_enter Try.func41, Try.ntmps41
        go_wp2_with fail
        refine (walkHome_yes _ _ _ _ _ _ _ 0 _ _ (hj.go (below1 _ _)) HA.out (by omega) (by omega)).mono ?_
        rintro e w1 ⟨bl, bb, rfl, l0, b0, hne, l1, b1, hL, hE, hx⟩
        rw [Int.pow_zero]
        have HNE := Lib.hid hne; clear hne hL hE
        go_wp2
        go_ret2
        exact ⟨none, 0, rfl, .inl rfl, ((below1 _ _).trans (hx.mono (by simp))).alloc (by have := hx.size; simp at this; omega) _⟩
      · have hib2 : ¬ th < 0 := by omega
        go_enter Try.func41, Try.ntmps41
        go_wp2_with fail
        refine (walkHome_yes _ _ _ _ _ _ _ 0 _ _ (hj.go (below1 _ _)) HA.out (by omega) (by omega)).mono ?_
        rintro e w1 ⟨bl, bb, rfl, l0, b0, hne, l1, b1, hL, hE, hx⟩
        rw [Int.pow_zero]
        have HNE := Lib.hid hne; clear hne hL hE
        go_wp2
        go_ret2
        exact ⟨none, 0, rfl, .inl rfl, ((below1 _ _).trans (hx.mono (by simp))).alloc (by have := hx.size; simp at this; omega) _⟩
    · have ht : doneR s f o js sq th = (doneL s f o js sq (th.toNat + 1), true) := by rw [doneR, ha, hi]; rfl
      rw [ht]
      have hth := inB_iff.1 hi
      obtain ⟨t, rfl⟩ := Int.eq_ofNat_of_zero_le hth.1
      simp only [Int.toNat_natCast]
      have hmet : ∀ k, k ≤ 20 → sumTo (fun i => ct s f o js s sq k i true) 101 = pl s f o js sq k s ∧ pl s f o js sq k s ≤ 1152921504606846976 := fun k hk => by
        have h1 := pl_le (asked_good ha) (asked_on ha) k s
        have h2 := pow_lt63 hz.2.1.1 hz.2.1.2 hk
        exact ⟨ct_met (asked_good ha) sq k, by omega⟩
      have HMT := Lib.hid hmet
      clear ha ht hi hmet
      have g1 : ¬ (t : Int) < 0 := by omega
      have g2 : ¬ (20 : Int) < (t : Int) := by omega
      obtain ⟨i0, hi, hz0, hz1, hz2⟩ := info_parts infoInt1
      go_enter Try.func41, Try.ntmps41
      go_wp2_with fail
      refine (walkHome_yes _ _ _ _ _ _ _ 0 _ _ (hj.go (below1 _ _)) HA.out (by omega) (by omega)).mono ?_
      rintro e w1 ⟨bl, bb, rfl, l0, b0, hne, l1, b1, hL, hE, hx⟩
      rw [Int.pow_zero]
      have hs1 := hx.size
      simp only [World.size_alloc] at l0 b0 hs1
      have HNE := Lib.hid hne; clear hne
      have hW : WA (w1.alloc (.cells (wlkCells s f o (fun i => jumpOf js i) s 1 (some bl) (some bb)) 57)) w1.heap.size s f o (fun i => jumpOf js i) s 1 (some bl) (some bb) := heap_alloc_at _ _ _ rfl
      have hL1 := hL.alloc (.cells (wlkCells s f o (fun i => jumpOf js i) s 1 (some bl) (some bb)) 57)
      have hE1 := hE.alloc (.cells (wlkCells s f o (fun i => jumpOf js i) s 1 (some bl) (some bb)) 57)
      have hB1 : Below w.heap.size w (w1.alloc (.cells (wlkCells s f o (fun i => jumpOf js i) s 1 (some bl) (some bb)) 57)) := ((below1 _ _).trans (hx.mono (by simp))).alloc (by omega) _
      clear hL hE
      go_wp2_with fail
      refine (met_any _ _ _ _ _ _ _ _ _ _ _ hW hL1 (fun q m => ct_nonneg _ _ _ _ _ _ _ _ _) (by rw [(HMT.out 0 (by omega)).1]; exact (HMT.out 0 (by omega)).2)).mono ?_
      rintro e w2 ⟨rfl, hx2⟩
      rw [(HMT.out 0 (by omega)).1]
      have hs2 := hx2.size
      simp only [World.size_alloc] at hs2
      have hW2 : WA (w2.alloc (.cells #[.int .i64 (pl s f o js sq 0 s)] 3)) w1.heap.size s f o (fun i => jumpOf js i) s (f ^ 0) (some bl) (some bb) := by
        rw [Int.pow_zero]; exact (Below.heap_alloc _ _ _ (by omega)).trans ((hx2.block _ (by simp)).trans hW)
      have hL2 := (hL1.below hx2 hL1.lt).alloc (.cells #[.int .i64 (pl s f o js sq 0 s)] 3)
      have hE2 := (hE1.below hx2 hE1.lt).alloc (.cells #[.int .i64 (pl s f o js sq 0 s)] 3)
      have hB2 : Below w.heap.size w (w2.alloc (.cells #[.int .i64 (pl s f o js sq 0 s)] 3)) := (hB1.trans (hx2.mono (by simp; omega))).alloc (by omega) _
      have hO2 : (w2.alloc (.cells #[.int .i64 (pl s f o js sq 0 s)] 3)).ownsRow (w1.heap.size + 1) 3 1 (.slice (some ⟨w2.heap.size, 0, none⟩) 1 1) (0 + 1) ((doneL s f o js sq (0 + 1)).map (Value.int .i64)) := ⟨rfl, .inr ⟨w2.heap.size, 1, #[.int .i64 (pl s f o js sq 0 s)], rfl, by omega, heap_alloc_at _ _ _ rfl, Nat.le_refl _, by decide, rfl, rfl⟩⟩
      clear hW hL1 hE1 hx2 hst
      go_wp2_with fail
      go_loopw [10, 30] (fun v i wr => ∃ (k l b : Nat), k ≤ t ∧ i = .int .i64 k ∧ WA wr w1.heap.size s f o (fun i => jumpOf js i) s (f ^ k) (some l) (some b) ∧ SW wr l (ct s f o js s sq k) ∧ SW wr b (fun _ _ => 0) ∧ l ≠ b ∧ (w.heap.size + 1 ≤ l ∧ w.heap.size + 1 ≤ b ∧ l < w1.heap.size ∧ b < w1.heap.size) ∧
        Below w.heap.size w wr ∧ wr.ownsRow (w1.heap.size + 1) 3 1 v (k + 1) ((doneL s f o js sq (k + 1)).map (Value.int .i64))) (fun _ i _ => t - (intOf i).toNat)
      case atStart => exact ⟨0, bl, bb, Nat.zero_le _, rfl, hW2, hL2, hE2, HNE.out, ⟨l0, b0, l1, b1⟩, hB2, hO2⟩
      case round =>
        clear hW2 hL2 hE2 hB2 hO2
        obtain ⟨k, l, b, hk, rfl, hW, hL, hE, hne, hlb, hB, hown⟩ := hrel
        by_cases hlt : k < t
        · have hlt' : (k : Int) < (t : Int) := by omega
          have HNE2 := Lib.hid hne; clear hne
          go_wp2_with fail
          refine (throw_oth _ _ _ _ _ _ _ _ _ _ _ hW hL hE HNE2.out (asked_good HA.out) (asked_on HA.out) (by omega)).mono ?_
          rintro e w5 ⟨rfl, hW5, hL5, hE5, hx5⟩
          have ho5 := own_oth hown hx5 (by omega) (by omega) (by omega)
          have hB5 : Below w.heap.size w w5 := hB.trans (hx5.bel (heap_lt hW) (by omega) (by omega) (by omega))
          clear hW hL hE hown
          have hm5 := HMT.out (k + 1) (by omega)
          have HM5 := Lib.hid hm5; clear hm5
          go_wp2_with fail
          refine (met_any _ _ _ _ _ _ _ _ _ _ _ hW5 hL5 (fun q m => ct_nonneg _ _ _ _ _ _ _ _ _) (by rw [HM5.out.1]; exact HM5.out.2)).mono ?_
          rintro e w6 ⟨rfl, hx6⟩
          rw [HM5.out.1]
          have ho6 := (own_below ho5 hx6).alloc (.cells #[.int .i64 (pl s f o js sq (k + 1) s)] 3)
          have hW6 : WA w6 w1.heap.size s f o (fun i => jumpOf js i) s (f ^ (k + 1)) (some b) (some l) := (hx6.block _ (heap_lt hW5)).trans hW5
          have hL6 := hL5.below hx6 hL5.lt
          have hE6 := hE5.below hx6 hE5.lt
          have hB6 := hB5.trans (hx6.mono hB5.size)
          have hs6 := heap_lt hW6
          clear hW5 hL5 hE5 ho5
          go_wp2_with (at_builtin; go_loud (refine wpList_append_own _ rfl _ _ 26 rfl (w1.heap.size + 1) 3 i0 (.int .i64 0) 1 8 Try.underlying26 hi hz0 hz1 hz2 rfl (by decide) _ _ _ rfl ho6 ⟨w6.heap.size, 0, none⟩ 1 1 [.int .i64 (pl s f o js sq (k + 1) s)] rfl rfl (cell_new1 _ _ _) (one_int _) (by unfold maxLen; omega) (by omega) (by simp; omega) ?_; intro v1 w7 hown7 hg7 _))
          have hf := own_from ho6
          go_roundw
          case rel =>
            refine ⟨k + 1, b, l, hlt, by go_num, (hg7.block _ (by simp; omega) (fun e => by have := hf _ e.symm; omega)).trans ((Below.heap_alloc _ _ _ hs6).trans hW6), (hL6.alloc _).kept hg7 (fun e => by have := hf _ e.symm; omega), (hE6.alloc _).kept hg7 (fun e => by have := hf _ e.symm; omega), HNE2.out.symm, ⟨hlb.2.1, hlb.1, hlb.2.2.2, hlb.2.2.1⟩, (hB6.alloc (by omega) _).grown hg7 (by simp; omega) (fun j e => by have := hf _ e; omega), by rw [doneL_succ, List.map_append]; exact hown7⟩
          case measure => simp [intOf]; omega
        · obtain rfl : k = t := by omega
          have hlt' : ¬ (k : Int) < (k : Int) := by omega
          clear hW hL hE hne
          go_wp2
          obtain ⟨A', c', rfl, ho⟩ := own_oi hown (doneL_len _ _ _ _ _ _)
          go_ret2
          refine ⟨A', c', rfl, ?_, hB⟩
          rcases ho with h | ⟨g, e, hg, hr⟩
          · exact .inl h
          · exact .inr ⟨g, e, by omega, hr⟩
end Go.Proofs.Ytiekdokgjdgajab

/-
  The law FnExactAddClue, walked.
-/
import Derived.Test.YtmhffdgfkgdmlabC9j
import Derived.Test.YtmhffdgfkgdmlabL84
import Derived.Test.YtmhffdgfkgdmlabWReg
import Derived.Deep.RegionHeld3
import Derived.Deep.CutRange
namespace Go.Proofs.Ytmhffdgfkgdmlab
open Go.RowKit

set_option maxRecDepth 100000 in
theorem lawAddClue_big (q f : Int) (A : Option Addr) (n c : Nat) (ck ca cb cc : Int) (w : World) (hn : n ≤ maxLen) (h : 1048576 < n) :
    Calls Try.prog 12 #[.agg #[.int .i64 q, .int .i64 f, .slice A n c], .agg #[.int .i64 ck, .int .i64 ca, .int .i64 cb, .int .i64 cc]] w fun e w' => e = .returned (.bool true) ∧ Below w.heap.size w w' := by
  have h1 : (1048576 : Int) < n := by omega
  go_enter Try.func12, Try.ntmps12
  go_wp2_with (go_at_call 23; refine (szPuzzle_any _ _ _ _ _ _ _ hn (by omega) (by omega)).mono ?_; rintro e w1 ⟨rfl, hx⟩)
  go_ret
  exact ⟨rfl, (below2 _ _ _).trans (hx.mono (by simp; omega))⟩

set_option maxHeartbeats 2000000 in
set_option maxRecDepth 100000 in
theorem lawAddClue_small (q f : Int) (A : Option Addr) (c : Nat) (ck ca cb cc : Int) (L : List Qd) (w : World) (hj : RQ w w.heap.size A L) :
    Calls Try.prog 12 #[.agg #[.int .i64 q, .int .i64 f, .slice A L.length c], .agg #[.int .i64 ck, .int .i64 ca, .int .i64 cb, .int .i64 cc]] w fun e w' => e = .returned (.bool true) ∧ Below w.heap.size w w' := by
  have hl := hj.1
  have h1 : ¬ (1048576 : Int) < L.length := by omega
  have h2 : ¬ (1048576 : Int) - L.length < 0 := by omega
  obtain ⟨R, hR⟩ : ∃ R, R = addPz q f L (ck, ca, cb, cc) := ⟨_, rfl⟩
  have hlen : R.1.2.2.length ≤ 1048576 := by rw [hR]; exact addPz_len hl
  have hSS : ∀ (g c : Nat) (W : World), RQ W W.heap.size (some ⟨g, 0, none⟩) L → L.length ≤ c → Calls Try.prog 50 #[.agg #[.int .i64 q, .int .i64 f, .slice (some ⟨g, 0, none⟩) L.length c], .agg #[.int .i64 ck, .int .i64 ca, .int .i64 cb, .int .i64 cc]] W (PzBack W.heap.size W R) := fun g c W h hc => by rw [hR]; exact (addClue_both q f L ck ca cb cc).1 _ c W h hc
  have hII : ∀ (A : Option Addr) (c : Nat) (W : World), RQ W W.heap.size A L → L.length ≤ c → Calls Try.prog 51 #[.agg #[.int .i64 q, .int .i64 f, .slice A L.length c], .agg #[.int .i64 ck, .int .i64 ca, .int .i64 cb, .int .i64 cc]] W (PzBack W.heap.size W R) := fun A c W h hc => by rw [hR]; exact (addClue_both q f L ck ca cb cc).2 A c W h hc
  clear hR
  obtain ⟨⟨r1, r2, rl⟩, rb⟩ := R
  have HSS := Lib.hid hSS
  have HII := Lib.hid hII
  clear hSS hII
  have hxl : rl.length ≤ 1048576 := hlen
  have hee : (r1 == r1 && r2 == r2 && rl == rl) = true := by simp
  have he : (q == q && f == f && L == L) = true := by simp
  have hmk : ¬ (1 + 4 * (rl.length : Int)) < 0 := by omega
  have hmj : ¬ (1 + 4 * (L.length : Int)) < 0 := by omega
  clear hlen
  go_enter Try.func12, Try.ntmps12
  go_wp2_with fail
  have D := below2 w (.cells #[.int .i64 q, .int .i64 f, .slice A L.length c] 43) (.cells #[.int .i64 ck, .int .i64 ca, .int .i64 cb, .int .i64 cc] 26)
  have kL := (Box.made w #[.int .i64 q, .int .i64 f, .slice A L.length c] 43).alloc (.cells #[.int .i64 ck, .int .i64 ca, .int .i64 cb, .int .i64 cc] 26)
  have kJ : Box ((w.alloc (.cells #[.int .i64 q, .int .i64 f, .slice A L.length c] 43)).alloc (.cells #[.int .i64 ck, .int .i64 ca, .int .i64 cb, .int .i64 cc] 26)) (w.heap.size + 1) #[.int .i64 ck, .int .i64 ca, .int .i64 cb, .int .i64 cc] 26 := heap_alloc_at _ _ _ (by simp)
  refine (szPuzzle_any _ _ _ _ _ _ _ (by unfold maxLen; omega) (by omega) (by omega)).mono ?_
  rintro e w1 ⟨rfl, hx⟩
  rw [if_neg (show ¬ (1048576 : Int) < (L.length : Int) by omega)]
  replace kL := kL.go hx
  replace kJ := kJ.go hx
  replace D := D.trans (hx.mono D.size)
  clear hx
  have qkL := kL.cell; have qkJ := kJ.cell
  go_upto_region 5 with fail
  go_cut [6, 7] from 21 to 28 (fun s6 s7 wx => ∃ b0 A0 c0, s6 = .pointer (some ⟨b0, 0, none⟩) ∧ s7 = .bool rb ∧ Box wx w.heap.size #[.int .i64 q, .int .i64 f, .slice A L.length c] 43 ∧ Box wx (w.heap.size + 1) #[.int .i64 ck, .int .i64 ca, .int .i64 cb, .int .i64 cc] 26 ∧ Box wx b0 #[.int .i64 r1, .int .i64 r2, .slice A0 rl.length c0] 50 ∧ RQ wx wx.heap.size A0 rl ∧ Below w.heap.size w wx)
  case first =>
    replace kL := kL.drew; replace kJ := kJ.drew; replace D := D.drew
    refine wp_region_held_drew (S := (fun w' => (∀ i, w'.cell? ⟨w.heap.size, i, none⟩ = #[.int .i64 q, .int .i64 f, .slice A L.length c][i]?) ∧ (∀ i, w'.cell? ⟨w.heap.size + 1, i, none⟩ = #[.int .i64 ck, .int .i64 ca, .int .i64 cb, .int .i64 cc][i]?))) (by kernel_rfl) ⟨kL.cell, kJ.cell⟩ (fun hS => ?_)
    refine wpAnyH_take (i := 0) (oi := ⟨some 22, _, _, _, _, _⟩) (v := ?va1) rfl (by kernel_rfl) (by kernel_rfl) (by kernel_rfl) (fun _ _ _ h => h) (Or.inl ⟨by rfl, ?ha1⟩) hS ?ra1
    case ha1 => (intro w' hSw; (try dsimp only at hSw); go_simp; (try with_reducible rfl))
    try simp only [Act.put, List.setIfInBounds_toArray, List.set_cons_zero, List.set_cons_succ]
    refine wpAnyH_take (i := 2) (oi := ⟨some 24, _, _, _, _, _⟩) (v := ?va2) rfl (by kernel_rfl) (by kernel_rfl) (by kernel_rfl) (fun _ _ _ h => h) (Or.inl ⟨by rfl, ?ha2⟩) hS ?ra2
    case ha2 => (intro w' hSw; (try dsimp only at hSw); go_simp; (try with_reducible rfl))
    try simp only [Act.put, List.setIfInBounds_toArray, List.set_cons_zero, List.set_cons_succ]
    refine wpAnyH_ready (rs := [1, 8]) (by kernel_rfl) (by simp) ?_
    refine AllReadyH.cons (o := ⟨some 23, _, _, _, _, _⟩) rfl (fun K' hK' => ?_) (AllReadyH.cons (o := ⟨some 6, _, _, _, _, _⟩) rfl (fun K' hK' => ?_) AllReadyH.nil)
    focus
      go_simp
      go_at_call 25
      refine (toPuzzle_any _ _ _ _ _ _ (hj.later D D.size)).mono ?_
      rintro e w2 ⟨g, rfl, hg, hrow, hx⟩
      replace kL := kL.go hx; replace kJ := kJ.go hx; replace D := D.trans (hx.mono D.size)
      (try replace k0 := k0.go hx)
      (try (have qk0 := k0.cell; have fk0 := fun i => frozen_row (i := i) k0))
      refine hK'.out _ _ ⟨kL.cell, kJ.cell⟩ (fun _ => ?_)
      clear hK' K'
      try simp only [Act.put, List.setIfInBounds_toArray, List.set_cons_zero, List.set_cons_succ]
      refine wpAnyH_ready (rs := [3, 8]) (by kernel_rfl) (by simp) ?_
      refine AllReadyH.cons (o := ⟨some 25, _, _, _, _, _⟩) rfl (fun K' hK' => ?_) (AllReadyH.cons (o := ⟨some 6, _, _, _, _, _⟩) rfl (fun K' hK' => ?_) AllReadyH.nil)
      focus
        go_simp
        go_at_call 19
        refine (toClue_any _ _ _ _ _).mono ?_
        rintro e w2b ⟨rfl, hx⟩
        replace kL := kL.go hx; replace kJ := kJ.go hx; replace D := D.trans (hx.mono D.size); replace hrow := hrow.below hx hrow.lt
        (try replace k0 := k0.go hx)
        (try (have qk0 := k0.cell; have fk0 := fun i => frozen_row (i := i) k0))
        refine hK'.out _ _ ⟨kL.cell, kJ.cell⟩ (fun _ => ?_)
        clear hK' K'
        try simp only [Act.put, List.setIfInBounds_toArray, List.set_cons_zero, List.set_cons_succ]
        refine wpAnyH_ready (rs := [4, 8]) (by kernel_rfl) (by simp) ?_
        refine AllReadyH.cons (o := ⟨some 26, _, _, _, _, _⟩) rfl (fun K' hK' => ?_) (AllReadyH.cons (o := ⟨some 6, _, _, _, _, _⟩) rfl (fun K' hK' => ?_) AllReadyH.nil)
        focus
          go_simp
          go_at_call 50
          refine (HSS.out g L.length _ (hrow.rq rfl hl) (Nat.le_refl _)).mono ?_
          rintro e w3 ⟨A0, c0, rfl, ho0, hx⟩
          dsimp only at ho0
          replace kL := kL.go hx; replace kJ := kJ.go hx; replace D := D.trans (hx.mono D.size)
          (try replace k0 := k0.go hx)
          (try (have qk0 := k0.cell; have fk0 := fun i => frozen_row (i := i) k0))
          refine hK'.out _ _ ⟨kL.cell, kJ.cell⟩ (fun _ => ?_)
          clear hK' K'
          try simp only 
          refine wpAnyH_take (i := 5) (oi := ⟨some 21, _, _, _, _, _⟩) (v := ?va3) rfl (by kernel_rfl) (by kernel_rfl) (by kernel_rfl) (fun _ _ _ h => h) (Or.inl ⟨by rfl, ?ha3⟩) ⟨kL.cell, kJ.cell⟩ ?ra3
          case ha3 => (intro w' hSw; (try dsimp only at hSw); go_simp; (try with_reducible rfl))
          try simp only [Act.put, List.setIfInBounds_toArray, List.set_cons_zero, List.set_cons_succ]
          refine wpAnyH_take (i := 6) (oi := ⟨some 27, _, _, _, _, _⟩) (v := ?va4) rfl (by kernel_rfl) (by kernel_rfl) (by kernel_rfl) (fun _ _ _ h => h) (Or.inl ⟨by rfl, ?ha4⟩) ⟨kL.cell, kJ.cell⟩ ?ra4
          case ha4 => (intro w' hSw; (try dsimp only at hSw); go_simp; (try with_reducible rfl))
          try simp only [Act.put, List.setIfInBounds_toArray, List.set_cons_zero, List.set_cons_succ]
          refine wpAnyH_take (i := 7) (oi := ⟨some 28, _, _, _, _, _⟩) (v := ?va5) rfl (by kernel_rfl) (by kernel_rfl) (by kernel_rfl) (fun _ _ _ h => h) (Or.inl ⟨by rfl, ?ha5⟩) ⟨kL.cell, kJ.cell⟩ ?ra5
          case ha5 => (intro w' hSw; (try dsimp only at hSw); go_simp; (try with_reducible rfl))
          try simp only [Act.put, List.setIfInBounds_toArray, List.set_cons_zero, List.set_cons_succ]
          refine wpAnyH_ready (rs := [8]) (by kernel_rfl) (by simp) ?_
          refine AllReadyH.cons (o := ⟨some 6, _, _, _, _, _⟩) rfl (fun K' hK' => ?_) AllReadyH.nil
          go_simp
          have z6 := D.size
          have kLp := kL; have kJp := kJ; have Dp := D; (try have ho0p := ho0)
          have k0 := Box.madeL kL #[.int .i64 0, .int .i64 0, .slice none 0 0] 50
          (try (change Box _ w1.heap.size _ _ at k0; change _ ≤ w1.heap.size at z6))
          (try replace hrow := hrow.alloc (.cells #[.int .i64 0, .int .i64 0, .slice none 0 0] 50))
          (try replace ho0 := ho0.below (below1 _ (.cells #[.int .i64 0, .int .i64 0, .slice none 0 0] 50)) (Nat.le_refl _))
          replace kL := kL.alloc (.cells #[.int .i64 0, .int .i64 0, .slice none 0 0] 50); replace kJ := kJ.alloc (.cells #[.int .i64 0, .int .i64 0, .slice none 0 0] 50); replace D := D.alloc D.size (.cells #[.int .i64 0, .int .i64 0, .slice none 0 0] 50)
          have qk0 := k0.cell; have fk0 := fun i => frozen_row (i := i) k0
          refine hK'.out _ _ ⟨kL.cell, kJ.cell⟩ (fun _ => ?_)
          clear hK' K'
          try simp only [Act.put, List.setIfInBounds_toArray, List.set_cons_zero, List.set_cons_succ]
          refine wpAnyH_ready (rs := [9]) (by kernel_rfl) (by simp) ?_
          refine AllReadyH.cons (o := ⟨none, _, _, _, _, _⟩) rfl (fun K' hK' => ?_) AllReadyH.nil
          go_simp
          replace kL := kL.set3t k0 (by decide) (.int .i64 r1) (.int .i64 r2) (.slice A0 rl.length c0); replace kJ := kJ.set3t k0 (by decide) (.int .i64 r1) (.int .i64 r2) (.slice A0 rl.length c0); replace ho0 := ho0.set3 k0 (by decide) (.int .i64 r1) (.int .i64 r2) (.slice A0 rl.length c0)
          replace D := below_set3 D z6 (.int .i64 r1) (.int .i64 r2) (.slice A0 rl.length c0)
          replace k0 := k0.set3s (.int .i64 r1) (.int .i64 r2) (.slice A0 rl.length c0)
          (try (have kLm := kLp.alloc (.cells #[.int .i64 r1, .int .i64 r2, .slice A0 rl.length c0] 50); have kJm := kJp.alloc (.cells #[.int .i64 r1, .int .i64 r2, .slice A0 rl.length c0] 50); have Dm := Dp.alloc Dp.size (.cells #[.int .i64 r1, .int .i64 r2, .slice A0 rl.length c0] 50); have k0m := Box.madeL kLp #[.int .i64 r1, .int .i64 r2, .slice A0 rl.length c0] 50; have ho0m := ho0p.below (below1 _ (.cells #[.int .i64 r1, .int .i64 r2, .slice A0 rl.length c0] 50)) (Nat.le_refl _)))
          refine hK'.out _ _ (by first | with_reducible exact ⟨kL.cell, kJ.cell⟩ | with_reducible exact ⟨kLm.cell, kJm.cell⟩) (fun _ => ?_)
          clear hK' K'
          try simp only [Act.put, List.setIfInBounds_toArray, List.set_cons_zero, List.set_cons_succ]
          refine wpAnyH_ready (rs := [10]) (by kernel_rfl) (by simp) ?_
          refine AllReadyH.cons (o := ⟨some 7, _, _, _, _, _⟩) rfl (fun K' hK' => ?_) AllReadyH.nil
          go_simp
          refine hK'.out _ _ (by first | with_reducible exact ⟨kL.cell, kJ.cell⟩ | with_reducible exact ⟨kLm.cell, kJm.cell⟩) (fun _ => ?_)
          clear hK' K'
          try simp only [Act.put, List.setIfInBounds_toArray, List.set_cons_zero, List.set_cons_succ]
          refine wpAnyH_done (by kernel_rfl) ?_ _
        rotate_left 1
        focus
          go_simp
          have z6 := D.size
          have kLp := kL; have kJp := kJ; have Dp := D; (try have ho0p := ho0)
          have k0 := Box.madeL kL #[.int .i64 0, .int .i64 0, .slice none 0 0] 50
          (try (change Box _ w1.heap.size _ _ at k0; change _ ≤ w1.heap.size at z6))
          (try replace hrow := hrow.alloc (.cells #[.int .i64 0, .int .i64 0, .slice none 0 0] 50))
          (try replace ho0 := ho0.below (below1 _ (.cells #[.int .i64 0, .int .i64 0, .slice none 0 0] 50)) (Nat.le_refl _))
          replace kL := kL.alloc (.cells #[.int .i64 0, .int .i64 0, .slice none 0 0] 50); replace kJ := kJ.alloc (.cells #[.int .i64 0, .int .i64 0, .slice none 0 0] 50); replace D := D.alloc D.size (.cells #[.int .i64 0, .int .i64 0, .slice none 0 0] 50)
          have qk0 := k0.cell; have fk0 := fun i => frozen_row (i := i) k0
          refine hK'.out _ _ ⟨kL.cell, kJ.cell⟩ (fun _ => ?_)
          clear hK' K'
          try simp only [Act.put, List.setIfInBounds_toArray, List.set_cons_zero, List.set_cons_succ]
          refine wpAnyH_ready (rs := [4]) (by kernel_rfl) (by simp) ?_
          refine AllReadyH.cons (o := ⟨some 26, _, _, _, _, _⟩) rfl (fun K' hK' => ?_) AllReadyH.nil
          go_simp
          go_at_call 50
          refine (HSS.out g L.length _ (hrow.rq rfl hl) (Nat.le_refl _)).mono ?_
          rintro e w3 ⟨A0, c0, rfl, ho0, hx⟩
          dsimp only at ho0
          replace kL := kL.go hx; replace kJ := kJ.go hx; replace D := D.trans (hx.mono D.size)
          (try replace k0 := k0.go hx)
          (try (have qk0 := k0.cell; have fk0 := fun i => frozen_row (i := i) k0))
          refine hK'.out _ _ ⟨kL.cell, kJ.cell⟩ (fun _ => ?_)
          clear hK' K'
          try simp only 
          refine wpAnyH_take (i := 5) (oi := ⟨some 21, _, _, _, _, _⟩) (v := ?va6) rfl (by kernel_rfl) (by kernel_rfl) (by kernel_rfl) (fun _ _ _ h => h) (Or.inl ⟨by rfl, ?ha6⟩) ⟨kL.cell, kJ.cell⟩ ?ra6
          case ha6 => (intro w' hSw; (try dsimp only at hSw); go_simp; (try with_reducible rfl))
          try simp only [Act.put, List.setIfInBounds_toArray, List.set_cons_zero, List.set_cons_succ]
          refine wpAnyH_take (i := 6) (oi := ⟨some 27, _, _, _, _, _⟩) (v := ?va7) rfl (by kernel_rfl) (by kernel_rfl) (by kernel_rfl) (fun _ _ _ h => h) (Or.inl ⟨by rfl, ?ha7⟩) ⟨kL.cell, kJ.cell⟩ ?ra7
          case ha7 => (intro w' hSw; (try dsimp only at hSw); go_simp; (try with_reducible rfl))
          try simp only [Act.put, List.setIfInBounds_toArray, List.set_cons_zero, List.set_cons_succ]
          refine wpAnyH_take (i := 7) (oi := ⟨some 28, _, _, _, _, _⟩) (v := ?va8) rfl (by kernel_rfl) (by kernel_rfl) (by kernel_rfl) (fun _ _ _ h => h) (Or.inl ⟨by rfl, ?ha8⟩) ⟨kL.cell, kJ.cell⟩ ?ra8
          case ha8 => (intro w' hSw; (try dsimp only at hSw); go_simp; (try with_reducible rfl))
          try simp only [Act.put, List.setIfInBounds_toArray, List.set_cons_zero, List.set_cons_succ]
          refine wpAnyH_ready (rs := [9]) (by kernel_rfl) (by simp) ?_
          refine AllReadyH.cons (o := ⟨none, _, _, _, _, _⟩) rfl (fun K' hK' => ?_) AllReadyH.nil
          go_simp
          replace kL := kL.set3t k0 (by decide) (.int .i64 r1) (.int .i64 r2) (.slice A0 rl.length c0); replace kJ := kJ.set3t k0 (by decide) (.int .i64 r1) (.int .i64 r2) (.slice A0 rl.length c0); replace ho0 := ho0.set3 k0 (by decide) (.int .i64 r1) (.int .i64 r2) (.slice A0 rl.length c0)
          replace D := below_set3 D z6 (.int .i64 r1) (.int .i64 r2) (.slice A0 rl.length c0)
          replace k0 := k0.set3s (.int .i64 r1) (.int .i64 r2) (.slice A0 rl.length c0)
          (try (have kLm := kLp.alloc (.cells #[.int .i64 r1, .int .i64 r2, .slice A0 rl.length c0] 50); have kJm := kJp.alloc (.cells #[.int .i64 r1, .int .i64 r2, .slice A0 rl.length c0] 50); have Dm := Dp.alloc Dp.size (.cells #[.int .i64 r1, .int .i64 r2, .slice A0 rl.length c0] 50); have k0m := Box.madeL kLp #[.int .i64 r1, .int .i64 r2, .slice A0 rl.length c0] 50; have ho0m := ho0p.below (below1 _ (.cells #[.int .i64 r1, .int .i64 r2, .slice A0 rl.length c0] 50)) (Nat.le_refl _)))
          refine hK'.out _ _ (by first | with_reducible exact ⟨kL.cell, kJ.cell⟩ | with_reducible exact ⟨kLm.cell, kJm.cell⟩) (fun _ => ?_)
          clear hK' K'
          try simp only [Act.put, List.setIfInBounds_toArray, List.set_cons_zero, List.set_cons_succ]
          refine wpAnyH_ready (rs := [10]) (by kernel_rfl) (by simp) ?_
          refine AllReadyH.cons (o := ⟨some 7, _, _, _, _, _⟩) rfl (fun K' hK' => ?_) AllReadyH.nil
          go_simp
          refine hK'.out _ _ (by first | with_reducible exact ⟨kL.cell, kJ.cell⟩ | with_reducible exact ⟨kLm.cell, kJm.cell⟩) (fun _ => ?_)
          clear hK' K'
          try simp only [Act.put, List.setIfInBounds_toArray, List.set_cons_zero, List.set_cons_succ]
          refine wpAnyH_done (by kernel_rfl) ?_ _
        rotate_left 1
      rotate_left 2
      focus
        go_simp
        have z6 := D.size
        have kLp := kL; have kJp := kJ; have Dp := D; (try have ho0p := ho0)
        have k0 := Box.madeL kL #[.int .i64 0, .int .i64 0, .slice none 0 0] 50
        (try (change Box _ w1.heap.size _ _ at k0; change _ ≤ w1.heap.size at z6))
        (try replace hrow := hrow.alloc (.cells #[.int .i64 0, .int .i64 0, .slice none 0 0] 50))
        (try replace ho0 := ho0.below (below1 _ (.cells #[.int .i64 0, .int .i64 0, .slice none 0 0] 50)) (Nat.le_refl _))
        replace kL := kL.alloc (.cells #[.int .i64 0, .int .i64 0, .slice none 0 0] 50); replace kJ := kJ.alloc (.cells #[.int .i64 0, .int .i64 0, .slice none 0 0] 50); replace D := D.alloc D.size (.cells #[.int .i64 0, .int .i64 0, .slice none 0 0] 50)
        have qk0 := k0.cell; have fk0 := fun i => frozen_row (i := i) k0
        refine hK'.out _ _ ⟨kL.cell, kJ.cell⟩ (fun _ => ?_)
        clear hK' K'
        try simp only [Act.put, List.setIfInBounds_toArray, List.set_cons_zero, List.set_cons_succ]
        refine wpAnyH_ready (rs := [3]) (by kernel_rfl) (by simp) ?_
        refine AllReadyH.cons (o := ⟨some 25, _, _, _, _, _⟩) rfl (fun K' hK' => ?_) AllReadyH.nil
        go_simp
        go_at_call 19
        refine (toClue_any _ _ _ _ _).mono ?_
        rintro e w2b ⟨rfl, hx⟩
        replace kL := kL.go hx; replace kJ := kJ.go hx; replace D := D.trans (hx.mono D.size); replace hrow := hrow.below hx hrow.lt
        (try replace k0 := k0.go hx)
        (try (have qk0 := k0.cell; have fk0 := fun i => frozen_row (i := i) k0))
        refine hK'.out _ _ ⟨kL.cell, kJ.cell⟩ (fun _ => ?_)
        clear hK' K'
        try simp only [Act.put, List.setIfInBounds_toArray, List.set_cons_zero, List.set_cons_succ]
        refine wpAnyH_ready (rs := [4]) (by kernel_rfl) (by simp) ?_
        refine AllReadyH.cons (o := ⟨some 26, _, _, _, _, _⟩) rfl (fun K' hK' => ?_) AllReadyH.nil
        go_simp
        go_at_call 50
        refine (HSS.out g L.length _ (hrow.rq rfl hl) (Nat.le_refl _)).mono ?_
        rintro e w3 ⟨A0, c0, rfl, ho0, hx⟩
        dsimp only at ho0
        replace kL := kL.go hx; replace kJ := kJ.go hx; replace D := D.trans (hx.mono D.size)
        (try replace k0 := k0.go hx)
        (try (have qk0 := k0.cell; have fk0 := fun i => frozen_row (i := i) k0))
        refine hK'.out _ _ ⟨kL.cell, kJ.cell⟩ (fun _ => ?_)
        clear hK' K'
        try simp only 
        refine wpAnyH_take (i := 5) (oi := ⟨some 21, _, _, _, _, _⟩) (v := ?va9) rfl (by kernel_rfl) (by kernel_rfl) (by kernel_rfl) (fun _ _ _ h => h) (Or.inl ⟨by rfl, ?ha9⟩) ⟨kL.cell, kJ.cell⟩ ?ra9
        case ha9 => (intro w' hSw; (try dsimp only at hSw); go_simp; (try with_reducible rfl))
        try simp only [Act.put, List.setIfInBounds_toArray, List.set_cons_zero, List.set_cons_succ]
        refine wpAnyH_take (i := 6) (oi := ⟨some 27, _, _, _, _, _⟩) (v := ?va10) rfl (by kernel_rfl) (by kernel_rfl) (by kernel_rfl) (fun _ _ _ h => h) (Or.inl ⟨by rfl, ?ha10⟩) ⟨kL.cell, kJ.cell⟩ ?ra10
        case ha10 => (intro w' hSw; (try dsimp only at hSw); go_simp; (try with_reducible rfl))
        try simp only [Act.put, List.setIfInBounds_toArray, List.set_cons_zero, List.set_cons_succ]
        refine wpAnyH_take (i := 7) (oi := ⟨some 28, _, _, _, _, _⟩) (v := ?va11) rfl (by kernel_rfl) (by kernel_rfl) (by kernel_rfl) (fun _ _ _ h => h) (Or.inl ⟨by rfl, ?ha11⟩) ⟨kL.cell, kJ.cell⟩ ?ra11
        case ha11 => (intro w' hSw; (try dsimp only at hSw); go_simp; (try with_reducible rfl))
        try simp only [Act.put, List.setIfInBounds_toArray, List.set_cons_zero, List.set_cons_succ]
        refine wpAnyH_ready (rs := [9]) (by kernel_rfl) (by simp) ?_
        refine AllReadyH.cons (o := ⟨none, _, _, _, _, _⟩) rfl (fun K' hK' => ?_) AllReadyH.nil
        go_simp
        replace kL := kL.set3t k0 (by decide) (.int .i64 r1) (.int .i64 r2) (.slice A0 rl.length c0); replace kJ := kJ.set3t k0 (by decide) (.int .i64 r1) (.int .i64 r2) (.slice A0 rl.length c0); replace ho0 := ho0.set3 k0 (by decide) (.int .i64 r1) (.int .i64 r2) (.slice A0 rl.length c0)
        replace D := below_set3 D z6 (.int .i64 r1) (.int .i64 r2) (.slice A0 rl.length c0)
        replace k0 := k0.set3s (.int .i64 r1) (.int .i64 r2) (.slice A0 rl.length c0)
        (try (have kLm := kLp.alloc (.cells #[.int .i64 r1, .int .i64 r2, .slice A0 rl.length c0] 50); have kJm := kJp.alloc (.cells #[.int .i64 r1, .int .i64 r2, .slice A0 rl.length c0] 50); have Dm := Dp.alloc Dp.size (.cells #[.int .i64 r1, .int .i64 r2, .slice A0 rl.length c0] 50); have k0m := Box.madeL kLp #[.int .i64 r1, .int .i64 r2, .slice A0 rl.length c0] 50; have ho0m := ho0p.below (below1 _ (.cells #[.int .i64 r1, .int .i64 r2, .slice A0 rl.length c0] 50)) (Nat.le_refl _)))
        refine hK'.out _ _ (by first | with_reducible exact ⟨kL.cell, kJ.cell⟩ | with_reducible exact ⟨kLm.cell, kJm.cell⟩) (fun _ => ?_)
        clear hK' K'
        try simp only [Act.put, List.setIfInBounds_toArray, List.set_cons_zero, List.set_cons_succ]
        refine wpAnyH_ready (rs := [10]) (by kernel_rfl) (by simp) ?_
        refine AllReadyH.cons (o := ⟨some 7, _, _, _, _, _⟩) rfl (fun K' hK' => ?_) AllReadyH.nil
        go_simp
        refine hK'.out _ _ (by first | with_reducible exact ⟨kL.cell, kJ.cell⟩ | with_reducible exact ⟨kLm.cell, kJm.cell⟩) (fun _ => ?_)
        clear hK' K'
        try simp only [Act.put, List.setIfInBounds_toArray, List.set_cons_zero, List.set_cons_succ]
        refine wpAnyH_done (by kernel_rfl) ?_ _
      rotate_left 1
    rotate_left 3
    focus
      go_simp
      have z6 := D.size
      have kLp := kL; have kJp := kJ; have Dp := D; (try have ho0p := ho0)
      have k0 := Box.madeL kL #[.int .i64 0, .int .i64 0, .slice none 0 0] 50
      (try (change Box _ w1.heap.size _ _ at k0; change _ ≤ w1.heap.size at z6))
      (try replace hrow := hrow.alloc (.cells #[.int .i64 0, .int .i64 0, .slice none 0 0] 50))
      (try replace ho0 := ho0.below (below1 _ (.cells #[.int .i64 0, .int .i64 0, .slice none 0 0] 50)) (Nat.le_refl _))
      replace kL := kL.alloc (.cells #[.int .i64 0, .int .i64 0, .slice none 0 0] 50); replace kJ := kJ.alloc (.cells #[.int .i64 0, .int .i64 0, .slice none 0 0] 50); replace D := D.alloc D.size (.cells #[.int .i64 0, .int .i64 0, .slice none 0 0] 50)
      have qk0 := k0.cell; have fk0 := fun i => frozen_row (i := i) k0
      refine hK'.out _ _ ⟨kL.cell, kJ.cell⟩ (fun _ => ?_)
      clear hK' K'
      try simp only [Act.put, List.setIfInBounds_toArray, List.set_cons_zero, List.set_cons_succ]
      refine wpAnyH_ready (rs := [1]) (by kernel_rfl) (by simp) ?_
      refine AllReadyH.cons (o := ⟨some 23, _, _, _, _, _⟩) rfl (fun K' hK' => ?_) AllReadyH.nil
      go_simp
      go_at_call 25
      refine (toPuzzle_any _ _ _ _ _ _ (hj.later D D.size)).mono ?_
      rintro e w2 ⟨g, rfl, hg, hrow, hx⟩
      replace kL := kL.go hx; replace kJ := kJ.go hx; replace D := D.trans (hx.mono D.size)
      (try replace k0 := k0.go hx)
      (try (have qk0 := k0.cell; have fk0 := fun i => frozen_row (i := i) k0))
      refine hK'.out _ _ ⟨kL.cell, kJ.cell⟩ (fun _ => ?_)
      clear hK' K'
      try simp only [Act.put, List.setIfInBounds_toArray, List.set_cons_zero, List.set_cons_succ]
      refine wpAnyH_ready (rs := [3]) (by kernel_rfl) (by simp) ?_
      refine AllReadyH.cons (o := ⟨some 25, _, _, _, _, _⟩) rfl (fun K' hK' => ?_) AllReadyH.nil
      go_simp
      go_at_call 19
      refine (toClue_any _ _ _ _ _).mono ?_
      rintro e w2b ⟨rfl, hx⟩
      replace kL := kL.go hx; replace kJ := kJ.go hx; replace D := D.trans (hx.mono D.size); replace hrow := hrow.below hx hrow.lt
      (try replace k0 := k0.go hx)
      (try (have qk0 := k0.cell; have fk0 := fun i => frozen_row (i := i) k0))
      refine hK'.out _ _ ⟨kL.cell, kJ.cell⟩ (fun _ => ?_)
      clear hK' K'
      try simp only [Act.put, List.setIfInBounds_toArray, List.set_cons_zero, List.set_cons_succ]
      refine wpAnyH_ready (rs := [4]) (by kernel_rfl) (by simp) ?_
      refine AllReadyH.cons (o := ⟨some 26, _, _, _, _, _⟩) rfl (fun K' hK' => ?_) AllReadyH.nil
      go_simp
      go_at_call 50
      refine (HSS.out g L.length _ (hrow.rq rfl hl) (Nat.le_refl _)).mono ?_
      rintro e w3 ⟨A0, c0, rfl, ho0, hx⟩
      dsimp only at ho0
      replace kL := kL.go hx; replace kJ := kJ.go hx; replace D := D.trans (hx.mono D.size)
      (try replace k0 := k0.go hx)
      (try (have qk0 := k0.cell; have fk0 := fun i => frozen_row (i := i) k0))
      refine hK'.out _ _ ⟨kL.cell, kJ.cell⟩ (fun _ => ?_)
      clear hK' K'
      try simp only 
      refine wpAnyH_take (i := 5) (oi := ⟨some 21, _, _, _, _, _⟩) (v := ?va12) rfl (by kernel_rfl) (by kernel_rfl) (by kernel_rfl) (fun _ _ _ h => h) (Or.inl ⟨by rfl, ?ha12⟩) ⟨kL.cell, kJ.cell⟩ ?ra12
      case ha12 => (intro w' hSw; (try dsimp only at hSw); go_simp; (try with_reducible rfl))
      try simp only [Act.put, List.setIfInBounds_toArray, List.set_cons_zero, List.set_cons_succ]
      refine wpAnyH_take (i := 6) (oi := ⟨some 27, _, _, _, _, _⟩) (v := ?va13) rfl (by kernel_rfl) (by kernel_rfl) (by kernel_rfl) (fun _ _ _ h => h) (Or.inl ⟨by rfl, ?ha13⟩) ⟨kL.cell, kJ.cell⟩ ?ra13
      case ha13 => (intro w' hSw; (try dsimp only at hSw); go_simp; (try with_reducible rfl))
      try simp only [Act.put, List.setIfInBounds_toArray, List.set_cons_zero, List.set_cons_succ]
      refine wpAnyH_take (i := 7) (oi := ⟨some 28, _, _, _, _, _⟩) (v := ?va14) rfl (by kernel_rfl) (by kernel_rfl) (by kernel_rfl) (fun _ _ _ h => h) (Or.inl ⟨by rfl, ?ha14⟩) ⟨kL.cell, kJ.cell⟩ ?ra14
      case ha14 => (intro w' hSw; (try dsimp only at hSw); go_simp; (try with_reducible rfl))
      try simp only [Act.put, List.setIfInBounds_toArray, List.set_cons_zero, List.set_cons_succ]
      refine wpAnyH_ready (rs := [9]) (by kernel_rfl) (by simp) ?_
      refine AllReadyH.cons (o := ⟨none, _, _, _, _, _⟩) rfl (fun K' hK' => ?_) AllReadyH.nil
      go_simp
      replace kL := kL.set3t k0 (by decide) (.int .i64 r1) (.int .i64 r2) (.slice A0 rl.length c0); replace kJ := kJ.set3t k0 (by decide) (.int .i64 r1) (.int .i64 r2) (.slice A0 rl.length c0); replace ho0 := ho0.set3 k0 (by decide) (.int .i64 r1) (.int .i64 r2) (.slice A0 rl.length c0)
      replace D := below_set3 D z6 (.int .i64 r1) (.int .i64 r2) (.slice A0 rl.length c0)
      replace k0 := k0.set3s (.int .i64 r1) (.int .i64 r2) (.slice A0 rl.length c0)
      (try (have kLm := kLp.alloc (.cells #[.int .i64 r1, .int .i64 r2, .slice A0 rl.length c0] 50); have kJm := kJp.alloc (.cells #[.int .i64 r1, .int .i64 r2, .slice A0 rl.length c0] 50); have Dm := Dp.alloc Dp.size (.cells #[.int .i64 r1, .int .i64 r2, .slice A0 rl.length c0] 50); have k0m := Box.madeL kLp #[.int .i64 r1, .int .i64 r2, .slice A0 rl.length c0] 50; have ho0m := ho0p.below (below1 _ (.cells #[.int .i64 r1, .int .i64 r2, .slice A0 rl.length c0] 50)) (Nat.le_refl _)))
      refine hK'.out _ _ (by first | with_reducible exact ⟨kL.cell, kJ.cell⟩ | with_reducible exact ⟨kLm.cell, kJm.cell⟩) (fun _ => ?_)
      clear hK' K'
      try simp only [Act.put, List.setIfInBounds_toArray, List.set_cons_zero, List.set_cons_succ]
      refine wpAnyH_ready (rs := [10]) (by kernel_rfl) (by simp) ?_
      refine AllReadyH.cons (o := ⟨some 7, _, _, _, _, _⟩) rfl (fun K' hK' => ?_) AllReadyH.nil
      go_simp
      refine hK'.out _ _ (by first | with_reducible exact ⟨kL.cell, kJ.cell⟩ | with_reducible exact ⟨kLm.cell, kJm.cell⟩) (fun _ => ?_)
      clear hK' K'
      try simp only [Act.put, List.setIfInBounds_toArray, List.set_cons_zero, List.set_cons_succ]
      refine wpAnyH_done (by kernel_rfl) ?_ _
    rotate_left 1
    all_goals (go_wp2_with fail; go_meet; first | with_reducible exact ⟨_, A0, c0, rfl, rfl, kL, kJ, k0, ho0.rq hxl, D⟩ | with_reducible exact ⟨_, A0, c0, rfl, rfl, kLm, kJm, k0m, ho0m.rq hxl, Dm⟩)
  case rest =>
  clear qkL qkJ
  rename World => V
  clear kL kJ D
  obtain ⟨b0, A0, c0, rfl, rfl, kL, kJ, k0, R0, D⟩ := hcut
  have qkL := kL.cell
  go_wp2_with fail
  clear qkL
  refine (toPuzzle_any _ _ _ _ _ _ (hj.later D D.size)).mono ?_
  rintro e w4 ⟨g1, rfl, hg1, row1, d⟩
  have zL := kL.lt; have z0 := k0.lt; have zJ := kJ.lt
  have zV := D.size
  have k8 := Box.made w4 #[.int .i64 q, .int .i64 f, .slice (some ⟨g1, 0, none⟩) L.length L.length] 50
  replace d := d.alloc d.size (.cells #[.int .i64 q, .int .i64 f, .slice (some ⟨g1, 0, none⟩) L.length L.length] 50)
  have g1x := row1.lt
  replace row1 := row1.alloc (.cells #[.int .i64 q, .int .i64 f, .slice (some ⟨g1, 0, none⟩) L.length L.length] 50)
  go_upto_region 7 with fail
  obtain ⟨X, hX⟩ : ∃ X, X = w4.alloc (.cells #[.int .i64 q, .int .i64 f, .slice (some ⟨g1, 0, none⟩) L.length L.length] 50) := ⟨_, rfl⟩
  rw [← hX] at k8 d row1 ⊢
  have HX := Lib.hid hX; clear hX
  have zx := d.size
  have hxq : w4.heap.size < X.heap.size := k8.lt
  go_cut [9, 10] from 31 to 37 (fun s9 s10 wx => ∃ b9 A1 c1, s9 = .pointer (some ⟨b9, 0, none⟩) ∧ s10 = .bool rb ∧ g1 < b9 ∧ Box wx w4.heap.size #[.int .i64 q, .int .i64 f, .slice (some ⟨g1, 0, none⟩) L.length L.length] 50 ∧ Box wx b9 #[.int .i64 r1, .int .i64 r2, .slice A1 rl.length c1] 50 ∧ RowQ wx g1 33 L.length (fun k => L.getD k zeroQ) ∧ OQ wx X.heap.size 33 A1 rl.length (fun k => rl.getD k zeroQ) ∧ Below V.heap.size V wx ∧ X.heap.size ≤ b9)
  case first =>
    replace k8 := k8.drew; replace row1 := row1.drew; replace d := d.drew
    refine wp_region_held_drew (S := (fun w' => (∀ i, w'.cell? ⟨w4.heap.size, i, none⟩ = #[.int .i64 q, .int .i64 f, .slice (some ⟨g1, 0, none⟩) L.length L.length][i]?) ∧ (∀ i, w'.cell? ⟨w.heap.size + 1, i, none⟩ = #[.int .i64 ck, .int .i64 ca, .int .i64 cb, .int .i64 cc][i]?))) (by kernel_rfl) ⟨k8.cell, (kJ.below d zJ).cell⟩ (fun hS => ?_)
    refine wpAnyH_take (i := 0) (oi := ⟨some 32, _, _, _, _, _⟩) (v := ?vb1) rfl (by kernel_rfl) (by kernel_rfl) (by kernel_rfl) (fun _ _ _ h => h) (Or.inl ⟨by rfl, ?hb1⟩) hS ?rb1
    case hb1 => (intro w' hSw; (try dsimp only at hSw); go_simp; (try with_reducible rfl))
    try simp only [Act.put, List.setIfInBounds_toArray, List.set_cons_zero, List.set_cons_succ]
    refine wpAnyH_take (i := 1) (oi := ⟨some 33, _, _, _, _, _⟩) (v := ?vb2) rfl (by kernel_rfl) (by kernel_rfl) (by kernel_rfl) (fun _ _ _ h => h) (Or.inl ⟨by rfl, ?hb2⟩) hS ?rb2
    case hb2 => (intro w' hSw; (try dsimp only at hSw); go_simp; (try with_reducible rfl))
    try simp only [Act.put, List.setIfInBounds_toArray, List.set_cons_zero, List.set_cons_succ]
    refine wpAnyH_ready (rs := [2, 7]) (by kernel_rfl) (by simp) ?_
    refine AllReadyH.cons (o := ⟨some 34, _, _, _, _, _⟩) rfl (fun K' hK' => ?_) (AllReadyH.cons (o := ⟨some 9, _, _, _, _, _⟩) rfl (fun K' hK' => ?_) AllReadyH.nil)
    focus
      go_simp
      go_at_call 19
      have hsa := k8.lt
      refine (toClue_any _ _ _ _ _).mono ?_
      rintro e w4b ⟨rfl, hx⟩
      replace k8 := k8.go hx; replace row1 := row1.below hx row1.lt; replace d := d.trans (hx.mono d.size)
      have hsb : X.heap.size ≤ w4b.heap.size := by have := hx.size; first | exact this | exact Nat.le_trans hs9 this
      (try replace k9 := k9.go hx)
      (try (have qk9 := k9.cell; have fk9 := fun i => frozen_row (i := i) k9))
      refine hK'.out _ _ ⟨k8.cell, (kJ.below d zJ).cell⟩ (fun _ => ?_)
      clear hK' K'
      try simp only [Act.put, List.setIfInBounds_toArray, List.set_cons_zero, List.set_cons_succ]
      refine wpAnyH_ready (rs := [3, 7]) (by kernel_rfl) (by simp) ?_
      refine AllReadyH.cons (o := ⟨some 35, _, _, _, _, _⟩) rfl (fun K' hK' => ?_) (AllReadyH.cons (o := ⟨some 9, _, _, _, _, _⟩) rfl (fun K' hK' => ?_) AllReadyH.nil)
      focus
        go_simp
        go_at_call 51
        refine (HII.out _ _ _ (row1.rq rfl hl) (Nat.le_refl _)).mono ?_
        rintro e w5 ⟨A1, c1, rfl, ho1, hx⟩
        dsimp only at ho1
        replace ho1 := ho1.lo (by first | exact hsb | exact hs9 | exact Nat.le_trans hsb hs9)
        have hs5 : X.heap.size ≤ w5.heap.size := by first | exact Nat.le_trans hsb hx.size | exact Nat.le_trans hs9 hx.size | exact Nat.le_trans (Nat.le_trans hsb hs9) hx.size
        replace k8 := k8.go hx; replace row1 := row1.below hx row1.lt; replace d := d.trans (hx.mono d.size)
        (try replace k9 := k9.go hx)
        (try (have qk9 := k9.cell; have fk9 := fun i => frozen_row (i := i) k9))
        refine hK'.out _ _ ⟨k8.cell, (kJ.below d zJ).cell⟩ (fun _ => ?_)
        clear hK' K'
        try simp only 
        refine wpAnyH_take (i := 4) (oi := ⟨some 31, _, _, _, _, _⟩) (v := ?vb3) rfl (by kernel_rfl) (by kernel_rfl) (by kernel_rfl) (fun _ _ _ h => h) (Or.inl ⟨by rfl, ?hb3⟩) ⟨k8.cell, (kJ.below d zJ).cell⟩ ?rb3
        case hb3 => (intro w' hSw; (try dsimp only at hSw); go_simp; (try with_reducible rfl))
        try simp only [Act.put, List.setIfInBounds_toArray, List.set_cons_zero, List.set_cons_succ]
        refine wpAnyH_take (i := 5) (oi := ⟨some 36, _, _, _, _, _⟩) (v := ?vb4) rfl (by kernel_rfl) (by kernel_rfl) (by kernel_rfl) (fun _ _ _ h => h) (Or.inl ⟨by rfl, ?hb4⟩) ⟨k8.cell, (kJ.below d zJ).cell⟩ ?rb4
        case hb4 => (intro w' hSw; (try dsimp only at hSw); go_simp; (try with_reducible rfl))
        try simp only [Act.put, List.setIfInBounds_toArray, List.set_cons_zero, List.set_cons_succ]
        refine wpAnyH_take (i := 6) (oi := ⟨some 37, _, _, _, _, _⟩) (v := ?vb5) rfl (by kernel_rfl) (by kernel_rfl) (by kernel_rfl) (fun _ _ _ h => h) (Or.inl ⟨by rfl, ?hb5⟩) ⟨k8.cell, (kJ.below d zJ).cell⟩ ?rb5
        case hb5 => (intro w' hSw; (try dsimp only at hSw); go_simp; (try with_reducible rfl))
        try simp only [Act.put, List.setIfInBounds_toArray, List.set_cons_zero, List.set_cons_succ]
        refine wpAnyH_ready (rs := [7]) (by kernel_rfl) (by simp) ?_
        refine AllReadyH.cons (o := ⟨some 9, _, _, _, _, _⟩) rfl (fun K' hK' => ?_) AllReadyH.nil
        go_simp
        have z9 := d.size; have n8 := Nat.ne_of_lt k8.lt; have z91 := row1.lt
        have hX9 := (by first | exact hs5 | exact hsb | exact Nat.le_refl _ : X.heap.size ≤ _)
        have k8p := k8; have row1p := row1; have dp := d; (try have ho1p := ho1)
        have k9 := Box.madeL k8 #[.int .i64 0, .int .i64 0, .slice none 0 0] 50
        (try (change Box _ X.heap.size _ _ at k9; change _ ≤ X.heap.size at z9; change _ ≠ X.heap.size at n8; change _ < X.heap.size at z91; change _ ≤ X.heap.size at hX9))
        (try replace ho1 := ho1.below (below1 _ (.cells #[.int .i64 0, .int .i64 0, .slice none 0 0] 50)) (Nat.le_refl _))
        replace k8 := k8.alloc (.cells #[.int .i64 0, .int .i64 0, .slice none 0 0] 50); replace row1 := row1.alloc (.cells #[.int .i64 0, .int .i64 0, .slice none 0 0] 50); replace d := d.alloc d.size (.cells #[.int .i64 0, .int .i64 0, .slice none 0 0] 50)
        have hs9 := Nat.le_trans hX9 (Nat.le_of_lt k9.lt)
        have qk9 := k9.cell; have fk9 := fun i => frozen_row (i := i) k9
        refine hK'.out _ _ ⟨k8.cell, (kJ.below d zJ).cell⟩ (fun _ => ?_)
        clear hK' K'
        try simp only [Act.put, List.setIfInBounds_toArray, List.set_cons_zero, List.set_cons_succ]
        refine wpAnyH_ready (rs := [8]) (by kernel_rfl) (by simp) ?_
        refine AllReadyH.cons (o := ⟨none, _, _, _, _, _⟩) rfl (fun K' hK' => ?_) AllReadyH.nil
        go_simp
        replace k8 := k8.set3 n8 (.int .i64 r1) (.int .i64 r2) (.slice A1 rl.length c1); replace row1 := row1.set3 (Nat.ne_of_lt z91) (.int .i64 r1) (.int .i64 r2) (.slice A1 rl.length c1); replace ho1 := ho1.set3 k9 (by decide) (.int .i64 r1) (.int .i64 r2) (.slice A1 rl.length c1)
        replace d := below_set3 d z9 (.int .i64 r1) (.int .i64 r2) (.slice A1 rl.length c1)
        replace k9 := k9.set3s (.int .i64 r1) (.int .i64 r2) (.slice A1 rl.length c1)
        (try (have k8m := k8p.alloc (.cells #[.int .i64 r1, .int .i64 r2, .slice A1 rl.length c1] 50); have row1m := row1p.alloc (.cells #[.int .i64 r1, .int .i64 r2, .slice A1 rl.length c1] 50); have dm := dp.alloc dp.size (.cells #[.int .i64 r1, .int .i64 r2, .slice A1 rl.length c1] 50); have k9m := Box.madeL k8p #[.int .i64 r1, .int .i64 r2, .slice A1 rl.length c1] 50; have ho1m := ho1p.below (below1 _ (.cells #[.int .i64 r1, .int .i64 r2, .slice A1 rl.length c1] 50)) (Nat.le_refl _)))
        refine hK'.out _ _ (by first | with_reducible exact ⟨k8.cell, (kJ.below d zJ).cell⟩ | with_reducible exact ⟨k8m.cell, (kJ.below dm zJ).cell⟩) (fun _ => ?_)
        clear hK' K'
        try simp only [Act.put, List.setIfInBounds_toArray, List.set_cons_zero, List.set_cons_succ]
        refine wpAnyH_ready (rs := [9]) (by kernel_rfl) (by simp) ?_
        refine AllReadyH.cons (o := ⟨some 10, _, _, _, _, _⟩) rfl (fun K' hK' => ?_) AllReadyH.nil
        go_simp
        refine hK'.out _ _ (by first | with_reducible exact ⟨k8.cell, (kJ.below d zJ).cell⟩ | with_reducible exact ⟨k8m.cell, (kJ.below dm zJ).cell⟩) (fun _ => ?_)
        clear hK' K'
        try simp only [Act.put, List.setIfInBounds_toArray, List.set_cons_zero, List.set_cons_succ]
        refine wpAnyH_done (by kernel_rfl) ?_ _
      rotate_left 1
      focus
        go_simp
        have z9 := d.size; have n8 := Nat.ne_of_lt k8.lt; have z91 := row1.lt
        have hX9 := (by first | exact hs5 | exact hsb | exact Nat.le_refl _ : X.heap.size ≤ _)
        have k8p := k8; have row1p := row1; have dp := d; (try have ho1p := ho1)
        have k9 := Box.madeL k8 #[.int .i64 0, .int .i64 0, .slice none 0 0] 50
        (try (change Box _ X.heap.size _ _ at k9; change _ ≤ X.heap.size at z9; change _ ≠ X.heap.size at n8; change _ < X.heap.size at z91; change _ ≤ X.heap.size at hX9))
        (try replace ho1 := ho1.below (below1 _ (.cells #[.int .i64 0, .int .i64 0, .slice none 0 0] 50)) (Nat.le_refl _))
        replace k8 := k8.alloc (.cells #[.int .i64 0, .int .i64 0, .slice none 0 0] 50); replace row1 := row1.alloc (.cells #[.int .i64 0, .int .i64 0, .slice none 0 0] 50); replace d := d.alloc d.size (.cells #[.int .i64 0, .int .i64 0, .slice none 0 0] 50)
        have hs9 := Nat.le_trans hX9 (Nat.le_of_lt k9.lt)
        have qk9 := k9.cell; have fk9 := fun i => frozen_row (i := i) k9
        refine hK'.out _ _ ⟨k8.cell, (kJ.below d zJ).cell⟩ (fun _ => ?_)
        clear hK' K'
        try simp only [Act.put, List.setIfInBounds_toArray, List.set_cons_zero, List.set_cons_succ]
        refine wpAnyH_ready (rs := [3]) (by kernel_rfl) (by simp) ?_
        refine AllReadyH.cons (o := ⟨some 35, _, _, _, _, _⟩) rfl (fun K' hK' => ?_) AllReadyH.nil
        go_simp
        go_at_call 51
        refine (HII.out _ _ _ (row1.rq rfl hl) (Nat.le_refl _)).mono ?_
        rintro e w5 ⟨A1, c1, rfl, ho1, hx⟩
        dsimp only at ho1
        replace ho1 := ho1.lo (by first | exact hsb | exact hs9 | exact Nat.le_trans hsb hs9)
        have hs5 : X.heap.size ≤ w5.heap.size := by first | exact Nat.le_trans hsb hx.size | exact Nat.le_trans hs9 hx.size | exact Nat.le_trans (Nat.le_trans hsb hs9) hx.size
        replace k8 := k8.go hx; replace row1 := row1.below hx row1.lt; replace d := d.trans (hx.mono d.size)
        (try replace k9 := k9.go hx)
        (try (have qk9 := k9.cell; have fk9 := fun i => frozen_row (i := i) k9))
        refine hK'.out _ _ ⟨k8.cell, (kJ.below d zJ).cell⟩ (fun _ => ?_)
        clear hK' K'
        try simp only 
        refine wpAnyH_take (i := 4) (oi := ⟨some 31, _, _, _, _, _⟩) (v := ?vb6) rfl (by kernel_rfl) (by kernel_rfl) (by kernel_rfl) (fun _ _ _ h => h) (Or.inl ⟨by rfl, ?hb6⟩) ⟨k8.cell, (kJ.below d zJ).cell⟩ ?rb6
        case hb6 => (intro w' hSw; (try dsimp only at hSw); go_simp; (try with_reducible rfl))
        try simp only [Act.put, List.setIfInBounds_toArray, List.set_cons_zero, List.set_cons_succ]
        refine wpAnyH_take (i := 5) (oi := ⟨some 36, _, _, _, _, _⟩) (v := ?vb7) rfl (by kernel_rfl) (by kernel_rfl) (by kernel_rfl) (fun _ _ _ h => h) (Or.inl ⟨by rfl, ?hb7⟩) ⟨k8.cell, (kJ.below d zJ).cell⟩ ?rb7
        case hb7 => (intro w' hSw; (try dsimp only at hSw); go_simp; (try with_reducible rfl))
        try simp only [Act.put, List.setIfInBounds_toArray, List.set_cons_zero, List.set_cons_succ]
        refine wpAnyH_take (i := 6) (oi := ⟨some 37, _, _, _, _, _⟩) (v := ?vb8) rfl (by kernel_rfl) (by kernel_rfl) (by kernel_rfl) (fun _ _ _ h => h) (Or.inl ⟨by rfl, ?hb8⟩) ⟨k8.cell, (kJ.below d zJ).cell⟩ ?rb8
        case hb8 => (intro w' hSw; (try dsimp only at hSw); go_simp; (try with_reducible rfl))
        try simp only [Act.put, List.setIfInBounds_toArray, List.set_cons_zero, List.set_cons_succ]
        refine wpAnyH_ready (rs := [8]) (by kernel_rfl) (by simp) ?_
        refine AllReadyH.cons (o := ⟨none, _, _, _, _, _⟩) rfl (fun K' hK' => ?_) AllReadyH.nil
        go_simp
        replace k8 := k8.set3 n8 (.int .i64 r1) (.int .i64 r2) (.slice A1 rl.length c1); replace row1 := row1.set3 (Nat.ne_of_lt z91) (.int .i64 r1) (.int .i64 r2) (.slice A1 rl.length c1); replace ho1 := ho1.set3 k9 (by decide) (.int .i64 r1) (.int .i64 r2) (.slice A1 rl.length c1)
        replace d := below_set3 d z9 (.int .i64 r1) (.int .i64 r2) (.slice A1 rl.length c1)
        replace k9 := k9.set3s (.int .i64 r1) (.int .i64 r2) (.slice A1 rl.length c1)
        (try (have k8m := k8p.alloc (.cells #[.int .i64 r1, .int .i64 r2, .slice A1 rl.length c1] 50); have row1m := row1p.alloc (.cells #[.int .i64 r1, .int .i64 r2, .slice A1 rl.length c1] 50); have dm := dp.alloc dp.size (.cells #[.int .i64 r1, .int .i64 r2, .slice A1 rl.length c1] 50); have k9m := Box.madeL k8p #[.int .i64 r1, .int .i64 r2, .slice A1 rl.length c1] 50; have ho1m := ho1p.below (below1 _ (.cells #[.int .i64 r1, .int .i64 r2, .slice A1 rl.length c1] 50)) (Nat.le_refl _)))
        refine hK'.out _ _ (by first | with_reducible exact ⟨k8.cell, (kJ.below d zJ).cell⟩ | with_reducible exact ⟨k8m.cell, (kJ.below dm zJ).cell⟩) (fun _ => ?_)
        clear hK' K'
        try simp only [Act.put, List.setIfInBounds_toArray, List.set_cons_zero, List.set_cons_succ]
        refine wpAnyH_ready (rs := [9]) (by kernel_rfl) (by simp) ?_
        refine AllReadyH.cons (o := ⟨some 10, _, _, _, _, _⟩) rfl (fun K' hK' => ?_) AllReadyH.nil
        go_simp
        refine hK'.out _ _ (by first | with_reducible exact ⟨k8.cell, (kJ.below d zJ).cell⟩ | with_reducible exact ⟨k8m.cell, (kJ.below dm zJ).cell⟩) (fun _ => ?_)
        clear hK' K'
        try simp only [Act.put, List.setIfInBounds_toArray, List.set_cons_zero, List.set_cons_succ]
        refine wpAnyH_done (by kernel_rfl) ?_ _
      rotate_left 1
    rotate_left 2
    focus
      go_simp
      have z9 := d.size; have n8 := Nat.ne_of_lt k8.lt; have z91 := row1.lt
      have hX9 := (by first | exact hs5 | exact hsb | exact Nat.le_refl _ : X.heap.size ≤ _)
      have k8p := k8; have row1p := row1; have dp := d; (try have ho1p := ho1)
      have k9 := Box.madeL k8 #[.int .i64 0, .int .i64 0, .slice none 0 0] 50
      (try (change Box _ X.heap.size _ _ at k9; change _ ≤ X.heap.size at z9; change _ ≠ X.heap.size at n8; change _ < X.heap.size at z91; change _ ≤ X.heap.size at hX9))
      (try replace ho1 := ho1.below (below1 _ (.cells #[.int .i64 0, .int .i64 0, .slice none 0 0] 50)) (Nat.le_refl _))
      replace k8 := k8.alloc (.cells #[.int .i64 0, .int .i64 0, .slice none 0 0] 50); replace row1 := row1.alloc (.cells #[.int .i64 0, .int .i64 0, .slice none 0 0] 50); replace d := d.alloc d.size (.cells #[.int .i64 0, .int .i64 0, .slice none 0 0] 50)
      have hs9 := Nat.le_trans hX9 (Nat.le_of_lt k9.lt)
      have qk9 := k9.cell; have fk9 := fun i => frozen_row (i := i) k9
      refine hK'.out _ _ ⟨k8.cell, (kJ.below d zJ).cell⟩ (fun _ => ?_)
      clear hK' K'
      try simp only [Act.put, List.setIfInBounds_toArray, List.set_cons_zero, List.set_cons_succ]
      refine wpAnyH_ready (rs := [2]) (by kernel_rfl) (by simp) ?_
      refine AllReadyH.cons (o := ⟨some 34, _, _, _, _, _⟩) rfl (fun K' hK' => ?_) AllReadyH.nil
      go_simp
      go_at_call 19
      have hsa := k8.lt
      refine (toClue_any _ _ _ _ _).mono ?_
      rintro e w4b ⟨rfl, hx⟩
      replace k8 := k8.go hx; replace row1 := row1.below hx row1.lt; replace d := d.trans (hx.mono d.size)
      have hsb : X.heap.size ≤ w4b.heap.size := by have := hx.size; first | exact this | exact Nat.le_trans hs9 this
      (try replace k9 := k9.go hx)
      (try (have qk9 := k9.cell; have fk9 := fun i => frozen_row (i := i) k9))
      refine hK'.out _ _ ⟨k8.cell, (kJ.below d zJ).cell⟩ (fun _ => ?_)
      clear hK' K'
      try simp only [Act.put, List.setIfInBounds_toArray, List.set_cons_zero, List.set_cons_succ]
      refine wpAnyH_ready (rs := [3]) (by kernel_rfl) (by simp) ?_
      refine AllReadyH.cons (o := ⟨some 35, _, _, _, _, _⟩) rfl (fun K' hK' => ?_) AllReadyH.nil
      go_simp
      go_at_call 51
      refine (HII.out _ _ _ (row1.rq rfl hl) (Nat.le_refl _)).mono ?_
      rintro e w5 ⟨A1, c1, rfl, ho1, hx⟩
      dsimp only at ho1
      replace ho1 := ho1.lo (by first | exact hsb | exact hs9 | exact Nat.le_trans hsb hs9)
      have hs5 : X.heap.size ≤ w5.heap.size := by first | exact Nat.le_trans hsb hx.size | exact Nat.le_trans hs9 hx.size | exact Nat.le_trans (Nat.le_trans hsb hs9) hx.size
      replace k8 := k8.go hx; replace row1 := row1.below hx row1.lt; replace d := d.trans (hx.mono d.size)
      (try replace k9 := k9.go hx)
      (try (have qk9 := k9.cell; have fk9 := fun i => frozen_row (i := i) k9))
      refine hK'.out _ _ ⟨k8.cell, (kJ.below d zJ).cell⟩ (fun _ => ?_)
      clear hK' K'
      try simp only 
      refine wpAnyH_take (i := 4) (oi := ⟨some 31, _, _, _, _, _⟩) (v := ?vb9) rfl (by kernel_rfl) (by kernel_rfl) (by kernel_rfl) (fun _ _ _ h => h) (Or.inl ⟨by rfl, ?hb9⟩) ⟨k8.cell, (kJ.below d zJ).cell⟩ ?rb9
      case hb9 => (intro w' hSw; (try dsimp only at hSw); go_simp; (try with_reducible rfl))
      try simp only [Act.put, List.setIfInBounds_toArray, List.set_cons_zero, List.set_cons_succ]
      refine wpAnyH_take (i := 5) (oi := ⟨some 36, _, _, _, _, _⟩) (v := ?vb10) rfl (by kernel_rfl) (by kernel_rfl) (by kernel_rfl) (fun _ _ _ h => h) (Or.inl ⟨by rfl, ?hb10⟩) ⟨k8.cell, (kJ.below d zJ).cell⟩ ?rb10
      case hb10 => (intro w' hSw; (try dsimp only at hSw); go_simp; (try with_reducible rfl))
      try simp only [Act.put, List.setIfInBounds_toArray, List.set_cons_zero, List.set_cons_succ]
      refine wpAnyH_take (i := 6) (oi := ⟨some 37, _, _, _, _, _⟩) (v := ?vb11) rfl (by kernel_rfl) (by kernel_rfl) (by kernel_rfl) (fun _ _ _ h => h) (Or.inl ⟨by rfl, ?hb11⟩) ⟨k8.cell, (kJ.below d zJ).cell⟩ ?rb11
      case hb11 => (intro w' hSw; (try dsimp only at hSw); go_simp; (try with_reducible rfl))
      try simp only [Act.put, List.setIfInBounds_toArray, List.set_cons_zero, List.set_cons_succ]
      refine wpAnyH_ready (rs := [8]) (by kernel_rfl) (by simp) ?_
      refine AllReadyH.cons (o := ⟨none, _, _, _, _, _⟩) rfl (fun K' hK' => ?_) AllReadyH.nil
      go_simp
      replace k8 := k8.set3 n8 (.int .i64 r1) (.int .i64 r2) (.slice A1 rl.length c1); replace row1 := row1.set3 (Nat.ne_of_lt z91) (.int .i64 r1) (.int .i64 r2) (.slice A1 rl.length c1); replace ho1 := ho1.set3 k9 (by decide) (.int .i64 r1) (.int .i64 r2) (.slice A1 rl.length c1)
      replace d := below_set3 d z9 (.int .i64 r1) (.int .i64 r2) (.slice A1 rl.length c1)
      replace k9 := k9.set3s (.int .i64 r1) (.int .i64 r2) (.slice A1 rl.length c1)
      (try (have k8m := k8p.alloc (.cells #[.int .i64 r1, .int .i64 r2, .slice A1 rl.length c1] 50); have row1m := row1p.alloc (.cells #[.int .i64 r1, .int .i64 r2, .slice A1 rl.length c1] 50); have dm := dp.alloc dp.size (.cells #[.int .i64 r1, .int .i64 r2, .slice A1 rl.length c1] 50); have k9m := Box.madeL k8p #[.int .i64 r1, .int .i64 r2, .slice A1 rl.length c1] 50; have ho1m := ho1p.below (below1 _ (.cells #[.int .i64 r1, .int .i64 r2, .slice A1 rl.length c1] 50)) (Nat.le_refl _)))
      refine hK'.out _ _ (by first | with_reducible exact ⟨k8.cell, (kJ.below d zJ).cell⟩ | with_reducible exact ⟨k8m.cell, (kJ.below dm zJ).cell⟩) (fun _ => ?_)
      clear hK' K'
      try simp only [Act.put, List.setIfInBounds_toArray, List.set_cons_zero, List.set_cons_succ]
      refine wpAnyH_ready (rs := [9]) (by kernel_rfl) (by simp) ?_
      refine AllReadyH.cons (o := ⟨some 10, _, _, _, _, _⟩) rfl (fun K' hK' => ?_) AllReadyH.nil
      go_simp
      refine hK'.out _ _ (by first | with_reducible exact ⟨k8.cell, (kJ.below d zJ).cell⟩ | with_reducible exact ⟨k8m.cell, (kJ.below dm zJ).cell⟩) (fun _ => ?_)
      clear hK' K'
      try simp only [Act.put, List.setIfInBounds_toArray, List.set_cons_zero, List.set_cons_succ]
      refine wpAnyH_done (by kernel_rfl) ?_ _
    rotate_left 1
    all_goals (go_wp2_with fail; go_meet; first | with_reducible exact ⟨_, A1, c1, rfl, rfl, z91, k8, k9, row1, ho1, d, hX9⟩ | with_reducible exact ⟨_, A1, c1, rfl, rfl, z91, k8m, k9m, row1m, ho1m, dm, hX9⟩)
  case rest =>
  rename World => Y
  clear k8 row1 d
  obtain ⟨b9, A1, c1, rfl, rfl, zy2, k8, k9, row1, ho1, d, hX9⟩ := hcut
  have hs5 := hX9
  have qk9 := k9.cell; have qk0 := (k0.below d z0).cell
  go_wp2_with fail
  clear qk9 qk0
  refine (eqPuzzle_any _ _ _ _ _ _ _ _ rl rl _ (ho1.rq hxl) (R0.later d d.size)).mono ?_
  rintro e w6 ⟨rfl, hx⟩
  replace k8 := k8.go hx; replace k9 := k9.go hx; replace row1 := row1.below hx row1.lt; replace ho1 := ho1.below hx (Nat.le_refl _); replace d := d.trans (hx.mono d.size)
  clear hx
  go_wp2_with fail
  -- the program's copy reads as before
  refine wp_region_held_drew (S := (fun w' => (∀ i, w'.cell? ⟨w.heap.size, i, none⟩ = #[.int .i64 q, .int .i64 f, .slice A L.length c][i]?) ∧ (∀ i, w'.cell? ⟨w4.heap.size, i, none⟩ = #[.int .i64 q, .int .i64 f, .slice (some ⟨g1, 0, none⟩) L.length L.length][i]?))) (by kernel_rfl) ⟨(kL.below d.drew zL).cell, k8.drew.cell⟩ (fun hS => ?_)
  refine wpAnyH_take (i := 0) (oi := ⟨some 47, _, _, _, _, _⟩) (v := ?vc1) rfl (by kernel_rfl) (by kernel_rfl) (by kernel_rfl) (fun _ _ _ h => h) (Or.inl ⟨by rfl, ?hc1⟩) hS ?rc1
  case hc1 => (intro w' hSw; (try dsimp only at hSw); go_simp; (try with_reducible rfl))
  try simp only [Act.put, List.setIfInBounds_toArray, List.set_cons_zero, List.set_cons_succ]
  refine wpAnyH_take (i := 1) (oi := ⟨some 48, _, _, _, _, _⟩) (v := ?vc2) rfl (by kernel_rfl) (by kernel_rfl) (by kernel_rfl) (fun _ _ _ h => h) (Or.inl ⟨by rfl, ?hc2⟩) hS ?rc2
  case hc2 => (intro w' hSw; (try dsimp only at hSw); go_simp; (try with_reducible rfl))
  try simp only [Act.put, List.setIfInBounds_toArray, List.set_cons_zero, List.set_cons_succ]
  refine wpAnyH_ready (rs := [2]) (by kernel_rfl) (by simp) ?_
  refine AllReadyH.cons (o := ⟨some 49, _, _, _, _, _⟩) rfl (fun K' hK' => ?_) AllReadyH.nil
  go_simp
  go_at_call 25
  refine (toPuzzle_any _ _ _ _ _ _ (hj.later (D.trans (d.drew.mono D.size)) (Nat.le_trans D.size d.drew.size))).mono ?_
  rintro e w7 ⟨g2, rfl, hg2, row2, hx⟩
  replace k8 := k8.drew.go hx; replace k9 := k9.drew.go hx; replace row1 := row1.drew.below hx row1.lt; replace ho1 := OQ.below (w := w6.drew) ho1 hx (Nat.le_refl _); replace d := d.drew.trans (hx.mono d.drew.size)
  refine hK'.out _ _ ⟨(kL.below d zL).cell, k8.cell⟩ (fun _ => ?_)
  clear hK' K'
  try simp only [Act.put, List.setIfInBounds_toArray, List.set_cons_zero, List.set_cons_succ]
  refine wpAnyH_ready (rs := [3]) (by kernel_rfl) (by simp) ?_
  refine AllReadyH.cons (o := ⟨some 50, _, _, _, _, _⟩) rfl (fun K' hK' => ?_) AllReadyH.nil
  go_simp
  go_at_call 28
  refine (eqPuzzle_any _ _ _ _ _ _ _ _ _ _ _ (row1.rq rfl hl) (row2.rq rfl hl)).mono ?_
  rintro e w8 ⟨rfl, hx8⟩
  replace k8 := k8.go hx8; replace k9 := k9.go hx8; replace row1 := row1.below hx8 row1.lt; replace ho1 := ho1.below hx8 (Nat.le_refl _); replace d := d.trans (hx8.mono d.size)
  refine hK'.out _ _ ⟨(kL.below d zL).cell, k8.cell⟩ (fun _ => ?_)
  clear hK' K'
  try simp only [Act.put, List.setIfInBounds_toArray, List.set_cons_zero, List.set_cons_succ]
  refine wpAnyH_take (i := 4) (oi := ⟨some 51, _, _, _, _, _⟩) (v := ?vc3) rfl (by kernel_rfl) (by kernel_rfl) (by kernel_rfl) (fun _ _ _ h => h) (Or.inl ⟨by rfl, ?hc3⟩) ⟨(kL.below d zL).cell, k8.cell⟩ ?rc3
  case hc3 => (intro w' hSw; (try dsimp only at hSw); go_simp; (try with_reducible rfl))
  try simp only [Act.put, List.setIfInBounds_toArray, List.set_cons_zero, List.set_cons_succ]
  refine wpAnyH_done (by kernel_rfl) ?_ _
  have qk8 := k8.cell
  go_wp2_with fail
  -- marks on the program's copy
  clear qk8
  refine (markPuzzle_any q f (some ⟨g1, 0, none⟩) L.length L.length 0 _ 1 _ (.inr ⟨g1, rfl, Nat.zero_le _, row1⟩) hl (by omega) (by omega)).mono ?_
  rintro e w9 ⟨rfl, _, hg9⟩
  have hg9' : w8.grownBy w9 (some g1) := hg9
  replace k9 := k9.grown hg9' (fun e => by injection e with e; omega); replace ho1 := ho1.grown hg9' (fun g h => by cases h; omega); replace d := d.trans (grown_below hg9' d.size (fun k h => by cases h; exact hg1))
  clear hg9 hg9' row1 k8
  have qk9 := k9.cell; have qk0 := (k0.below d z0).cell
  go_wp2_with fail
  clear qk9 qk0
  refine (eqPuzzle_any _ _ _ _ _ _ _ _ rl rl _ (ho1.rq hxl) (R0.later d d.size)).mono ?_
  rintro e w10 ⟨rfl, hx⟩
  replace k9 := k9.go hx; replace ho1 := ho1.below hx (Nat.le_refl _); replace d := d.trans (hx.mono d.size)
  have qk9 := k9.cell
  go_wp2_with fail
  -- marks on what was handed back
  clear qk9
  refine (markPuzzleK_any r1 r2 A1 rl.length c1 X.heap.size _ 1 _ ho1 (Nat.le_of_lt (Nat.lt_of_le_of_lt hs5 k9.lt)) hxl (by omega) (by omega)).mono ?_
  rintro e w11 ⟨rfl, om, hbm, row, hgr, hrw⟩
  replace k9 := k9.marked hgr (fun g e => (hrw g e).2) (by decide); replace d := d.trans (hbm.mono zx)
  clear ho1 hgr hrw hbm
  have qk9 := k9.cell
  go_wp2_with fail
  clear qk9
  refine (heldPuzzle_any _ _ _ _ _ _ 1 _ om hxl (by omega) (by omega)).mono ?_
  rintro e w12 ⟨rfl, hx⟩
  replace k9 := k9.go hx; replace om := om.below hx (Nat.le_refl _); replace d := d.trans (hx.mono d.size)
  have qkL := (kL.below d zL).cell
  go_upto_region 24 with fail
  -- the call once more
  clear qkL
  go_cut [14, 15] from 79 to 86 (fun s14 s15 wx => ∃ b14 A3 c3, s14 = .pointer (some ⟨b14, 0, none⟩) ∧ s15 = .bool rb ∧ Box wx b9 #[.int .i64 r1, .int .i64 r2, .slice A1 rl.length c1] 50 ∧ Box wx b14 #[.int .i64 r1, .int .i64 r2, .slice A3 rl.length c3] 50 ∧ OQ wx X.heap.size 33 A1 rl.length (marksQ 1) ∧ RQ wx wx.heap.size A3 rl ∧ Below V.heap.size V wx)
  case first =>
    replace k9 := k9.drew; replace om := OQ.below (w := w12) om (w' := w12.drew) (Below.refl _ w12).drew (Nat.le_refl _); replace d := d.drew
    refine wp_region_held_drew (S := (fun w' => (∀ i, w'.cell? ⟨w.heap.size, i, none⟩ = #[.int .i64 q, .int .i64 f, .slice A L.length c][i]?) ∧ (∀ i, w'.cell? ⟨w.heap.size + 1, i, none⟩ = #[.int .i64 ck, .int .i64 ca, .int .i64 cb, .int .i64 cc][i]?))) (by kernel_rfl) ⟨(kL.below d zL).cell, (kJ.below d zJ).cell⟩ (fun hS => ?_)
    refine wpAnyH_take (i := 0) (oi := ⟨some 80, _, _, _, _, _⟩) (v := ?vd1) rfl (by kernel_rfl) (by kernel_rfl) (by kernel_rfl) (fun _ _ _ h => h) (Or.inl ⟨by rfl, ?hd1⟩) hS ?rd1
    case hd1 => (intro w' hSw; (try dsimp only at hSw); go_simp; (try with_reducible rfl))
    try simp only [Act.put, List.setIfInBounds_toArray, List.set_cons_zero, List.set_cons_succ]
    refine wpAnyH_take (i := 2) (oi := ⟨some 82, _, _, _, _, _⟩) (v := ?vd2) rfl (by kernel_rfl) (by kernel_rfl) (by kernel_rfl) (fun _ _ _ h => h) (Or.inl ⟨by rfl, ?hd2⟩) hS ?rd2
    case hd2 => (intro w' hSw; (try dsimp only at hSw); go_simp; (try with_reducible rfl))
    try simp only [Act.put, List.setIfInBounds_toArray, List.set_cons_zero, List.set_cons_succ]
    refine wpAnyH_ready (rs := [1, 8]) (by kernel_rfl) (by simp) ?_
    refine AllReadyH.cons (o := ⟨some 81, _, _, _, _, _⟩) rfl (fun K' hK' => ?_) (AllReadyH.cons (o := ⟨some 14, _, _, _, _, _⟩) rfl (fun K' hK' => ?_) AllReadyH.nil)
    focus
      go_simp
      go_at_call 25
      refine (toPuzzle_any _ _ _ _ _ _ (hj.later (D.trans (d.mono D.size)) (Nat.le_trans D.size d.size))).mono ?_
      rintro e w13 ⟨g3, rfl, hg3, row3, hx⟩
      replace k9 := k9.go hx; replace om := om.below hx (Nat.le_refl _); replace d := d.trans (hx.mono d.size)
      (try replace k14 := k14.go hx)
      (try (have qk14 := k14.cell; have fk14 := fun i => frozen_row (i := i) k14))
      refine hK'.out _ _ ⟨(kL.below d zL).cell, (kJ.below d zJ).cell⟩ (fun _ => ?_)
      clear hK' K'
      try simp only [Act.put, List.setIfInBounds_toArray, List.set_cons_zero, List.set_cons_succ]
      refine wpAnyH_ready (rs := [3, 8]) (by kernel_rfl) (by simp) ?_
      refine AllReadyH.cons (o := ⟨some 83, _, _, _, _, _⟩) rfl (fun K' hK' => ?_) (AllReadyH.cons (o := ⟨some 14, _, _, _, _, _⟩) rfl (fun K' hK' => ?_) AllReadyH.nil)
      focus
        go_simp
        go_at_call 19
        refine (toClue_any _ _ _ _ _).mono ?_
        rintro e w13b ⟨rfl, hx⟩
        replace k9 := k9.go hx; replace row3 := row3.below hx row3.lt; replace om := om.below hx (Nat.le_refl _); replace d := d.trans (hx.mono d.size)
        (try replace k14 := k14.go hx)
        (try (have qk14 := k14.cell; have fk14 := fun i => frozen_row (i := i) k14))
        refine hK'.out _ _ ⟨(kL.below d zL).cell, (kJ.below d zJ).cell⟩ (fun _ => ?_)
        clear hK' K'
        try simp only [Act.put, List.setIfInBounds_toArray, List.set_cons_zero, List.set_cons_succ]
        refine wpAnyH_ready (rs := [4, 8]) (by kernel_rfl) (by simp) ?_
        refine AllReadyH.cons (o := ⟨some 84, _, _, _, _, _⟩) rfl (fun K' hK' => ?_) (AllReadyH.cons (o := ⟨some 14, _, _, _, _, _⟩) rfl (fun K' hK' => ?_) AllReadyH.nil)
        focus
          go_simp
          go_at_call 51
          refine (HII.out _ _ _ (row3.rq rfl hl) (Nat.le_refl _)).mono ?_
          rintro e w14 ⟨A3, c3, rfl, ho3, hx⟩
          dsimp only at ho3
          replace k9 := k9.go hx; replace om := om.below hx (Nat.le_refl _); replace d := d.trans (hx.mono d.size)
          (try replace k14 := k14.go hx)
          (try (have qk14 := k14.cell; have fk14 := fun i => frozen_row (i := i) k14))
          refine hK'.out _ _ ⟨(kL.below d zL).cell, (kJ.below d zJ).cell⟩ (fun _ => ?_)
          clear hK' K'
          try simp only 
          refine wpAnyH_take (i := 5) (oi := ⟨some 79, _, _, _, _, _⟩) (v := ?vd3) rfl (by kernel_rfl) (by kernel_rfl) (by kernel_rfl) (fun _ _ _ h => h) (Or.inl ⟨by rfl, ?hd3⟩) ⟨(kL.below d zL).cell, (kJ.below d zJ).cell⟩ ?rd3
          case hd3 => (intro w' hSw; (try dsimp only at hSw); go_simp; (try with_reducible rfl))
          try simp only [Act.put, List.setIfInBounds_toArray, List.set_cons_zero, List.set_cons_succ]
          refine wpAnyH_take (i := 6) (oi := ⟨some 85, _, _, _, _, _⟩) (v := ?vd4) rfl (by kernel_rfl) (by kernel_rfl) (by kernel_rfl) (fun _ _ _ h => h) (Or.inl ⟨by rfl, ?hd4⟩) ⟨(kL.below d zL).cell, (kJ.below d zJ).cell⟩ ?rd4
          case hd4 => (intro w' hSw; (try dsimp only at hSw); go_simp; (try with_reducible rfl))
          try simp only [Act.put, List.setIfInBounds_toArray, List.set_cons_zero, List.set_cons_succ]
          refine wpAnyH_take (i := 7) (oi := ⟨some 86, _, _, _, _, _⟩) (v := ?vd5) rfl (by kernel_rfl) (by kernel_rfl) (by kernel_rfl) (fun _ _ _ h => h) (Or.inl ⟨by rfl, ?hd5⟩) ⟨(kL.below d zL).cell, (kJ.below d zJ).cell⟩ ?rd5
          case hd5 => (intro w' hSw; (try dsimp only at hSw); go_simp; (try with_reducible rfl))
          try simp only [Act.put, List.setIfInBounds_toArray, List.set_cons_zero, List.set_cons_succ]
          refine wpAnyH_ready (rs := [8]) (by kernel_rfl) (by simp) ?_
          refine AllReadyH.cons (o := ⟨some 14, _, _, _, _, _⟩) rfl (fun K' hK' => ?_) AllReadyH.nil
          go_simp
          have z14 := d.size; have n9 := Nat.ne_of_lt k9.lt
          have k9p := k9; have omp := om; have dp := d; (try have ho3p := ho3)
          have k14 := Box.madeL k9 #[.int .i64 0, .int .i64 0, .slice none 0 0] 50
          (try (change Box _ w12.heap.size _ _ at k14; change _ ≤ w12.heap.size at z14; change _ ≠ w12.heap.size at n9))
          (try replace row3 := row3.alloc (.cells #[.int .i64 0, .int .i64 0, .slice none 0 0] 50))
          (try replace ho3 := ho3.below (below1 _ (.cells #[.int .i64 0, .int .i64 0, .slice none 0 0] 50)) (Nat.le_refl _))
          replace k9 := k9.alloc (.cells #[.int .i64 0, .int .i64 0, .slice none 0 0] 50); replace om := om.below (below1 _ (.cells #[.int .i64 0, .int .i64 0, .slice none 0 0] 50)) (Nat.le_refl _); replace d := d.alloc d.size (.cells #[.int .i64 0, .int .i64 0, .slice none 0 0] 50)
          have qk14 := k14.cell; have fk14 := fun i => frozen_row (i := i) k14
          refine hK'.out _ _ ⟨(kL.below d zL).cell, (kJ.below d zJ).cell⟩ (fun _ => ?_)
          clear hK' K'
          try simp only [Act.put, List.setIfInBounds_toArray, List.set_cons_zero, List.set_cons_succ]
          refine wpAnyH_ready (rs := [9]) (by kernel_rfl) (by simp) ?_
          refine AllReadyH.cons (o := ⟨none, _, _, _, _, _⟩) rfl (fun K' hK' => ?_) AllReadyH.nil
          go_simp
          replace k9 := k9.set3 n9 (.int .i64 r1) (.int .i64 r2) (.slice A3 rl.length c3); replace om := om.set3 k14 (by decide) (.int .i64 r1) (.int .i64 r2) (.slice A3 rl.length c3); replace ho3 := ho3.set3 k14 (by decide) (.int .i64 r1) (.int .i64 r2) (.slice A3 rl.length c3)
          replace d := below_set3 d z14 (.int .i64 r1) (.int .i64 r2) (.slice A3 rl.length c3)
          replace k14 := k14.set3s (.int .i64 r1) (.int .i64 r2) (.slice A3 rl.length c3)
          (try (have k9m := k9p.alloc (.cells #[.int .i64 r1, .int .i64 r2, .slice A3 rl.length c3] 50); have omm := omp.below (below1 _ (.cells #[.int .i64 r1, .int .i64 r2, .slice A3 rl.length c3] 50)) (Nat.le_refl _); have dm := dp.alloc dp.size (.cells #[.int .i64 r1, .int .i64 r2, .slice A3 rl.length c3] 50); have k14m := Box.madeL k9p #[.int .i64 r1, .int .i64 r2, .slice A3 rl.length c3] 50; have ho3m := ho3p.below (below1 _ (.cells #[.int .i64 r1, .int .i64 r2, .slice A3 rl.length c3] 50)) (Nat.le_refl _)))
          refine hK'.out _ _ (by first | with_reducible exact ⟨(kL.below d zL).cell, (kJ.below d zJ).cell⟩ | with_reducible exact ⟨(kL.below dm zL).cell, (kJ.below dm zJ).cell⟩) (fun _ => ?_)
          clear hK' K'
          try simp only [Act.put, List.setIfInBounds_toArray, List.set_cons_zero, List.set_cons_succ]
          refine wpAnyH_ready (rs := [10]) (by kernel_rfl) (by simp) ?_
          refine AllReadyH.cons (o := ⟨some 15, _, _, _, _, _⟩) rfl (fun K' hK' => ?_) AllReadyH.nil
          go_simp
          refine hK'.out _ _ (by first | with_reducible exact ⟨(kL.below d zL).cell, (kJ.below d zJ).cell⟩ | with_reducible exact ⟨(kL.below dm zL).cell, (kJ.below dm zJ).cell⟩) (fun _ => ?_)
          clear hK' K'
          try simp only [Act.put, List.setIfInBounds_toArray, List.set_cons_zero, List.set_cons_succ]
          refine wpAnyH_done (by kernel_rfl) ?_ _
        rotate_left 1
        focus
          go_simp
          have z14 := d.size; have n9 := Nat.ne_of_lt k9.lt
          have k9p := k9; have omp := om; have dp := d; (try have ho3p := ho3)
          have k14 := Box.madeL k9 #[.int .i64 0, .int .i64 0, .slice none 0 0] 50
          (try (change Box _ w12.heap.size _ _ at k14; change _ ≤ w12.heap.size at z14; change _ ≠ w12.heap.size at n9))
          (try replace row3 := row3.alloc (.cells #[.int .i64 0, .int .i64 0, .slice none 0 0] 50))
          (try replace ho3 := ho3.below (below1 _ (.cells #[.int .i64 0, .int .i64 0, .slice none 0 0] 50)) (Nat.le_refl _))
          replace k9 := k9.alloc (.cells #[.int .i64 0, .int .i64 0, .slice none 0 0] 50); replace om := om.below (below1 _ (.cells #[.int .i64 0, .int .i64 0, .slice none 0 0] 50)) (Nat.le_refl _); replace d := d.alloc d.size (.cells #[.int .i64 0, .int .i64 0, .slice none 0 0] 50)
          have qk14 := k14.cell; have fk14 := fun i => frozen_row (i := i) k14
          refine hK'.out _ _ ⟨(kL.below d zL).cell, (kJ.below d zJ).cell⟩ (fun _ => ?_)
          clear hK' K'
          try simp only [Act.put, List.setIfInBounds_toArray, List.set_cons_zero, List.set_cons_succ]
          refine wpAnyH_ready (rs := [4]) (by kernel_rfl) (by simp) ?_
          refine AllReadyH.cons (o := ⟨some 84, _, _, _, _, _⟩) rfl (fun K' hK' => ?_) AllReadyH.nil
          go_simp
          go_at_call 51
          refine (HII.out _ _ _ (row3.rq rfl hl) (Nat.le_refl _)).mono ?_
          rintro e w14 ⟨A3, c3, rfl, ho3, hx⟩
          dsimp only at ho3
          replace k9 := k9.go hx; replace om := om.below hx (Nat.le_refl _); replace d := d.trans (hx.mono d.size)
          (try replace k14 := k14.go hx)
          (try (have qk14 := k14.cell; have fk14 := fun i => frozen_row (i := i) k14))
          refine hK'.out _ _ ⟨(kL.below d zL).cell, (kJ.below d zJ).cell⟩ (fun _ => ?_)
          clear hK' K'
          try simp only 
          refine wpAnyH_take (i := 5) (oi := ⟨some 79, _, _, _, _, _⟩) (v := ?vd6) rfl (by kernel_rfl) (by kernel_rfl) (by kernel_rfl) (fun _ _ _ h => h) (Or.inl ⟨by rfl, ?hd6⟩) ⟨(kL.below d zL).cell, (kJ.below d zJ).cell⟩ ?rd6
          case hd6 => (intro w' hSw; (try dsimp only at hSw); go_simp; (try with_reducible rfl))
          try simp only [Act.put, List.setIfInBounds_toArray, List.set_cons_zero, List.set_cons_succ]
          refine wpAnyH_take (i := 6) (oi := ⟨some 85, _, _, _, _, _⟩) (v := ?vd7) rfl (by kernel_rfl) (by kernel_rfl) (by kernel_rfl) (fun _ _ _ h => h) (Or.inl ⟨by rfl, ?hd7⟩) ⟨(kL.below d zL).cell, (kJ.below d zJ).cell⟩ ?rd7
          case hd7 => (intro w' hSw; (try dsimp only at hSw); go_simp; (try with_reducible rfl))
          try simp only [Act.put, List.setIfInBounds_toArray, List.set_cons_zero, List.set_cons_succ]
          refine wpAnyH_take (i := 7) (oi := ⟨some 86, _, _, _, _, _⟩) (v := ?vd8) rfl (by kernel_rfl) (by kernel_rfl) (by kernel_rfl) (fun _ _ _ h => h) (Or.inl ⟨by rfl, ?hd8⟩) ⟨(kL.below d zL).cell, (kJ.below d zJ).cell⟩ ?rd8
          case hd8 => (intro w' hSw; (try dsimp only at hSw); go_simp; (try with_reducible rfl))
          try simp only [Act.put, List.setIfInBounds_toArray, List.set_cons_zero, List.set_cons_succ]
          refine wpAnyH_ready (rs := [9]) (by kernel_rfl) (by simp) ?_
          refine AllReadyH.cons (o := ⟨none, _, _, _, _, _⟩) rfl (fun K' hK' => ?_) AllReadyH.nil
          go_simp
          replace k9 := k9.set3 n9 (.int .i64 r1) (.int .i64 r2) (.slice A3 rl.length c3); replace om := om.set3 k14 (by decide) (.int .i64 r1) (.int .i64 r2) (.slice A3 rl.length c3); replace ho3 := ho3.set3 k14 (by decide) (.int .i64 r1) (.int .i64 r2) (.slice A3 rl.length c3)
          replace d := below_set3 d z14 (.int .i64 r1) (.int .i64 r2) (.slice A3 rl.length c3)
          replace k14 := k14.set3s (.int .i64 r1) (.int .i64 r2) (.slice A3 rl.length c3)
          (try (have k9m := k9p.alloc (.cells #[.int .i64 r1, .int .i64 r2, .slice A3 rl.length c3] 50); have omm := omp.below (below1 _ (.cells #[.int .i64 r1, .int .i64 r2, .slice A3 rl.length c3] 50)) (Nat.le_refl _); have dm := dp.alloc dp.size (.cells #[.int .i64 r1, .int .i64 r2, .slice A3 rl.length c3] 50); have k14m := Box.madeL k9p #[.int .i64 r1, .int .i64 r2, .slice A3 rl.length c3] 50; have ho3m := ho3p.below (below1 _ (.cells #[.int .i64 r1, .int .i64 r2, .slice A3 rl.length c3] 50)) (Nat.le_refl _)))
          refine hK'.out _ _ (by first | with_reducible exact ⟨(kL.below d zL).cell, (kJ.below d zJ).cell⟩ | with_reducible exact ⟨(kL.below dm zL).cell, (kJ.below dm zJ).cell⟩) (fun _ => ?_)
          clear hK' K'
          try simp only [Act.put, List.setIfInBounds_toArray, List.set_cons_zero, List.set_cons_succ]
          refine wpAnyH_ready (rs := [10]) (by kernel_rfl) (by simp) ?_
          refine AllReadyH.cons (o := ⟨some 15, _, _, _, _, _⟩) rfl (fun K' hK' => ?_) AllReadyH.nil
          go_simp
          refine hK'.out _ _ (by first | with_reducible exact ⟨(kL.below d zL).cell, (kJ.below d zJ).cell⟩ | with_reducible exact ⟨(kL.below dm zL).cell, (kJ.below dm zJ).cell⟩) (fun _ => ?_)
          clear hK' K'
          try simp only [Act.put, List.setIfInBounds_toArray, List.set_cons_zero, List.set_cons_succ]
          refine wpAnyH_done (by kernel_rfl) ?_ _
        rotate_left 1
      rotate_left 2
      focus
        go_simp
        have z14 := d.size; have n9 := Nat.ne_of_lt k9.lt
        have k9p := k9; have omp := om; have dp := d; (try have ho3p := ho3)
        have k14 := Box.madeL k9 #[.int .i64 0, .int .i64 0, .slice none 0 0] 50
        (try (change Box _ w12.heap.size _ _ at k14; change _ ≤ w12.heap.size at z14; change _ ≠ w12.heap.size at n9))
        (try replace row3 := row3.alloc (.cells #[.int .i64 0, .int .i64 0, .slice none 0 0] 50))
        (try replace ho3 := ho3.below (below1 _ (.cells #[.int .i64 0, .int .i64 0, .slice none 0 0] 50)) (Nat.le_refl _))
        replace k9 := k9.alloc (.cells #[.int .i64 0, .int .i64 0, .slice none 0 0] 50); replace om := om.below (below1 _ (.cells #[.int .i64 0, .int .i64 0, .slice none 0 0] 50)) (Nat.le_refl _); replace d := d.alloc d.size (.cells #[.int .i64 0, .int .i64 0, .slice none 0 0] 50)
        have qk14 := k14.cell; have fk14 := fun i => frozen_row (i := i) k14
        refine hK'.out _ _ ⟨(kL.below d zL).cell, (kJ.below d zJ).cell⟩ (fun _ => ?_)
        clear hK' K'
        try simp only [Act.put, List.setIfInBounds_toArray, List.set_cons_zero, List.set_cons_succ]
        refine wpAnyH_ready (rs := [3]) (by kernel_rfl) (by simp) ?_
        refine AllReadyH.cons (o := ⟨some 83, _, _, _, _, _⟩) rfl (fun K' hK' => ?_) AllReadyH.nil
        go_simp
        go_at_call 19
        refine (toClue_any _ _ _ _ _).mono ?_
        rintro e w13b ⟨rfl, hx⟩
        replace k9 := k9.go hx; replace row3 := row3.below hx row3.lt; replace om := om.below hx (Nat.le_refl _); replace d := d.trans (hx.mono d.size)
        (try replace k14 := k14.go hx)
        (try (have qk14 := k14.cell; have fk14 := fun i => frozen_row (i := i) k14))
        refine hK'.out _ _ ⟨(kL.below d zL).cell, (kJ.below d zJ).cell⟩ (fun _ => ?_)
        clear hK' K'
        try simp only [Act.put, List.setIfInBounds_toArray, List.set_cons_zero, List.set_cons_succ]
        refine wpAnyH_ready (rs := [4]) (by kernel_rfl) (by simp) ?_
        refine AllReadyH.cons (o := ⟨some 84, _, _, _, _, _⟩) rfl (fun K' hK' => ?_) AllReadyH.nil
        go_simp
        go_at_call 51
        refine (HII.out _ _ _ (row3.rq rfl hl) (Nat.le_refl _)).mono ?_
        rintro e w14 ⟨A3, c3, rfl, ho3, hx⟩
        dsimp only at ho3
        replace k9 := k9.go hx; replace om := om.below hx (Nat.le_refl _); replace d := d.trans (hx.mono d.size)
        (try replace k14 := k14.go hx)
        (try (have qk14 := k14.cell; have fk14 := fun i => frozen_row (i := i) k14))
        refine hK'.out _ _ ⟨(kL.below d zL).cell, (kJ.below d zJ).cell⟩ (fun _ => ?_)
        clear hK' K'
        try simp only 
        refine wpAnyH_take (i := 5) (oi := ⟨some 79, _, _, _, _, _⟩) (v := ?vd9) rfl (by kernel_rfl) (by kernel_rfl) (by kernel_rfl) (fun _ _ _ h => h) (Or.inl ⟨by rfl, ?hd9⟩) ⟨(kL.below d zL).cell, (kJ.below d zJ).cell⟩ ?rd9
        case hd9 => (intro w' hSw; (try dsimp only at hSw); go_simp; (try with_reducible rfl))
        try simp only [Act.put, List.setIfInBounds_toArray, List.set_cons_zero, List.set_cons_succ]
        refine wpAnyH_take (i := 6) (oi := ⟨some 85, _, _, _, _, _⟩) (v := ?vd10) rfl (by kernel_rfl) (by kernel_rfl) (by kernel_rfl) (fun _ _ _ h => h) (Or.inl ⟨by rfl, ?hd10⟩) ⟨(kL.below d zL).cell, (kJ.below d zJ).cell⟩ ?rd10
        case hd10 => (intro w' hSw; (try dsimp only at hSw); go_simp; (try with_reducible rfl))
        try simp only [Act.put, List.setIfInBounds_toArray, List.set_cons_zero, List.set_cons_succ]
        refine wpAnyH_take (i := 7) (oi := ⟨some 86, _, _, _, _, _⟩) (v := ?vd11) rfl (by kernel_rfl) (by kernel_rfl) (by kernel_rfl) (fun _ _ _ h => h) (Or.inl ⟨by rfl, ?hd11⟩) ⟨(kL.below d zL).cell, (kJ.below d zJ).cell⟩ ?rd11
        case hd11 => (intro w' hSw; (try dsimp only at hSw); go_simp; (try with_reducible rfl))
        try simp only [Act.put, List.setIfInBounds_toArray, List.set_cons_zero, List.set_cons_succ]
        refine wpAnyH_ready (rs := [9]) (by kernel_rfl) (by simp) ?_
        refine AllReadyH.cons (o := ⟨none, _, _, _, _, _⟩) rfl (fun K' hK' => ?_) AllReadyH.nil
        go_simp
        replace k9 := k9.set3 n9 (.int .i64 r1) (.int .i64 r2) (.slice A3 rl.length c3); replace om := om.set3 k14 (by decide) (.int .i64 r1) (.int .i64 r2) (.slice A3 rl.length c3); replace ho3 := ho3.set3 k14 (by decide) (.int .i64 r1) (.int .i64 r2) (.slice A3 rl.length c3)
        replace d := below_set3 d z14 (.int .i64 r1) (.int .i64 r2) (.slice A3 rl.length c3)
        replace k14 := k14.set3s (.int .i64 r1) (.int .i64 r2) (.slice A3 rl.length c3)
        (try (have k9m := k9p.alloc (.cells #[.int .i64 r1, .int .i64 r2, .slice A3 rl.length c3] 50); have omm := omp.below (below1 _ (.cells #[.int .i64 r1, .int .i64 r2, .slice A3 rl.length c3] 50)) (Nat.le_refl _); have dm := dp.alloc dp.size (.cells #[.int .i64 r1, .int .i64 r2, .slice A3 rl.length c3] 50); have k14m := Box.madeL k9p #[.int .i64 r1, .int .i64 r2, .slice A3 rl.length c3] 50; have ho3m := ho3p.below (below1 _ (.cells #[.int .i64 r1, .int .i64 r2, .slice A3 rl.length c3] 50)) (Nat.le_refl _)))
        refine hK'.out _ _ (by first | with_reducible exact ⟨(kL.below d zL).cell, (kJ.below d zJ).cell⟩ | with_reducible exact ⟨(kL.below dm zL).cell, (kJ.below dm zJ).cell⟩) (fun _ => ?_)
        clear hK' K'
        try simp only [Act.put, List.setIfInBounds_toArray, List.set_cons_zero, List.set_cons_succ]
        refine wpAnyH_ready (rs := [10]) (by kernel_rfl) (by simp) ?_
        refine AllReadyH.cons (o := ⟨some 15, _, _, _, _, _⟩) rfl (fun K' hK' => ?_) AllReadyH.nil
        go_simp
        refine hK'.out _ _ (by first | with_reducible exact ⟨(kL.below d zL).cell, (kJ.below d zJ).cell⟩ | with_reducible exact ⟨(kL.below dm zL).cell, (kJ.below dm zJ).cell⟩) (fun _ => ?_)
        clear hK' K'
        try simp only [Act.put, List.setIfInBounds_toArray, List.set_cons_zero, List.set_cons_succ]
        refine wpAnyH_done (by kernel_rfl) ?_ _
      rotate_left 1
    rotate_left 3
    focus
      go_simp
      have z14 := d.size; have n9 := Nat.ne_of_lt k9.lt
      have k9p := k9; have omp := om; have dp := d; (try have ho3p := ho3)
      have k14 := Box.madeL k9 #[.int .i64 0, .int .i64 0, .slice none 0 0] 50
      (try (change Box _ w12.heap.size _ _ at k14; change _ ≤ w12.heap.size at z14; change _ ≠ w12.heap.size at n9))
      (try replace row3 := row3.alloc (.cells #[.int .i64 0, .int .i64 0, .slice none 0 0] 50))
      (try replace ho3 := ho3.below (below1 _ (.cells #[.int .i64 0, .int .i64 0, .slice none 0 0] 50)) (Nat.le_refl _))
      replace k9 := k9.alloc (.cells #[.int .i64 0, .int .i64 0, .slice none 0 0] 50); replace om := om.below (below1 _ (.cells #[.int .i64 0, .int .i64 0, .slice none 0 0] 50)) (Nat.le_refl _); replace d := d.alloc d.size (.cells #[.int .i64 0, .int .i64 0, .slice none 0 0] 50)
      have qk14 := k14.cell; have fk14 := fun i => frozen_row (i := i) k14
      refine hK'.out _ _ ⟨(kL.below d zL).cell, (kJ.below d zJ).cell⟩ (fun _ => ?_)
      clear hK' K'
      try simp only [Act.put, List.setIfInBounds_toArray, List.set_cons_zero, List.set_cons_succ]
      refine wpAnyH_ready (rs := [1]) (by kernel_rfl) (by simp) ?_
      refine AllReadyH.cons (o := ⟨some 81, _, _, _, _, _⟩) rfl (fun K' hK' => ?_) AllReadyH.nil
      go_simp
      go_at_call 25
      refine (toPuzzle_any _ _ _ _ _ _ (hj.later (D.trans (d.mono D.size)) (Nat.le_trans D.size d.size))).mono ?_
      rintro e w13 ⟨g3, rfl, hg3, row3, hx⟩
      replace k9 := k9.go hx; replace om := om.below hx (Nat.le_refl _); replace d := d.trans (hx.mono d.size)
      (try replace k14 := k14.go hx)
      (try (have qk14 := k14.cell; have fk14 := fun i => frozen_row (i := i) k14))
      refine hK'.out _ _ ⟨(kL.below d zL).cell, (kJ.below d zJ).cell⟩ (fun _ => ?_)
      clear hK' K'
      try simp only [Act.put, List.setIfInBounds_toArray, List.set_cons_zero, List.set_cons_succ]
      refine wpAnyH_ready (rs := [3]) (by kernel_rfl) (by simp) ?_
      refine AllReadyH.cons (o := ⟨some 83, _, _, _, _, _⟩) rfl (fun K' hK' => ?_) AllReadyH.nil
      go_simp
      go_at_call 19
      refine (toClue_any _ _ _ _ _).mono ?_
      rintro e w13b ⟨rfl, hx⟩
      replace k9 := k9.go hx; replace row3 := row3.below hx row3.lt; replace om := om.below hx (Nat.le_refl _); replace d := d.trans (hx.mono d.size)
      (try replace k14 := k14.go hx)
      (try (have qk14 := k14.cell; have fk14 := fun i => frozen_row (i := i) k14))
      refine hK'.out _ _ ⟨(kL.below d zL).cell, (kJ.below d zJ).cell⟩ (fun _ => ?_)
      clear hK' K'
      try simp only [Act.put, List.setIfInBounds_toArray, List.set_cons_zero, List.set_cons_succ]
      refine wpAnyH_ready (rs := [4]) (by kernel_rfl) (by simp) ?_
      refine AllReadyH.cons (o := ⟨some 84, _, _, _, _, _⟩) rfl (fun K' hK' => ?_) AllReadyH.nil
      go_simp
      go_at_call 51
      refine (HII.out _ _ _ (row3.rq rfl hl) (Nat.le_refl _)).mono ?_
      rintro e w14 ⟨A3, c3, rfl, ho3, hx⟩
      dsimp only at ho3
      replace k9 := k9.go hx; replace om := om.below hx (Nat.le_refl _); replace d := d.trans (hx.mono d.size)
      (try replace k14 := k14.go hx)
      (try (have qk14 := k14.cell; have fk14 := fun i => frozen_row (i := i) k14))
      refine hK'.out _ _ ⟨(kL.below d zL).cell, (kJ.below d zJ).cell⟩ (fun _ => ?_)
      clear hK' K'
      try simp only 
      refine wpAnyH_take (i := 5) (oi := ⟨some 79, _, _, _, _, _⟩) (v := ?vd12) rfl (by kernel_rfl) (by kernel_rfl) (by kernel_rfl) (fun _ _ _ h => h) (Or.inl ⟨by rfl, ?hd12⟩) ⟨(kL.below d zL).cell, (kJ.below d zJ).cell⟩ ?rd12
      case hd12 => (intro w' hSw; (try dsimp only at hSw); go_simp; (try with_reducible rfl))
      try simp only [Act.put, List.setIfInBounds_toArray, List.set_cons_zero, List.set_cons_succ]
      refine wpAnyH_take (i := 6) (oi := ⟨some 85, _, _, _, _, _⟩) (v := ?vd13) rfl (by kernel_rfl) (by kernel_rfl) (by kernel_rfl) (fun _ _ _ h => h) (Or.inl ⟨by rfl, ?hd13⟩) ⟨(kL.below d zL).cell, (kJ.below d zJ).cell⟩ ?rd13
      case hd13 => (intro w' hSw; (try dsimp only at hSw); go_simp; (try with_reducible rfl))
      try simp only [Act.put, List.setIfInBounds_toArray, List.set_cons_zero, List.set_cons_succ]
      refine wpAnyH_take (i := 7) (oi := ⟨some 86, _, _, _, _, _⟩) (v := ?vd14) rfl (by kernel_rfl) (by kernel_rfl) (by kernel_rfl) (fun _ _ _ h => h) (Or.inl ⟨by rfl, ?hd14⟩) ⟨(kL.below d zL).cell, (kJ.below d zJ).cell⟩ ?rd14
      case hd14 => (intro w' hSw; (try dsimp only at hSw); go_simp; (try with_reducible rfl))
      try simp only [Act.put, List.setIfInBounds_toArray, List.set_cons_zero, List.set_cons_succ]
      refine wpAnyH_ready (rs := [9]) (by kernel_rfl) (by simp) ?_
      refine AllReadyH.cons (o := ⟨none, _, _, _, _, _⟩) rfl (fun K' hK' => ?_) AllReadyH.nil
      go_simp
      replace k9 := k9.set3 n9 (.int .i64 r1) (.int .i64 r2) (.slice A3 rl.length c3); replace om := om.set3 k14 (by decide) (.int .i64 r1) (.int .i64 r2) (.slice A3 rl.length c3); replace ho3 := ho3.set3 k14 (by decide) (.int .i64 r1) (.int .i64 r2) (.slice A3 rl.length c3)
      replace d := below_set3 d z14 (.int .i64 r1) (.int .i64 r2) (.slice A3 rl.length c3)
      replace k14 := k14.set3s (.int .i64 r1) (.int .i64 r2) (.slice A3 rl.length c3)
      (try (have k9m := k9p.alloc (.cells #[.int .i64 r1, .int .i64 r2, .slice A3 rl.length c3] 50); have omm := omp.below (below1 _ (.cells #[.int .i64 r1, .int .i64 r2, .slice A3 rl.length c3] 50)) (Nat.le_refl _); have dm := dp.alloc dp.size (.cells #[.int .i64 r1, .int .i64 r2, .slice A3 rl.length c3] 50); have k14m := Box.madeL k9p #[.int .i64 r1, .int .i64 r2, .slice A3 rl.length c3] 50; have ho3m := ho3p.below (below1 _ (.cells #[.int .i64 r1, .int .i64 r2, .slice A3 rl.length c3] 50)) (Nat.le_refl _)))
      refine hK'.out _ _ (by first | with_reducible exact ⟨(kL.below d zL).cell, (kJ.below d zJ).cell⟩ | with_reducible exact ⟨(kL.below dm zL).cell, (kJ.below dm zJ).cell⟩) (fun _ => ?_)
      clear hK' K'
      try simp only [Act.put, List.setIfInBounds_toArray, List.set_cons_zero, List.set_cons_succ]
      refine wpAnyH_ready (rs := [10]) (by kernel_rfl) (by simp) ?_
      refine AllReadyH.cons (o := ⟨some 15, _, _, _, _, _⟩) rfl (fun K' hK' => ?_) AllReadyH.nil
      go_simp
      refine hK'.out _ _ (by first | with_reducible exact ⟨(kL.below d zL).cell, (kJ.below d zJ).cell⟩ | with_reducible exact ⟨(kL.below dm zL).cell, (kJ.below dm zJ).cell⟩) (fun _ => ?_)
      clear hK' K'
      try simp only [Act.put, List.setIfInBounds_toArray, List.set_cons_zero, List.set_cons_succ]
      refine wpAnyH_done (by kernel_rfl) ?_ _
    rotate_left 1
    all_goals (go_wp2_with fail; go_meet; first | with_reducible exact ⟨_, A3, c3, rfl, rfl, k9, k14, om, ho3.rq hxl, d⟩ | with_reducible exact ⟨_, A3, c3, rfl, rfl, k9m, k14m, omm, ho3m.rq hxl, dm⟩)
  case rest =>
  rename World => U
  clear k9 om d
  obtain ⟨b14, A3, c3, rfl, rfl, k9, k14, om, R3, d⟩ := hcut
  have qk14 := k14.cell; have qk0 := (k0.below d z0).cell
  go_wp2_with fail
  clear qk14 qk0 k14
  refine (eqPuzzle_any _ _ _ _ _ _ _ _ rl rl _ R3 (R0.later d d.size)).mono ?_
  rintro e w15 ⟨rfl, hx⟩
  replace k9 := k9.go hx; replace om := om.below hx (Nat.le_refl _); replace d := d.trans (hx.mono d.size)
  have qk9 := k9.cell
  go_wp2_with fail
  clear qk9
  refine (heldPuzzle_any _ _ _ _ _ _ 1 _ om hxl (by omega) (by omega)).mono ?_
  rintro e w16 ⟨rfl, hx⟩
  replace d := d.trans (hx.mono d.size)
  go_wp2
  go_ret
  exact ⟨rfl, D.trans (d.mono D.size)⟩
end Go.Proofs.Ytmhffdgfkgdmlab

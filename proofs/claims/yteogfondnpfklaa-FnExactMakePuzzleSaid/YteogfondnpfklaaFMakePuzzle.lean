/-
  The law FnExactMakePuzzle, walked.
-/
import Derived.Test.YteogfondnpfklaaC9zh
import Derived.Test.YteogfondnpfklaaL2
import Derived.Test.YteogfondnpfklaaL84
import Derived.Test.YteogfondnpfklaaWReg
import Derived.Deep.RegionHeld3
import Derived.Deep.CutRange
namespace Go.Proofs.Yteogfondnpfklaa
open Go.RowKit

set_option maxRecDepth 100000 in
theorem lawMakePuzzle_big (s f o : Int) (A : Option Addr) (n c : Nat) (cl sd : Int) (w : World) (hn : n ≤ maxLen) (h : 1048576 < n) :
    Calls Try.prog 3 #[.agg #[.int .i64 s, .int .i64 f, .int .i64 o, .slice A n c], .int .i64 cl, .int .i64 sd] w fun e w' => e = .returned (.bool true) ∧ Below w.heap.size w w' := by
  have h1 : (1048576 : Int) < n := by omega
  go_enter Try.func3, Try.ntmps3
  go_wp2_with (go_at_call 11; refine (szBoard_any _ _ _ _ _ _ _ _ hn (by omega) (by omega)).mono ?_; rintro e w1 ⟨rfl, hx⟩)
  go_ret
  exact ⟨rfl, (below1 _ _).trans (hx.mono (by simp))⟩

set_option maxHeartbeats 2000000 in
set_option maxRecDepth 100000 in
theorem lawMakePuzzle_small (s f o : Int) (A : Option Addr) (c : Nat) (cl sd : Int) (js : List (Int × Int)) (w : World) (hj : RJ w w.heap.size A js) :
    Calls Try.prog 3 #[.agg #[.int .i64 s, .int .i64 f, .int .i64 o, .slice A js.length c], .int .i64 cl, .int .i64 sd] w fun e w' => e = .returned (.bool true) ∧ Below w.heap.size w w' := by
  have hl := hj.1
  have h1 : ¬ (1048576 : Int) < js.length := by omega
  have h2 : ¬ (1048576 : Int) - js.length < 0 := by omega
  obtain ⟨R, hR⟩ : ∃ R, R = makeR s f o js cl sd := ⟨_, rfl⟩
  have hlen : R.1.2.2.length ≤ 1048576 := by rw [hR]; exact makeR_len
  have hSS : ∀ (g c : Nat) (W : World), RJ W W.heap.size (some ⟨g, 0, none⟩) js → js.length ≤ c → Calls Try.prog 12 #[.agg #[.int .i64 s, .int .i64 f, .int .i64 o, .slice (some ⟨g, 0, none⟩) js.length c], .int .i64 cl, .int .i64 sd] W (PzBack W.heap.size W R) := fun g c W h hc => by rw [hR]; exact (makePuzzle_both s f o js cl sd).1 _ c W h
  have hII : ∀ (A : Option Addr) (c : Nat) (W : World), RJ W W.heap.size A js → Calls Try.prog 14 #[.agg #[.int .i64 s, .int .i64 f, .int .i64 o, .slice A js.length c], .int .i64 cl, .int .i64 sd] W (PzBack W.heap.size W R) := fun A c W h => by rw [hR]; exact (makePuzzle_both s f o js cl sd).2 A c W h
  clear hR
  obtain ⟨⟨r1, r2, rl⟩, rb⟩ := R
  have HSS := Lib.hid hSS
  have HII := Lib.hid hII
  clear hSS hII
  have hxl : rl.length ≤ 1048576 := hlen
  have hee : (r1 == r1 && r2 == r2 && rl == rl) = true := by simp
  have he : (s == s && f == f && o == o && js == js) = true := by simp
  have hmk : ¬ (1 + 4 * (rl.length : Int)) < 0 := by omega
  have hmj : ¬ (1 + 2 * (js.length : Int)) < 0 := by omega
  clear hlen
  go_enter Try.func3, Try.ntmps3
  go_wp2_with fail
  have D := below1 w (.cells #[.int .i64 s, .int .i64 f, .int .i64 o, .slice A js.length c] 24)
  have kL := Box.made w #[.int .i64 s, .int .i64 f, .int .i64 o, .slice A js.length c] 24
  refine (szBoard_any _ _ _ _ _ _ _ _ (by unfold maxLen; omega) (by omega) (by omega)).mono ?_
  rintro e w1 ⟨rfl, hx⟩
  rw [if_neg (show ¬ (1048576 : Int) < (js.length : Int) by omega)]
  replace kL := kL.go hx
  replace D := D.trans (hx.mono D.size)
  clear hx
  have qkL := kL.cell
  go_wp2_with fail
  refine (toBoard_any _ _ _ _ _ _ _ (hj.later D D.size)).mono ?_
  rintro e w2 ⟨g, rfl, hg, hrow, hx⟩
  replace kL := kL.go hx
  replace D := D.trans (hx.mono D.size)
  clear qkL
  have qkL := kL.cell
  go_wp2_with fail
  refine (HSS.out g js.length _ (hrow.rj rfl hl hj.2.1) (Nat.le_refl _)).mono ?_
  rintro e w3 ⟨A0, c0, rfl, ho0, hx⟩
  dsimp only at ho0
  replace kL := kL.go hx
  replace D := D.trans (hx.mono D.size)
  clear qkL
  replace kL := kL.alloc (.cells #[.int .i64 r1, .int .i64 r2, .slice A0 rl.length c0] 28)
  have k0 := Box.made w3 #[.int .i64 r1, .int .i64 r2, .slice A0 rl.length c0] 28
  have R0 := (ho0.rq hxl).go (below1 w3 (.cells #[.int .i64 r1, .int .i64 r2, .slice A0 rl.length c0] 28))
  replace D := D.alloc D.size (.cells #[.int .i64 r1, .int .i64 r2, .slice A0 rl.length c0] 28)
  clear hx hrow hg ho0
  have qkL := kL.cell
  go_wp2_with fail
  obtain ⟨V, hV⟩ : ∃ V, V = w3.alloc (.cells #[.int .i64 r1, .int .i64 r2, .slice A0 rl.length c0] 28) := ⟨_, rfl⟩
  rw [← hV] at kL k0 R0 D ⊢
  clear hV qkL
  refine (toBoard_any _ _ _ _ _ _ _ (hj.later D D.size)).mono ?_
  rintro e w4 ⟨g1, rfl, hg1, row1, d⟩
  have zL := kL.lt; have z0 := k0.lt
  have zV := D.size
  have k8 := Box.made w4 #[.int .i64 s, .int .i64 f, .int .i64 o, .slice (some ⟨g1, 0, none⟩) js.length js.length] 33
  replace d := d.alloc d.size (.cells #[.int .i64 s, .int .i64 f, .int .i64 o, .slice (some ⟨g1, 0, none⟩) js.length js.length] 33)
  have g1x := row1.lt
  replace row1 := row1.alloc (.cells #[.int .i64 s, .int .i64 f, .int .i64 o, .slice (some ⟨g1, 0, none⟩) js.length js.length] 33)
  have qk8 := k8.cell
  go_wp2_with fail
  obtain ⟨X, hX⟩ : ∃ X, X = w4.alloc (.cells #[.int .i64 s, .int .i64 f, .int .i64 o, .slice (some ⟨g1, 0, none⟩) js.length js.length] 33) := ⟨_, rfl⟩
  rw [← hX] at k8 d row1 ⊢
  have hxq : w4.heap.size < X.heap.size := k8.lt
  clear hX qk8
  have zx := d.size
  refine (HII.out _ _ _ (row1.rj rfl hl hj.2.1)).mono ?_
  rintro e w5 ⟨A1, c1, rfl, ho1, hx⟩
  dsimp only at ho1
  replace k8 := k8.go hx; replace row1 := row1.below hx row1.lt; replace d := d.trans (hx.mono d.size)
  have hs5 := hx.size
  have k9 := Box.made w5 #[.int .i64 r1, .int .i64 r2, .slice A1 rl.length c1] 28
  replace k8 := k8.alloc (.cells #[.int .i64 r1, .int .i64 r2, .slice A1 rl.length c1] 28); replace row1 := row1.alloc (.cells #[.int .i64 r1, .int .i64 r2, .slice A1 rl.length c1] 28); replace ho1 := ho1.below (below1 w5 (.cells #[.int .i64 r1, .int .i64 r2, .slice A1 rl.length c1] 28)) (Nat.le_refl _); replace d := d.alloc d.size (.cells #[.int .i64 r1, .int .i64 r2, .slice A1 rl.length c1] 28)
  have zy := k9.lt
  have zy2 : g1 < w5.heap.size := by omega
  have qk9 := k9.cell; have qk0 := (k0.below d z0).cell
  go_wp2_with fail
  obtain ⟨Y, hY⟩ : ∃ Y, Y = w5.alloc (.cells #[.int .i64 r1, .int .i64 r2, .slice A1 rl.length c1] 28) := ⟨_, rfl⟩
  rw [← hY] at k8 k9 row1 ho1 d ⊢
  clear hY qk9 qk0
  refine (eqPuzzle_any _ _ _ _ _ _ _ _ rl rl _ (ho1.rq hxl) (R0.later d d.size)).mono ?_
  rintro e w6 ⟨rfl, hx⟩
  replace k8 := k8.go hx; replace k9 := k9.go hx; replace row1 := row1.below hx row1.lt; replace ho1 := ho1.below hx (Nat.le_refl _); replace d := d.trans (hx.mono d.size)
  clear hx
  go_wp2_with fail
  -- the program's copy reads as before
  refine wp_region_held_drew (S := (fun w' => (∀ i, w'.cell? ⟨w.heap.size, i, none⟩ = #[.int .i64 s, .int .i64 f, .int .i64 o, .slice A js.length c][i]?) ∧ (∀ i, w'.cell? ⟨w4.heap.size, i, none⟩ = #[.int .i64 s, .int .i64 f, .int .i64 o, .slice (some ⟨g1, 0, none⟩) js.length js.length][i]?))) (by kernel_rfl) ⟨(kL.below d.drew zL).cell, k8.drew.cell⟩ (fun hS => ?_)
  refine wpAnyH_take (i := 0) (oi := ⟨some 49, _, _, _, _, _⟩) (v := ?vc1) rfl (by kernel_rfl) (by kernel_rfl) (by kernel_rfl) (fun _ _ _ h => h) (Or.inl ⟨by rfl, ?hc1⟩) hS ?rc1
  case hc1 => (intro w' hSw; (try dsimp only at hSw); go_simp; (try with_reducible rfl))
  try simp only [Act.put, List.setIfInBounds_toArray, List.set_cons_zero, List.set_cons_succ]
  refine wpAnyH_take (i := 1) (oi := ⟨some 50, _, _, _, _, _⟩) (v := ?vc2) rfl (by kernel_rfl) (by kernel_rfl) (by kernel_rfl) (fun _ _ _ h => h) (Or.inl ⟨by rfl, ?hc2⟩) hS ?rc2
  case hc2 => (intro w' hSw; (try dsimp only at hSw); go_simp; (try with_reducible rfl))
  try simp only [Act.put, List.setIfInBounds_toArray, List.set_cons_zero, List.set_cons_succ]
  refine wpAnyH_ready (rs := [2]) (by kernel_rfl) (by simp) ?_
  refine AllReadyH.cons (o := ⟨some 51, _, _, _, _, _⟩) rfl (fun K' hK' => ?_) AllReadyH.nil
  go_simp
  go_at_call 13
  refine (toBoard_any _ _ _ _ _ _ _ (hj.later (D.trans (d.drew.mono D.size)) (Nat.le_trans D.size d.drew.size))).mono ?_
  rintro e w7 ⟨g2, rfl, hg2, row2, hx⟩
  replace k8 := k8.drew.go hx; replace k9 := k9.drew.go hx; replace row1 := row1.drew.below hx row1.lt; replace ho1 := OQ.below (w := w6.drew) ho1 hx (Nat.le_refl _); replace d := d.drew.trans (hx.mono d.drew.size)
  refine hK'.out _ _ ⟨(kL.below d zL).cell, k8.cell⟩ (fun _ => ?_)
  clear hK' K'
  try simp only [Act.put, List.setIfInBounds_toArray, List.set_cons_zero, List.set_cons_succ]
  refine wpAnyH_ready (rs := [3]) (by kernel_rfl) (by simp) ?_
  refine AllReadyH.cons (o := ⟨some 52, _, _, _, _, _⟩) rfl (fun K' hK' => ?_) AllReadyH.nil
  go_simp
  go_at_call 16
  refine (eqBoard_any _ _ _ _ _ _ _ _ _ _ _ _ _ (row1.rj rfl hl hj.2.1) (row2.rj rfl hl hj.2.1)).mono ?_
  rintro e w8 ⟨rfl, hx8⟩
  replace k8 := k8.go hx8; replace k9 := k9.go hx8; replace row1 := row1.below hx8 row1.lt; replace ho1 := ho1.below hx8 (Nat.le_refl _); replace d := d.trans (hx8.mono d.size)
  refine hK'.out _ _ ⟨(kL.below d zL).cell, k8.cell⟩ (fun _ => ?_)
  clear hK' K'
  try simp only [Act.put, List.setIfInBounds_toArray, List.set_cons_zero, List.set_cons_succ]
  refine wpAnyH_take (i := 4) (oi := ⟨some 53, _, _, _, _, _⟩) (v := ?vc3) rfl (by kernel_rfl) (by kernel_rfl) (by kernel_rfl) (fun _ _ _ h => h) (Or.inl ⟨by rfl, ?hc3⟩) ⟨(kL.below d zL).cell, k8.cell⟩ ?rc3
  case hc3 => (intro w' hSw; (try dsimp only at hSw); go_simp; (try with_reducible rfl))
  try simp only [Act.put, List.setIfInBounds_toArray, List.set_cons_zero, List.set_cons_succ]
  refine wpAnyH_done (by kernel_rfl) ?_ _
  have qk8 := k8.cell
  go_wp2_with fail
  -- marks on the program's copy
  clear qk8
  refine (markBoard_any s f o (some ⟨g1, 0, none⟩) js.length js.length 0 _ 1 _ (.inr ⟨g1, rfl, Nat.zero_le _, row1⟩) hl (by omega) (by omega)).mono ?_
  rintro e w9 ⟨rfl, _, hg9⟩
  have hg9' : w8.grownBy w9 (some g1) := hg9
  replace k9 := k9.grown hg9' (fun e => by injection e with e; omega); replace ho1 := ho1.grown hg9' (fun g h => by cases h; omega); replace d := d.trans (grown_below hg9' d.size (fun k h => by cases h; exact hg1))
  clear hg9 hg9' row1 k8
  have qk9 := k9.cell; have qk0 := (k0.below d z0).cell
  go_wp2_with fail
  clear qk9 qk0
  refine (eqPuzzle_any _ _ _ _ _ _ _ _ rl rl _ (ho1.rq hxl) (R0.later d d.size)).mono ?_
  rintro e w10 ⟨rfl, hx⟩
  replace k9 := k9.go hx; replace ho1 := ho1.below hx (Nat.le_refl _); replace d := d.trans (hx.mono d.size)
  have qk9 := k9.cell
  go_wp2_with fail
  -- marks on what was handed back
  clear qk9
  refine (markPuzzleK_any r1 r2 A1 rl.length c1 X.heap.size _ 1 _ ho1 (Nat.le_of_lt (Nat.lt_of_le_of_lt hs5 k9.lt)) hxl (by omega) (by omega)).mono ?_
  rintro e w11 ⟨rfl, om, hbm, row, hgr, hrw⟩
  replace k9 := k9.marked hgr (fun g e => (hrw g e).2) (by decide); replace d := d.trans (hbm.mono zx)
  clear ho1 hgr hrw hbm
  have qk9 := k9.cell
  go_wp2_with fail
  clear qk9
  refine (heldPuzzle_any _ _ _ _ _ _ 1 _ om hxl (by omega) (by omega)).mono ?_
  rintro e w12 ⟨rfl, hx⟩
  replace k9 := k9.go hx; replace om := om.below hx (Nat.le_refl _); replace d := d.trans (hx.mono d.size)
  have qkL := (kL.below d zL).cell
  go_wp2_with fail
  -- the call once more
  clear qkL
  refine (toBoard_any _ _ _ _ _ _ _ (hj.later (D.trans (d.mono D.size)) (Nat.le_trans D.size d.size))).mono ?_
  rintro e w13 ⟨g3, rfl, hg3, row3, hx⟩
  replace k9 := k9.go hx; replace om := om.below hx (Nat.le_refl _); replace d := d.trans (hx.mono d.size)
  go_wp2_with fail
  refine (HII.out _ _ _ (row3.rj rfl hl hj.2.1)).mono ?_
  rintro e w14 ⟨A3, c3, rfl, ho3, hx⟩
  dsimp only at ho3
  replace k9 := k9.go hx; replace om := om.below hx (Nat.le_refl _); replace d := d.trans (hx.mono d.size)
  replace k9 := k9.alloc (.cells #[.int .i64 r1, .int .i64 r2, .slice A3 rl.length c3] 28); replace om := om.below (below1 w14 (.cells #[.int .i64 r1, .int .i64 r2, .slice A3 rl.length c3] 28)) (Nat.le_refl _); replace ho3 := ho3.below (below1 w14 (.cells #[.int .i64 r1, .int .i64 r2, .slice A3 rl.length c3] 28)) (Nat.le_refl _); replace d := d.alloc d.size (.cells #[.int .i64 r1, .int .i64 r2, .slice A3 rl.length c3] 28)
  have k14 := Box.made w14 #[.int .i64 r1, .int .i64 r2, .slice A3 rl.length c3] 28
  have qk14 := k14.cell; have qk0 := (k0.below d z0).cell
  go_wp2_with fail
  obtain ⟨U, hU⟩ : ∃ U, U = w14.alloc (.cells #[.int .i64 r1, .int .i64 r2, .slice A3 rl.length c3] 28) := ⟨_, rfl⟩
  rw [← hU] at k9 om ho3 d ⊢
  clear hU qk14 qk0 k14
  refine (eqPuzzle_any _ _ _ _ _ _ _ _ rl rl _ (ho3.rq hxl) (R0.later d d.size)).mono ?_
  rintro e w15 ⟨rfl, hx⟩
  replace k9 := k9.go hx; replace om := om.below hx (Nat.le_refl _); replace d := d.trans (hx.mono d.size)
  have qk9 := k9.cell
  go_wp2_with fail
  clear qk9
  refine (heldPuzzle_any _ _ _ _ _ _ 1 _ om hxl (by omega) (by omega)).mono ?_
  rintro e w16 ⟨rfl, hx⟩
  replace d := d.trans (hx.mono d.size)
  go_wp2
  go_ret
  exact ⟨rfl, D.trans (d.mono D.size)⟩
end Go.Proofs.Yteogfondnpfklaa

/-
  The law FnExactBestLadder, walked.
-/
import Derived.Test.YtndodohngeaklaaC1ap
import Derived.Test.YtndodohngeaklaaL4
import Derived.Test.YtndodohngeaklaaWReg
import Derived.Deep.RegionHeld3
namespace Go.Proofs.Ytndodohngeaklaa
open Go.RowKit

set_option maxRecDepth 100000 in
theorem lawBestLadder_big (s f o : Int) (A : Option Addr) (n c : Nat) (w : World) (hn : n ≤ maxLen) (h : 1048576 < n) :
    Calls Try.prog 7 #[.agg #[.int .i64 s, .int .i64 f, .int .i64 o, .slice A n c]] w fun e w' => e = .returned (.bool true) ∧ Below w.heap.size w w' := by
  have h1 : (1048576 : Int) < n := by omega
  go_enter Try.func7, Try.ntmps7
  go_wp2_with (go_at_call 9; refine (szBoard_any _ _ _ _ _ _ _ _ hn (by omega) (by omega)).mono ?_; rintro e w1 ⟨rfl, hx⟩)
  go_ret
  exact ⟨rfl, (below1 _ _).trans (hx.mono (by simp))⟩

set_option maxHeartbeats 2000000 in
set_option maxRecDepth 100000 in
theorem lawBestLadder_small (s f o : Int) (A : Option Addr) (c : Nat) (js : List (Int × Int)) (w : World) (hj : RJ w w.heap.size A js) :
    Calls Try.prog 7 #[.agg #[.int .i64 s, .int .i64 f, .int .i64 o, .slice A js.length c]] w fun e w' => e = .returned (.bool true) ∧ Below w.heap.size w w' := by
  have hl := hj.1
  have h1 : ¬ (1048576 : Int) < js.length := by omega
  have h2 : ¬ (1048576 : Int) - js.length < 0 := by omega
  obtain ⟨a, b, x, ok, hSS, hII⟩ := bestLadder_told s f o js
  have HSS := Lib.hid hSS
  have HII := Lib.hid hII
  clear hSS hII
  have hee : eqJ (a, b) (a, b) = true := by simp [eqJ]
  have he : (s == s && f == f && o == o && js == js) = true := by simp
  go_enter Try.func7, Try.ntmps7
  go_wp2_with fail
  have D := below1 w (.cells #[.int .i64 s, .int .i64 f, .int .i64 o, .slice A js.length c] 24)
  have kL := Box.made w #[.int .i64 s, .int .i64 f, .int .i64 o, .slice A js.length c] 24
  refine (szBoard_any _ _ _ _ _ _ _ _ (by unfold maxLen; omega) (by omega) (by omega)).mono ?_
  rintro e w1 ⟨rfl, hx⟩
  rw [if_neg (show ¬ (1048576 : Int) < (js.length : Int) by omega)]
  replace kL := kL.go hx
  replace D := D.trans (hx.mono D.size)
  clear hx
  have qkL := kL.cell
  go_wp2_with fail
  refine (toBoard_any _ _ _ _ _ _ _ (hj.later D D.size)).mono ?_
  rintro e w2 ⟨g, rfl, hg, hrow, hx⟩
  replace kL := kL.go hx
  replace D := D.trans (hx.mono D.size)
  clear qkL
  go_wp2_with fail
  refine (HSS.out g js.length _ (hrow.rj rfl hl hj.2.1) (Nat.le_refl _)).mono ?_
  rintro e w3 ⟨rfl, hx⟩
  replace kL := kL.go hx
  replace D := D.trans (hx.mono D.size)
  replace kL := kL.alloc (.cells #[.int .i64 a, .int .i64 b] 38)
  have k0 := Box.made w3 #[.int .i64 a, .int .i64 b] 38
  replace D := D.alloc D.size (.cells #[.int .i64 a, .int .i64 b] 38)
  clear hx hrow hg
  have qkL := kL.cell
  go_wp2_with fail
  obtain ⟨V, hV⟩ : ∃ V, V = w3.alloc (.cells #[.int .i64 a, .int .i64 b] 38) := ⟨_, rfl⟩
  rw [← hV] at kL k0 D ⊢
  clear hV qkL
  refine (toBoard_any _ _ _ _ _ _ _ (hj.later D D.size)).mono ?_
  rintro e w4 ⟨g1, rfl, hg1, row1, d⟩
  have zL := kL.lt; have z0 := k0.lt
  have k8 := Box.made w4 #[.int .i64 s, .int .i64 f, .int .i64 o, .slice (some ⟨g1, 0, none⟩) js.length js.length] 30
  replace d := d.alloc d.size (.cells #[.int .i64 s, .int .i64 f, .int .i64 o, .slice (some ⟨g1, 0, none⟩) js.length js.length] 30)
  replace row1 := row1.alloc (.cells #[.int .i64 s, .int .i64 f, .int .i64 o, .slice (some ⟨g1, 0, none⟩) js.length js.length] 30)
  have qk8 := k8.cell
  go_wp2_with fail
  obtain ⟨X, hX⟩ : ∃ X, X = w4.alloc (.cells #[.int .i64 s, .int .i64 f, .int .i64 o, .slice (some ⟨g1, 0, none⟩) js.length js.length] 30) := ⟨_, rfl⟩
  rw [← hX] at k8 d row1 ⊢
  clear hX qk8
  refine (HII.out _ _ _ (row1.rj rfl hl hj.2.1)).mono ?_
  rintro e w5 ⟨rfl, hx⟩
  replace k8 := k8.go hx; replace row1 := row1.below hx row1.lt; replace d := d.trans (hx.mono d.size)
  have k9 := Box.made w5 #[.int .i64 a, .int .i64 b] 38
  replace k8 := k8.alloc (.cells #[.int .i64 a, .int .i64 b] 38); replace row1 := row1.alloc (.cells #[.int .i64 a, .int .i64 b] 38); replace d := d.alloc d.size (.cells #[.int .i64 a, .int .i64 b] 38)
  have qk9 := k9.cell; have qk0 := (k0.below d z0).cell
  go_wp2_with fail
  obtain ⟨Y, hY⟩ : ∃ Y, Y = w5.alloc (.cells #[.int .i64 a, .int .i64 b] 38) := ⟨_, rfl⟩
  rw [← hY] at k8 k9 row1 d ⊢
  clear hY qk9 qk0
  refine (eqJump_any a b a b _).mono ?_
  rintro e w6 ⟨rfl, hx⟩
  replace k8 := k8.go hx; replace row1 := row1.below hx row1.lt; replace d := d.trans (hx.mono d.size)
  clear hx
  go_wp2_with fail
  refine wp_region_held_drew (S := (fun w' => (∀ i, w'.cell? ⟨w.heap.size, i, none⟩ = #[.int .i64 s, .int .i64 f, .int .i64 o, .slice A js.length c][i]?) ∧ (∀ i, w'.cell? ⟨w4.heap.size, i, none⟩ = #[.int .i64 s, .int .i64 f, .int .i64 o, .slice (some ⟨g1, 0, none⟩) js.length js.length][i]?))) (by kernel_rfl) ⟨(kL.below d.drew zL).cell, k8.drew.cell⟩ (fun hS => ?_)
  refine wpAnyH_take (i := 0) (oi := ⟨some 45, _, _, _, _, _⟩) (v := ?vc1) rfl (by kernel_rfl) (by kernel_rfl) (by kernel_rfl) (fun _ _ _ h => h) (Or.inl ⟨by rfl, ?hc1⟩) hS ?rc1
  case hc1 => (intro w' hSw; (try dsimp only at hSw); go_simp; (try with_reducible rfl))
  try simp only [Act.put, List.setIfInBounds_toArray, List.set_cons_zero, List.set_cons_succ]
  refine wpAnyH_take (i := 1) (oi := ⟨some 46, _, _, _, _, _⟩) (v := ?vc2) rfl (by kernel_rfl) (by kernel_rfl) (by kernel_rfl) (fun _ _ _ h => h) (Or.inl ⟨by rfl, ?hc2⟩) hS ?rc2
  case hc2 => (intro w' hSw; (try dsimp only at hSw); go_simp; (try with_reducible rfl))
  try simp only [Act.put, List.setIfInBounds_toArray, List.set_cons_zero, List.set_cons_succ]
  refine wpAnyH_ready (rs := [2]) (by kernel_rfl) (by simp) ?_
  refine AllReadyH.cons (o := ⟨some 47, _, _, _, _, _⟩) rfl (fun K' hK' => ?_) AllReadyH.nil
  go_simp
  go_at_call 11
  refine (toBoard_any _ _ _ _ _ _ _ (hj.later (D.trans (d.drew.mono D.size)) (Nat.le_trans D.size d.drew.size))).mono ?_
  rintro e w7 ⟨g2, rfl, hg2, row2, hx⟩
  replace k8 := k8.drew.go hx; replace row1 := row1.drew.below hx row1.lt; replace d := d.drew.trans (hx.mono d.drew.size)
  refine hK'.out _ _ ⟨(kL.below d zL).cell, k8.cell⟩ (fun _ => ?_)
  clear hK' K'
  try simp only [Act.put, List.setIfInBounds_toArray, List.set_cons_zero, List.set_cons_succ]
  refine wpAnyH_ready (rs := [3]) (by kernel_rfl) (by simp) ?_
  refine AllReadyH.cons (o := ⟨some 48, _, _, _, _, _⟩) rfl (fun K' hK' => ?_) AllReadyH.nil
  go_simp
  go_at_call 13
  refine (eqBoard_any _ _ _ _ _ _ _ _ _ _ _ _ _ (row1.rj rfl hl hj.2.1) (row2.rj rfl hl hj.2.1)).mono ?_
  rintro e w8 ⟨rfl, hx8⟩
  replace k8 := k8.go hx8; replace d := d.trans (hx8.mono d.size)
  refine hK'.out _ _ ⟨(kL.below d zL).cell, k8.cell⟩ (fun _ => ?_)
  clear hK' K'
  try simp only [Act.put, List.setIfInBounds_toArray, List.set_cons_zero, List.set_cons_succ]
  refine wpAnyH_take (i := 4) (oi := ⟨some 49, _, _, _, _, _⟩) (v := ?vc3) rfl (by kernel_rfl) (by kernel_rfl) (by kernel_rfl) (fun _ _ _ h => h) (Or.inl ⟨by rfl, ?hc3⟩) ⟨(kL.below d zL).cell, k8.cell⟩ ?rc3
  case hc3 => (intro w' hSw; (try dsimp only at hSw); go_simp; (try with_reducible rfl))
  try simp only [Act.put, List.setIfInBounds_toArray, List.set_cons_zero, List.set_cons_succ]
  refine wpAnyH_done (by kernel_rfl) ?_ _
  go_wp2
  go_ret
  exact ⟨rfl, D.trans (d.mono D.size)⟩
end Go.Proofs.Ytndodohngeaklaa

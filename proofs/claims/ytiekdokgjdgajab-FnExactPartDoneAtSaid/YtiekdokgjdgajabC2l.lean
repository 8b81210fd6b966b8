/-
  PartDoneAt, the model's and the program's.
-/
import Derived.Test.YtiekdokgjdgajabC2j
import Derived.Test.YtiekdokgjdgajabC2m
import Derived.Test.YtiekdokgjdgajabM4
namespace Go.Proofs.Ytiekdokgjdgajab
open Go.RowKit

set_option maxRecDepth 100000 in
set_option maxHeartbeats 400000 in
theorem specPartDoneAt_no (s f o : Int) (A : Option Addr) (c : Nat) (sq th : Int) (js : List (Int × Int)) (w : World) (hj : RJ w w.heap.size A js) (hno : (asked s f o js sq && inB th 0 20) = false) :
    Calls Try.prog 28 #[.agg #[.int .i64 s, .int .i64 f, .int .i64 o, .slice A js.length c], .int .i64 sq, .int .i64 th] w (PartIs w 0 0 false) := by
  have hl := hj.1
  have HA := Lib.hid hno; clear hno
  go_enter Try.func28, Try.ntmps28
  go_wp2_with (go_at_call 47; refine (chAsked_any _ _ _ _ _ _ _ _ _ (hj.go (below1 _ _))).mono ?_; rintro e w2 ⟨rfl, hx⟩; rw [HA.out])
  exact bodyPost_ret (v := .tuple #[.int .i64 0, .int .i64 0, .bool false]) (by simp [results, Try.results28]) rfl
    ⟨rfl, (below1 _ _).trans (hx.mono (by simp))⟩

set_option maxRecDepth 100000 in
set_option maxHeartbeats 4000000 in
theorem specPartDoneAt_zero (S : Nat) (f o : Int) (A : Option Addr) (c : Nat) (sq : Int) (m : Nat) (js : List (Int × Int)) (w : World) (hj : RJ w w.heap.size A js) (ha : asked S f o js sq = true) (hm : pl S f o js sq 0 S = (m : Int)) :
    Calls Try.prog 28 #[.agg #[.int .i64 S, .int .i64 f, .int .i64 o, .slice A js.length c], .int .i64 sq, .int .i64 0] w (PartIs w (lowA m 1) (lowB m 1) true) := by
  have hl := hj.1
  have hz := good_sizes (asked_good ha)
  have HA := Lib.hid (show (asked S f o js sq && inB 0 0 20) = true by rw [ha]; rfl)
  have HA1 := Lib.hid ha
  have hpl1 := pl_le (asked_good ha) (asked_on ha) 0 S
  have hm1 : m ≤ 1152921504606846976 := by rw [Int.pow_zero] at hpl1; omega
  have iq : (S : Int) < ((nsq S : Nat) : Int) := by unfold nsq; omega
  have iqn : S < nsq S := by omega
  have HM := Lib.hid hm
  clear ha hpl1 hm
  go_enter Try.func28, Try.ntmps28
  go_wp2_with fail
  refine (chAsked_any _ _ _ _ _ _ _ _ _ (hj.go (below1 _ _))).mono ?_
  rintro e w3 ⟨rfl, hx⟩
  rw [HA.out]
  have hb3 := box_on (Below.refl _ _) hx (by simp)
  have hb3d := hb3.drew
  have q3 := boxcells hb3
  go_wp2_with fail
  have iq0 : (0 : Int) ≤ (S : Int) := by omega
  refine wp_region_held_drew (S := (fun w' => Below (w.heap.size + 1) (w.alloc (.cells #[.int .i64 S, .int .i64 f, .int .i64 o, .slice A js.length c] 31)) w' ∧ (∀ i, w'.cell? ⟨w.heap.size, i, none⟩ = #[.int .i64 S, .int .i64 f, .int .i64 o, .slice A js.length c][i]?))) (by kernel_rfl) ⟨hb3d, boxcells hb3d⟩ (fun hS => ?_)
  refine wpAnyH_take (i := 0) (oi := ⟨some 15, _, _, _, _, _⟩) (v := ?va0) rfl (by kernel_rfl) (by kernel_rfl) (by kernel_rfl) (fun _ _ _ h => h) (Or.inl ⟨by rfl, ?ha0⟩) hS ?ra0
  case ha0 => (intro w' hSw; (try dsimp only at hSw); go_simp; (try with_reducible rfl))
  try simp only [Act.put, List.setIfInBounds_toArray, List.set_cons_zero, List.set_cons_succ]
  refine wpAnyH_take (i := 1) (oi := ⟨some 16, _, _, _, _, _⟩) (v := ?va1) rfl (by kernel_rfl) (by kernel_rfl) (by kernel_rfl) (fun _ _ _ h => h) (Or.inl ⟨by rfl, ?ha1⟩) hS ?ra1
  case ha1 => (intro w' hSw; (try dsimp only at hSw); go_simp; (try with_reducible rfl))
  try simp only [Act.put, List.setIfInBounds_toArray, List.set_cons_zero, List.set_cons_succ]
  refine wpAnyH_take (i := 2) (oi := ⟨some 17, _, _, _, _, _⟩) (v := ?va2) rfl (by kernel_rfl) (by kernel_rfl) (by kernel_rfl) (fun _ _ _ h => h) (Or.inl ⟨by rfl, ?ha2⟩) hS ?ra2
  case ha2 => (intro w' hSw; (try dsimp only at hSw); go_simp; (try with_reducible rfl))
  try simp only [Act.put, List.setIfInBounds_toArray, List.set_cons_zero, List.set_cons_succ]
  refine wpAnyH_take (i := 4) (oi := ⟨some 19, _, _, _, _, _⟩) (v := ?va4) rfl (by kernel_rfl) (by kernel_rfl) (by kernel_rfl) (fun _ _ _ h => h) (Or.inl ⟨by rfl, ?ha4⟩) hS ?ra4
  case ha4 => (intro w' hSw; (try dsimp only at hSw); go_simp; (try with_reducible rfl))
  try simp only [Act.put, List.setIfInBounds_toArray, List.set_cons_zero, List.set_cons_succ]
  refine wpAnyH_take (i := 5) (oi := ⟨some 20, _, _, _, _, _⟩) (v := ?va5) rfl (by kernel_rfl) (by kernel_rfl) (by kernel_rfl) (fun _ _ _ h => h) (Or.inl ⟨by rfl, ?ha5⟩) hS ?ra5
  case ha5 => (intro w' hSw; (try dsimp only at hSw); go_simp; (try with_reducible rfl))
  try simp only [Act.put, List.setIfInBounds_toArray, List.set_cons_zero, List.set_cons_succ]
  refine wpAnyH_ready (rs := [3]) (by kernel_rfl) (by simp) ?_
  refine AllReadyH.cons (o := ⟨some 18, _, _, _, _, _⟩) rfl (fun K' hK' => ?_) AllReadyH.nil
  go_simp
  go_at_call 48
  refine (chPlaces_any _ _ _ _ _ _ 0 _ _ (hj.go ((below1 _ _).trans (hb3d.mono (by omega)))) HA1.out (by omega)).mono ?_
  rintro e w4 ⟨g, rfl, hgg, hrow, hx4⟩
  have d4 := hrow.cell iqn
  rw [HM.out] at d4
  have k1 := box_on hb3d hx4 (by have := hb3d.size; simpa using this)
  refine hK'.out _ _ ⟨k1, boxcells k1⟩ (fun _ => ?_)
  clear hK' K'
  try simp only [Act.put, List.setIfInBounds_toArray, List.set_cons_zero, List.set_cons_succ]
  refine wpAnyH_take (i := 6) (oi := ⟨some 21, _, _, _, _, _⟩) (v := ?va6) rfl (by kernel_rfl) (by kernel_rfl) (by kernel_rfl) (fun _ _ _ h => h) (Or.inl ⟨by rfl, ?ha6⟩) ⟨k1, boxcells k1⟩ ?ra6
  case ha6 => (intro w' hSw; (try dsimp only at hSw); go_simp; (try with_reducible rfl))
  try simp only [Act.put, List.setIfInBounds_toArray, List.set_cons_zero, List.set_cons_succ]
  refine wpAnyH_ready (rs := [7]) (by kernel_rfl) (by simp) ?_
  refine AllReadyH.cons (o := ⟨some 22, _, _, _, _, _⟩) rfl (fun K' hK' => ?_) AllReadyH.nil
  go_simp
  refine hK'.out _ _ ⟨k1, boxcells k1⟩ (fun _ => ?_)
  clear hK' K'
  try simp only [Act.put, List.setIfInBounds_toArray, List.set_cons_zero, List.set_cons_succ]
  refine wpAnyH_ready (rs := [8]) (by kernel_rfl) (by simp) ?_
  refine AllReadyH.cons (o := ⟨some 9, _, _, _, _, _⟩) rfl (fun K' hK' => ?_) AllReadyH.nil
  go_simp
  refine hK'.out _ _ ⟨k1, boxcells k1⟩ (fun _ => ?_)
  clear hK' K'
  try simp only [Act.put, List.setIfInBounds_toArray, List.set_cons_zero, List.set_cons_succ]
  refine wpAnyH_done (by kernel_rfl) ?_ _
  have k3 := boxcells k1
  go_wp2_with (go_at_call 55; refine (chPart_any S f o A c js m 0 1 _ hz.2.1.1 hz.2.1.2 (by omega) (by simp) hm1).mono ?_; rintro e w5 ⟨rfl, hx5⟩)
  exact bodyPost_ret (v := .tuple #[.int .i64 (lowA m 1), .int .i64 (lowB m 1), .bool true]) (by simp [results, Try.results28, Act.put]) rfl
    ⟨rfl, (below1 _ _).trans ((box_on k1 hx5 (by have := k1.size; simpa using this)).mono (by omega))⟩

set_option maxRecDepth 100000 in
set_option maxHeartbeats 4000000 in
theorem specPartDoneAt_succ (S : Nat) (f o : Int) (A : Option Addr) (c : Nat) (sq : Int) (T t m m' d F : Nat) (js : List (Int × Int)) (w : World) (hj : RJ w w.heap.size A js) (ha : asked S f o js sq = true) (hT : T = t + 1) (ht20 : T ≤ 20) (hm : pl S f o js sq T S = (m : Int)) (hm' : pl S f o js sq t S = (m' : Int))
    (hd : justDone S f o js sq T = (d : Int)) (hF : f ^ T = (F : Int)) :
    Calls Try.prog 28 #[.agg #[.int .i64 S, .int .i64 f, .int .i64 o, .slice A js.length c], .int .i64 sq, .int .i64 T] w (PartIs w (lowA d F) (lowB d F) true) := by
  have hl := hj.1
  have hz := good_sizes (asked_good ha)
  have HA := Lib.hid (show (asked S f o js sq && inB T 0 20) = true by rw [ha, inB_iff.2 ⟨by omega, by omega⟩]; rfl)
  have HA1 := Lib.hid ha
  have hp := pow_lt63 hz.2.1.1 hz.2.1.2 ht20
  have hpl1 := pl_le (asked_good ha) (asked_on ha) T S
  have hpe := pl_end (asked_good ha) sq t
  have hdi := justDone_in (asked_good ha) (asked_on ha) T
  have hfm := Int.mul_nonneg (show (0 : Int) ≤ (m' : Int) by omega) (show 0 ≤ f by omega)
  rw [hd] at hdi
  rw [hT, justDone, ← hT, hm, hm'] at hd
  rw [← hT, hm, hm'] at hpe
  have hd1 : d ≤ 1152921504606846976 := by omega
  have iq : (S : Int) < ((nsq S : Nat) : Int) := by unfold nsq; omega
  have iqn : S < nsq S := by omega
  have HM := Lib.hid hm; have HM' := Lib.hid hm'; have HF := Lib.hid hF
  have ht0 : (0 : Int) < (T : Int) := by omega
  have e1 : IntKind.i64.wrap ((T : Int) - 1) = (t : Int) := by rw [IntWalk.i64_in _ (by omega)]; omega
  have e2 : IntKind.i64.wrap (f * (m' : Int)) = f * (m' : Int) := IntWalk.i64_in _ (by rw [Int.mul_comm f]; omega)
  have e3 : IntKind.i64.wrap ((m : Int) - f * (m' : Int)) = (d : Int) := by rw [IntWalk.i64_in _ (by rw [Int.mul_comm f]; omega), Int.mul_comm f]; omega
  have ht19 : t ≤ 20 := by omega
  clear ha hp hpl1 hpe hm hm' hF hd hdi hfm hT
  go_enter Try.func28, Try.ntmps28
  go_wp2_with fail
  refine (chAsked_any _ _ _ _ _ _ _ _ _ (hj.go (below1 _ _))).mono ?_
  rintro e w3 ⟨rfl, hx⟩
  rw [HA.out]
  have hb3 := box_on (Below.refl _ _) hx (by simp)
  have hb3d := hb3.drew
  have q3 := boxcells hb3
  go_wp2_with fail
  have iq0 : (0 : Int) ≤ (S : Int) := by omega
  refine wp_region_held_drew (S := (fun w' => Below (w.heap.size + 1) (w.alloc (.cells #[.int .i64 S, .int .i64 f, .int .i64 o, .slice A js.length c] 31)) w' ∧ (∀ i, w'.cell? ⟨w.heap.size, i, none⟩ = #[.int .i64 S, .int .i64 f, .int .i64 o, .slice A js.length c][i]?))) (by kernel_rfl) ⟨hb3d, boxcells hb3d⟩ (fun hS => ?_)
  refine wpAnyH_take (i := 0) (oi := ⟨some 15, _, _, _, _, _⟩) (v := ?va0) rfl (by kernel_rfl) (by kernel_rfl) (by kernel_rfl) (fun _ _ _ h => h) (Or.inl ⟨by rfl, ?ha0⟩) hS ?ra0
  case ha0 => (intro w' hSw; (try dsimp only at hSw); go_simp; (try with_reducible rfl))
  try simp only [Act.put, List.setIfInBounds_toArray, List.set_cons_zero, List.set_cons_succ]
  refine wpAnyH_take (i := 1) (oi := ⟨some 16, _, _, _, _, _⟩) (v := ?va1) rfl (by kernel_rfl) (by kernel_rfl) (by kernel_rfl) (fun _ _ _ h => h) (Or.inl ⟨by rfl, ?ha1⟩) hS ?ra1
  case ha1 => (intro w' hSw; (try dsimp only at hSw); go_simp; (try with_reducible rfl))
  try simp only [Act.put, List.setIfInBounds_toArray, List.set_cons_zero, List.set_cons_succ]
  refine wpAnyH_take (i := 2) (oi := ⟨some 17, _, _, _, _, _⟩) (v := ?va2) rfl (by kernel_rfl) (by kernel_rfl) (by kernel_rfl) (fun _ _ _ h => h) (Or.inl ⟨by rfl, ?ha2⟩) hS ?ra2
  case ha2 => (intro w' hSw; (try dsimp only at hSw); go_simp; (try with_reducible rfl))
  try simp only [Act.put, List.setIfInBounds_toArray, List.set_cons_zero, List.set_cons_succ]
  refine wpAnyH_take (i := 4) (oi := ⟨some 19, _, _, _, _, _⟩) (v := ?va4) rfl (by kernel_rfl) (by kernel_rfl) (by kernel_rfl) (fun _ _ _ h => h) (Or.inl ⟨by rfl, ?ha4⟩) hS ?ra4
  case ha4 => (intro w' hSw; (try dsimp only at hSw); go_simp; (try with_reducible rfl))
  try simp only [Act.put, List.setIfInBounds_toArray, List.set_cons_zero, List.set_cons_succ]
  refine wpAnyH_take (i := 5) (oi := ⟨some 20, _, _, _, _, _⟩) (v := ?va5) rfl (by kernel_rfl) (by kernel_rfl) (by kernel_rfl) (fun _ _ _ h => h) (Or.inl ⟨by rfl, ?ha5⟩) hS ?ra5
  case ha5 => (intro w' hSw; (try dsimp only at hSw); go_simp; (try with_reducible rfl))
  try simp only [Act.put, List.setIfInBounds_toArray, List.set_cons_zero, List.set_cons_succ]
  refine wpAnyH_ready (rs := [3]) (by kernel_rfl) (by simp) ?_
  refine AllReadyH.cons (o := ⟨some 18, _, _, _, _, _⟩) rfl (fun K' hK' => ?_) AllReadyH.nil
  go_simp
  go_at_call 48
  refine (chPlaces_any _ _ _ _ _ _ T _ _ (hj.go ((below1 _ _).trans (hb3d.mono (by omega)))) HA1.out ht20).mono ?_
  rintro e w4 ⟨g, rfl, hgg, hrow, hx4⟩
  have d4 := hrow.cell iqn
  rw [HM.out] at d4
  have k1 := box_on hb3d hx4 (by have := hb3d.size; simpa using this)
  refine hK'.out _ _ ⟨k1, boxcells k1⟩ (fun _ => ?_)
  clear hK' K'
  try simp only [Act.put, List.setIfInBounds_toArray, List.set_cons_zero, List.set_cons_succ]
  refine wpAnyH_take (i := 6) (oi := ⟨some 21, _, _, _, _, _⟩) (v := ?va6) rfl (by kernel_rfl) (by kernel_rfl) (by kernel_rfl) (fun _ _ _ h => h) (Or.inl ⟨by rfl, ?ha6⟩) ⟨k1, boxcells k1⟩ ?ra6
  case ha6 => (intro w' hSw; (try dsimp only at hSw); go_simp; (try with_reducible rfl))
  try simp only [Act.put, List.setIfInBounds_toArray, List.set_cons_zero, List.set_cons_succ]
  refine wpAnyH_ready (rs := [7]) (by kernel_rfl) (by simp) ?_
  refine AllReadyH.cons (o := ⟨some 22, _, _, _, _, _⟩) rfl (fun K' hK' => ?_) AllReadyH.nil
  go_simp
  refine hK'.out _ _ ⟨k1, boxcells k1⟩ (fun _ => ?_)
  clear hK' K'
  try simp only [Act.put, List.setIfInBounds_toArray, List.set_cons_zero, List.set_cons_succ]
  refine wpAnyH_ready (rs := [8]) (by kernel_rfl) (by simp) ?_
  refine AllReadyH.cons (o := ⟨some 9, _, _, _, _, _⟩) rfl (fun K' hK' => ?_) AllReadyH.nil
  go_simp
  refine hK'.out _ _ ⟨k1, boxcells k1⟩ (fun _ => ?_)
  clear hK' K'
  try simp only [Act.put, List.setIfInBounds_toArray, List.set_cons_zero, List.set_cons_succ]
  refine wpAnyH_done (by kernel_rfl) ?_ _
  have k1d := k1.drew
  have k3 := boxcells k1
  clear d4 hrow q3
  go_wp2_with fail
  refine wp_region_held_drew (S := (fun w' => Below (w.heap.size + 1) (w.alloc (.cells #[.int .i64 S, .int .i64 f, .int .i64 o, .slice A js.length c] 31)) w' ∧ (∀ i, w'.cell? ⟨w.heap.size, i, none⟩ = #[.int .i64 S, .int .i64 f, .int .i64 o, .slice A js.length c][i]?))) (by kernel_rfl) ⟨k1d, boxcells k1d⟩ (fun hS => ?_)
  refine wpAnyH_take (i := 0) (oi := ⟨some 25, _, _, _, _, _⟩) (v := ?vb0) rfl (by kernel_rfl) (by kernel_rfl) (by kernel_rfl) (fun _ _ _ h => h) (Or.inl ⟨by rfl, ?hb0⟩) hS ?rb0
  case hb0 => (intro w' hSw; (try dsimp only at hSw); go_simp; (try with_reducible rfl))
  try simp only [Act.put, List.setIfInBounds_toArray, List.set_cons_zero, List.set_cons_succ]
  refine wpAnyH_take (i := 1) (oi := ⟨some 26, _, _, _, _, _⟩) (v := ?vb1) rfl (by kernel_rfl) (by kernel_rfl) (by kernel_rfl) (fun _ _ _ h => h) (Or.inl ⟨by rfl, ?hb1⟩) hS ?rb1
  case hb1 => (intro w' hSw; (try dsimp only at hSw); go_simp; (try with_reducible rfl))
  try simp only [Act.put, List.setIfInBounds_toArray, List.set_cons_zero, List.set_cons_succ]
  refine wpAnyH_take (i := 2) (oi := ⟨some 27, _, _, _, _, _⟩) (v := ?vb2) rfl (by kernel_rfl) (by kernel_rfl) (by kernel_rfl) (fun _ _ _ h => h) (Or.inl ⟨by rfl, ?hb2⟩) hS ?rb2
  case hb2 => (intro w' hSw; (try dsimp only at hSw); go_simp; (try with_reducible rfl))
  try simp only [Act.put, List.setIfInBounds_toArray, List.set_cons_zero, List.set_cons_succ]
  refine wpAnyH_take (i := 3) (oi := ⟨some 28, _, _, _, _, _⟩) (v := ?vb3) rfl (by kernel_rfl) (by kernel_rfl) (by kernel_rfl) (fun _ _ _ h => h) (Or.inl ⟨by rfl, ?hb3⟩) hS ?rb3
  case hb3 => (intro w' hSw; (try dsimp only at hSw); go_simp; (try with_reducible rfl))
  try simp only [Act.put, List.setIfInBounds_toArray, List.set_cons_zero, List.set_cons_succ]
  refine wpAnyH_take (i := 4) (oi := ⟨some 29, _, _, _, _, _⟩) (v := ?vb4) rfl (by kernel_rfl) (by kernel_rfl) (by kernel_rfl) (fun _ _ _ h => h) (Or.inl ⟨by rfl, ?hb4⟩) hS ?rb4
  case hb4 => (intro w' hSw; (try dsimp only at hSw); go_simp; (try with_reducible rfl))
  try simp only [Act.put, List.setIfInBounds_toArray, List.set_cons_zero, List.set_cons_succ]
  refine wpAnyH_take (i := 5) (oi := ⟨some 30, _, _, _, _, _⟩) (v := ?vb5) rfl (by kernel_rfl) (by kernel_rfl) (by kernel_rfl) (fun _ _ _ h => h) (Or.inl ⟨by rfl, ?hb5⟩) hS ?rb5
  case hb5 => (intro w' hSw; (try dsimp only at hSw); go_simp; (try with_reducible rfl))
  try simp only [Act.put, List.setIfInBounds_toArray, List.set_cons_zero, List.set_cons_succ]
  refine wpAnyH_take (i := 6) (oi := ⟨some 31, _, _, _, _, _⟩) (v := ?vb6) rfl (by kernel_rfl) (by kernel_rfl) (by kernel_rfl) (fun _ _ _ h => h) (Or.inl ⟨by rfl, ?hb6⟩) hS ?rb6
  case hb6 => (intro w' hSw; (try dsimp only at hSw); go_simp; (try with_reducible rfl))
  try simp only [Act.put, List.setIfInBounds_toArray, List.set_cons_zero, List.set_cons_succ]
  refine wpAnyH_take (i := 8) (oi := ⟨some 33, _, _, _, _, _⟩) (v := ?vb8) rfl (by kernel_rfl) (by kernel_rfl) (by kernel_rfl) (fun _ _ _ h => h) (Or.inl ⟨by rfl, ?hb8⟩) hS ?rb8
  case hb8 => (intro w' hSw; (try dsimp only at hSw); go_simp; (try with_reducible rfl))
  try simp only [Act.put, List.setIfInBounds_toArray, List.set_cons_zero, List.set_cons_succ]
  refine wpAnyH_take (i := 9) (oi := ⟨some 34, _, _, _, _, _⟩) (v := ?vb9) rfl (by kernel_rfl) (by kernel_rfl) (by kernel_rfl) (fun _ _ _ h => h) (Or.inl ⟨by rfl, ?hb9⟩) hS ?rb9
  case hb9 => (intro w' hSw; (try dsimp only at hSw); go_simp; (try with_reducible rfl))
  try simp only [Act.put, List.setIfInBounds_toArray, List.set_cons_zero, List.set_cons_succ]
  refine wpAnyH_ready (rs := [7]) (by kernel_rfl) (by simp) ?_
  refine AllReadyH.cons (o := ⟨some 32, _, _, _, _, _⟩) rfl (fun K' hK' => ?_) AllReadyH.nil
  go_simp
  go_at_call 48
  refine (chPlaces_any _ _ _ _ _ _ t _ _ (hj.go ((below1 _ _).trans (k1d.mono (by omega)))) HA1.out ht19).mono ?_
  rintro e w6 ⟨g6, rfl, hgg6, hrow6, hx6⟩
  have d6 := hrow6.cell iqn
  rw [HM'.out] at d6
  have k5 := box_on k1d hx6 (by have := k1d.size; simpa using this)
  refine hK'.out _ _ ⟨k5, boxcells k5⟩ (fun _ => ?_)
  clear hK' K'
  try simp only [Act.put, List.setIfInBounds_toArray, List.set_cons_zero, List.set_cons_succ]
  refine wpAnyH_take (i := 10) (oi := ⟨some 35, _, _, _, _, _⟩) (v := ?vb10) rfl (by kernel_rfl) (by kernel_rfl) (by kernel_rfl) (fun _ _ _ h => h) (Or.inl ⟨by rfl, ?hb10⟩) ⟨k5, boxcells k5⟩ ?rb10
  case hb10 => (intro w' hSw; (try dsimp only at hSw); go_simp; (try with_reducible rfl))
  try simp only [Act.put, List.setIfInBounds_toArray, List.set_cons_zero, List.set_cons_succ]
  refine wpAnyH_ready (rs := [11]) (by kernel_rfl) (by simp) ?_
  refine AllReadyH.cons (o := ⟨some 36, _, _, _, _, _⟩) rfl (fun K' hK' => ?_) AllReadyH.nil
  go_simp
  refine hK'.out _ _ ⟨k5, boxcells k5⟩ (fun _ => ?_)
  clear hK' K'
  try simp only [Act.put, List.setIfInBounds_toArray, List.set_cons_zero, List.set_cons_succ]
  refine wpAnyH_take (i := 12) (oi := ⟨some 37, _, _, _, _, _⟩) (v := ?vb12) rfl (by kernel_rfl) (by kernel_rfl) (by kernel_rfl) (fun _ _ _ h => h) (Or.inl ⟨by rfl, ?hb12⟩) ⟨k5, boxcells k5⟩ ?rb12
  case hb12 => (intro w' hSw; (try dsimp only at hSw); go_simp; (try with_reducible rfl))
  try simp only [Act.put, List.setIfInBounds_toArray, List.set_cons_zero, List.set_cons_succ]
  refine wpAnyH_take (i := 13) (oi := ⟨some 38, _, _, _, _, _⟩) (v := ?vb13) rfl (by kernel_rfl) (by kernel_rfl) (by kernel_rfl) (fun _ _ _ h => h) (Or.inl ⟨by rfl, ?hb13⟩) ⟨k5, boxcells k5⟩ ?rb13
  case hb13 => (intro w' hSw; (try dsimp only at hSw); go_simp; (try with_reducible rfl))
  try simp only [Act.put, List.setIfInBounds_toArray, List.set_cons_zero, List.set_cons_succ]
  refine wpAnyH_ready (rs := [14]) (by kernel_rfl) (by simp) ?_
  refine AllReadyH.cons (o := ⟨some 9, _, _, _, _, _⟩) rfl (fun K' hK' => ?_) AllReadyH.nil
  go_simp
  refine hK'.out _ _ ⟨k5, boxcells k5⟩ (fun _ => ?_)
  clear hK' K'
  try simp only [Act.put, List.setIfInBounds_toArray, List.set_cons_zero, List.set_cons_succ]
  refine wpAnyH_done (by kernel_rfl) ?_ _
  have k6 := boxcells k5
  try simp only [e2, e3]
  go_wp2_with (go_at_call 55; refine (chPart_any S f o A c js d T F _ hz.2.1.1 hz.2.1.2 ht20 HF.out hd1).mono ?_; rintro e w5 ⟨rfl, hx5⟩)
  exact bodyPost_ret (v := .tuple #[.int .i64 (lowA d F), .int .i64 (lowB d F), .bool true]) (by simp [results, Try.results28, Act.put]) rfl
    ⟨rfl, (below1 _ _).trans ((box_on k5 hx5 (by have := k5.size; simpa using this)).mono (by omega))⟩

set_option maxRecDepth 100000 in
set_option maxHeartbeats 400000 in
theorem implPartDoneAt_no (s f o : Int) (A : Option Addr) (c : Nat) (sq th : Int) (js : List (Int × Int)) (w : World) (hj : RJ w w.heap.size A js) (hno : (asked s f o js sq && inB th 0 20) = false) :
    Calls Try.prog 29 #[.agg #[.int .i64 s, .int .i64 f, .int .i64 o, .slice A js.length c], .int .i64 sq, .int .i64 th] w (PartIs w 0 0 false) := by
  have hl := hj.1
  have hn : (asked s f o js sq && decide (0 ≤ th) && decide (th ≤ 20)) = false := by rw [Bool.and_assoc]; exact hno
  have hst := fun w => storeWalk 0 0 0 (fun _ => 0) 0 0 none none w
  have HN := Lib.hid hn; clear hn hno
  go_enter Try.func29, Try.ntmps29
  go_wp2_with (go_at_call 50; refine (walkHome_no _ _ _ _ _ _ _ _ _ _ (hj.go (below1 _ _)) HN.out).mono ?_; rintro e w2 ⟨rfl, hx⟩)
  exact bodyPost_ret (v := .tuple #[.int .i64 0, .int .i64 0, .bool false]) (by simp [results, Try.results29]) rfl
    ⟨rfl, ((below1 _ _).trans (hx.mono (by simp))).alloc (by have := hx.size; simp at this; omega) _⟩

set_option maxRecDepth 100000 in
set_option maxHeartbeats 400000 in
theorem implPartDoneAt_zero (s f o : Int) (A : Option Addr) (c : Nat) (sq : Int) (m : Nat) (js : List (Int × Int)) (w : World) (hj : RJ w w.heap.size A js) (ha : asked s f o js sq = true) (hm : pl s f o js sq 0 s = (m : Int)) :
    Calls Try.prog 29 #[.agg #[.int .i64 s, .int .i64 f, .int .i64 o, .slice A js.length c], .int .i64 sq, .int .i64 0] w (PartIs w (lowA m 1) (lowB m 1) true) := by
  have hl := hj.1
  have hz := good_sizes (asked_good ha)
  have HA := Lib.hid ha
  have hpl1 := pl_le (asked_good ha) (asked_on ha) 0 s
  have hm1 : m ≤ 1152921504606846976 := by rw [Int.pow_zero] at hpl1; omega
  have hm2 : sumTo (fun i => ct s f o js s sq 0 i true) 101 = (m : Int) := by rw [ct_met (asked_good ha), hm]
  have HM := Lib.hid hm2
  have hn : (asked s f o js sq && decide (0 ≤ (-1 : Int)) && decide ((-1 : Int) ≤ 20)) = false := by rw [ha]; rfl
  have HN := Lib.hid hn
  clear ha hpl1 hm hm2 hn
  have hst : ∀ (x y : Option Nat) (w : World), (storeCells ⟨w.heap.size, 0, none⟩ (wlkCells s f o (fun i => jumpOf js i) s (f ^ 0) x y).toList 0).run Try.prog (w.alloc (.cells Try.zeroCells57 57)) = .ok () (w.alloc (.cells (wlkCells s f o (fun i => jumpOf js i) s (f ^ 0) x y) 57)) := fun x y w => storeWalk _ _ _ _ _ _ _ _ w
  rw [Int.pow_zero] at hst
  have hst0 := fun w => storeWalk 0 0 0 (fun _ => 0) 0 0 none none w
  go_enter Try.func29, Try.ntmps29
  go_wp2_with fail
  refine (walkHome_yes _ _ _ _ _ _ _ 0 _ _ (hj.go (below1 _ _)) HA.out (by omega) (by omega)).mono ?_
  rintro e w1 ⟨bl, bb, rfl, l0, b0, hne, l1, b1, hL, hE, hx⟩
  rw [Int.pow_zero]
  have hs1 := hx.size
  simp only [World.size_alloc] at l0 b0 hs1
  have HNE := Lib.hid hne; clear hne
  have hW : WA (w1.alloc (.cells (wlkCells s f o (fun i => jumpOf js i) s 1 (some bl) (some bb)) 57)) w1.heap.size s f o (fun i => jumpOf js i) s 1 (some bl) (some bb) := heap_alloc_at _ _ _ rfl
  have hL1 := hL.alloc (.cells (wlkCells s f o (fun i => jumpOf js i) s 1 (some bl) (some bb)) 57)
  have hbox : Below (w.heap.size + 1) (w.alloc (.cells #[.int .i64 s, .int .i64 f, .int .i64 o, .slice A js.length c] 31)) w1 := box_on (Below.refl _ _) hx (by simp)
  have hbox1 := hbox.alloc (by omega) (.cells (wlkCells s f o (fun i => jumpOf js i) s 1 (some bl) (some bb)) 57)
  clear hL hE
  go_wp2_with fail
  refine (met_any _ _ _ _ _ _ _ _ _ _ _ hW hL1 (fun q m => ct_nonneg _ _ _ _ _ _ _ _ _) (by rw [HM.out]; omega)).mono ?_
  rintro e w2 ⟨rfl, hx2⟩
  rw [HM.out]
  have hall := keepcell hx2 hW.all
  have hbox2 := box_on hbox1 hx2 (by simp; omega)
  have q2 := boxcells hbox2
  have hs2 := hx2.size
  simp only [World.size_alloc] at hs2
  clear hW hL1 hx2
  go_wp2_with fail
  refine (walkHome_no _ _ _ _ _ _ _ _ _ _ (hj.go ((below1 _ _).trans (hbox2.mono (by omega)))) HN.out).mono ?_
  rintro e w3 ⟨rfl, hx3⟩
  have hall3 := keepcell hx3 hall
  have hbox3 := box_on hbox2 hx3 (by have := hbox2.size; simp at this; omega)
  have hs3 := hx3.size
  have hall4 := (Below.cell (below1 w3 (.cells (wlkCells 0 0 0 (fun _ => 0) 0 0 none none) 57)) (p := ⟨w1.heap.size, 105, none⟩) (cell_lt hall3)).trans hall3
  clear q2 hall hall3 hst
  go_wp2_with (go_at_call 57; refine (lowest_any m 1 _ hm1 (by omega) (by omega)).mono ?_; rintro e w5 ⟨rfl, hx5⟩)
  exact bodyPost_ret (v := .tuple #[.int .i64 (lowA m 1), .int .i64 (lowB m 1), .bool true]) (by simp [results, Try.results29, Act.put]) rfl
    ⟨rfl, (((below1 _ _).trans (hbox3.mono (by omega))).alloc (by omega) _).trans (hx5.mono (by simp; omega))⟩

set_option maxRecDepth 100000 in
set_option maxHeartbeats 1000000 in
theorem implPartDoneAt_succ (s f o : Int) (A : Option Addr) (c : Nat) (sq : Int) (T t m m' d F : Nat) (js : List (Int × Int)) (w : World) (hj : RJ w w.heap.size A js) (ha : asked s f o js sq = true) (hT : T = t + 1) (ht20 : T ≤ 20) (hm : pl s f o js sq T s = (m : Int)) (hm' : pl s f o js sq t s = (m' : Int))
    (hd : justDone s f o js sq T = (d : Int)) (hF : f ^ T = (F : Int)) :
    Calls Try.prog 29 #[.agg #[.int .i64 s, .int .i64 f, .int .i64 o, .slice A js.length c], .int .i64 sq, .int .i64 T] w (PartIs w (lowA d F) (lowB d F) true) := by
  have hl := hj.1
  have hz := good_sizes (asked_good ha)
  have HA := Lib.hid ha
  have hp := pow_lt63 hz.2.1.1 hz.2.1.2 ht20
  have hpl1 := pl_le (asked_good ha) (asked_on ha) T s
  have hpl2 := pl_le (asked_good ha) (asked_on ha) t s
  have hp2 := pow_lt63 hz.2.1.1 hz.2.1.2 (show t ≤ 20 by omega)
  have hpe := pl_end (asked_good ha) sq t
  have hdi := justDone_in (asked_good ha) (asked_on ha) T
  have hfm := Int.mul_nonneg (show (0 : Int) ≤ (m' : Int) by omega) (show 0 ≤ f by omega)
  rw [hd] at hdi
  rw [hT, justDone, ← hT, hm, hm'] at hd
  rw [← hT, hm, hm'] at hpe
  have hd1 : d ≤ 1152921504606846976 := by omega
  have hm1 : m ≤ 1152921504606846976 := by omega
  have hm1' : m' ≤ 1152921504606846976 := by omega
  have hF1 : F ≤ 1152921504606846976 := by omega
  have hF2 : 1 ≤ F := by omega
  have HM := Lib.hid (show sumTo (fun i => ct s f o js s sq T i true) 101 = (m : Int) by rw [ct_met (asked_good ha), hm])
  have HM' := Lib.hid (show sumTo (fun i => ct s f o js s sq t i true) 101 = (m' : Int) by rw [ct_met (asked_good ha), hm'])
  have HF := Lib.hid hF
  have e1 : IntKind.i64.wrap ((T : Int) - 1) = (t : Int) := by rw [IntWalk.i64_in _ (by omega)]; omega
  have e2 : IntKind.i64.wrap ((m' : Int) * f) = (m' : Int) * f := IntWalk.i64_in _ (by omega)
  have e3 : IntKind.i64.wrap ((m : Int) - (m' : Int) * f) = (d : Int) := by rw [IntWalk.i64_in _ (by omega)]; omega
  have hT1 : (T : Int) ≤ 20 := by omega
  have ht1 : (t : Int) ≤ 20 := by omega
  clear ha hp hpl1 hpl2 hp2 hpe hm hm' hF hd hdi hfm hT
  have hst : ∀ (x y : Option Nat) (w : World), (storeCells ⟨w.heap.size, 0, none⟩ (wlkCells s f o (fun i => jumpOf js i) s (f ^ T) x y).toList 0).run Try.prog (w.alloc (.cells Try.zeroCells57 57)) = .ok () (w.alloc (.cells (wlkCells s f o (fun i => jumpOf js i) s (f ^ T) x y) 57)) := fun x y w => storeWalk _ _ _ _ _ _ _ _ w
  have hst0 : ∀ (x y : Option Nat) (w : World), (storeCells ⟨w.heap.size, 0, none⟩ (wlkCells s f o (fun i => jumpOf js i) s (f ^ t) x y).toList 0).run Try.prog (w.alloc (.cells Try.zeroCells57 57)) = .ok () (w.alloc (.cells (wlkCells s f o (fun i => jumpOf js i) s (f ^ t) x y) 57)) := fun x y w => storeWalk _ _ _ _ _ _ _ _ w
  go_enter Try.func29, Try.ntmps29
  go_wp2_with fail
  refine (walkHome_yes _ _ _ _ _ _ _ _ _ _ (hj.go (below1 _ _)) HA.out hT1 (by omega)).mono ?_
  rintro e w1 ⟨bl, bb, rfl, l0, b0, hne, l1, b1, hL, hE, hx⟩
  have hs1 := hx.size
  simp only [World.size_alloc] at l0 b0 hs1
  have HNE := Lib.hid hne; clear hne
  have hW : WA (w1.alloc (.cells (wlkCells s f o (fun i => jumpOf js i) s (f ^ T) (some bl) (some bb)) 57)) w1.heap.size s f o (fun i => jumpOf js i) s (f ^ T) (some bl) (some bb) := heap_alloc_at _ _ _ rfl
  have hL1 := hL.alloc (.cells (wlkCells s f o (fun i => jumpOf js i) s (f ^ T) (some bl) (some bb)) 57)
  have hbox : Below (w.heap.size + 1) (w.alloc (.cells #[.int .i64 s, .int .i64 f, .int .i64 o, .slice A js.length c] 31)) w1 := box_on (Below.refl _ _) hx (by simp)
  have hbox1 := hbox.alloc (by omega) (.cells (wlkCells s f o (fun i => jumpOf js i) s (f ^ T) (some bl) (some bb)) 57)
  clear hL hE
  go_wp2_with fail
  refine (met_any _ _ _ _ _ _ _ _ _ _ _ hW hL1 (fun q m => ct_nonneg _ _ _ _ _ _ _ _ _) (by rw [HM.out]; omega)).mono ?_
  rintro e w2 ⟨rfl, hx2⟩
  rw [HM.out]
  have hall := keepcell hx2 hW.all
  rw [HF.out] at hall
  have hbox2 := box_on hbox1 hx2 (by simp; omega)
  have q2 := boxcells hbox2
  have hs2 := hx2.size
  simp only [World.size_alloc] at hs2
  clear hW hL1 hx2 hst
  go_wp2_with fail
  refine (walkHome_yes _ _ _ _ _ _ _ t _ _ (hj.go ((below1 _ _).trans (hbox2.mono (by omega)))) HA.out ht1 (by omega)).mono ?_
  rintro e w3 ⟨bl2, bb2, rfl, l2, b2, hne2, l3, b3, hL2, hE2, hx3⟩
  have HNE2 := Lib.hid hne2; clear hne2 hE2
  have hall3 := keepcell hx3 hall
  have hbox3 := box_on hbox2 hx3 (by have := hbox2.size; simp at this; omega)
  have hs3 := hx3.size
  have hW3 : WA (w3.alloc (.cells (wlkCells s f o (fun i => jumpOf js i) s (f ^ t) (some bl2) (some bb2)) 57)) w3.heap.size s f o (fun i => jumpOf js i) s (f ^ t) (some bl2) (some bb2) := heap_alloc_at _ _ _ rfl
  have hL3 := hL2.alloc (.cells (wlkCells s f o (fun i => jumpOf js i) s (f ^ t) (some bl2) (some bb2)) 57)
  have hall4 := (Below.cell (below1 w3 (.cells (wlkCells s f o (fun i => jumpOf js i) s (f ^ t) (some bl2) (some bb2)) 57)) (p := ⟨w1.heap.size, 105, none⟩) (cell_lt hall3)).trans hall3
  have hbox4 := hbox3.alloc (by omega) (.cells (wlkCells s f o (fun i => jumpOf js i) s (f ^ t) (some bl2) (some bb2)) 57)
  clear q2 hall hall3 hL2 hbox2
  go_wp2_with fail
  have hbox4d := hbox4.drew
  have hW3d : WA (w3.alloc (.cells (wlkCells s f o (fun i => jumpOf js i) s (f ^ t) (some bl2) (some bb2)) 57)).drew w3.heap.size s f o (fun i => jumpOf js i) s (f ^ t) (some bl2) (some bb2) := hW3
  have hL3d : SW (w3.alloc (.cells (wlkCells s f o (fun i => jumpOf js i) s (f ^ t) (some bl2) (some bb2)) 57)).drew bl2 (ct s f o js s sq t) := hL3.keep rfl
  refine wp_region_held_drew (S := (fun w' => w'.cell? ⟨w1.heap.size, 105, none⟩ = some (.int .i64 (F : Int)) ∧ Below (w.heap.size + 1) (w.alloc (.cells #[.int .i64 s, .int .i64 f, .int .i64 o, .slice A js.length c] 31)) w' ∧ (∀ i, w'.cell? ⟨w.heap.size, i, none⟩ = #[.int .i64 s, .int .i64 f, .int .i64 o, .slice A js.length c][i]?))) (by kernel_rfl) ⟨hall4, hbox4d, boxcells hbox4d⟩ (fun hS => ?_)
  refine wpAnyH_take (i := 0) (oi := ⟨some 35, _, _, _, _, _⟩) (v := ?va0) rfl (by kernel_rfl) (by kernel_rfl) (by kernel_rfl) (fun _ _ _ h => h) (Or.inl ⟨by rfl, ?ha0⟩) hS ?ra0
  case ha0 => (intro w' hSw; (try dsimp only at hSw); go_simp; (try with_reducible rfl))
  try simp only [Act.put, List.setIfInBounds_toArray, List.set_cons_zero, List.set_cons_succ]
  refine wpAnyH_take (i := 2) (oi := ⟨some 37, _, _, _, _, _⟩) (v := ?va2) rfl (by kernel_rfl) (by kernel_rfl) (by kernel_rfl) (fun _ _ _ h => h) (Or.inl ⟨by rfl, ?ha2⟩) hS ?ra2
  case ha2 => (intro w' hSw; (try dsimp only at hSw); go_simp; (try with_reducible rfl))
  try simp only [Act.put, List.setIfInBounds_toArray, List.set_cons_zero, List.set_cons_succ]
  refine wpAnyH_take (i := 3) (oi := ⟨some 38, _, _, _, _, _⟩) (v := ?va3) rfl (by kernel_rfl) (by kernel_rfl) (by kernel_rfl) (fun _ _ _ h => h) (Or.inl ⟨by rfl, ?ha3⟩) hS ?ra3
  case ha3 => (intro w' hSw; (try dsimp only at hSw); go_simp; (try with_reducible rfl))
  try simp only [Act.put, List.setIfInBounds_toArray, List.set_cons_zero, List.set_cons_succ]
  refine wpAnyH_ready (rs := [1]) (by kernel_rfl) (by simp) ?_
  refine AllReadyH.cons (o := ⟨some 36, _, _, _, _, _⟩) rfl (fun K' hK' => ?_) AllReadyH.nil
  go_simp
  go_at_call 58
  refine (met_any _ _ _ _ _ _ _ _ _ _ _ hW3d hL3d (fun q m => ct_nonneg _ _ _ _ _ _ _ _ _) (by rw [HM'.out]; omega)).mono ?_
  rintro e w6 ⟨rfl, hx6⟩
  rw [HM'.out]
  have k1 := keepcell hx6 hall4
  have k2 := box_on hbox4d hx6 (by simp; omega)
  refine hK'.out _ _ ⟨k1, k2, boxcells k2⟩ (fun _ => ?_)
  clear hK' K'
  try simp only [Act.put, List.setIfInBounds_toArray, List.set_cons_zero, List.set_cons_succ]
  refine wpAnyH_take (i := 4) (oi := ⟨some 39, _, _, _, _, _⟩) (v := ?va4) rfl (by kernel_rfl) (by kernel_rfl) (by kernel_rfl) (fun _ _ _ h => h) (Or.inl ⟨by rfl, ?ha4⟩) ⟨k1, k2, boxcells k2⟩ ?ra4
  case ha4 => (intro w' hSw; (try dsimp only at hSw); go_simp; (try with_reducible rfl))
  try simp only [Act.put, List.setIfInBounds_toArray, List.set_cons_zero, List.set_cons_succ]
  refine wpAnyH_take (i := 5) (oi := ⟨some 40, _, _, _, _, _⟩) (v := ?va5) rfl (by kernel_rfl) (by kernel_rfl) (by kernel_rfl) (fun _ _ _ h => h) (Or.inl ⟨by rfl, ?ha5⟩) ⟨k1, k2, boxcells k2⟩ ?ra5
  case ha5 => (intro w' hSw; (try dsimp only at hSw); go_simp; (try with_reducible rfl))
  try simp only [Act.put, List.setIfInBounds_toArray, List.set_cons_zero, List.set_cons_succ]
  refine wpAnyH_ready (rs := [6]) (by kernel_rfl) (by simp) ?_
  refine AllReadyH.cons (o := ⟨some 11, _, _, _, _, _⟩) rfl (fun K' hK' => ?_) AllReadyH.nil
  go_simp
  refine hK'.out _ _ ⟨k1, k2, boxcells k2⟩ (fun _ => ?_)
  clear hK' K'
  try simp only [Act.put, List.setIfInBounds_toArray, List.set_cons_zero, List.set_cons_succ]
  refine wpAnyH_done (by kernel_rfl) ?_ _
  try simp only [e2, e3]
  go_wp2_with (go_at_call 57; refine (lowest_any d F _ hd1 hF1 hF2).mono ?_; rintro e w5 ⟨rfl, hx5⟩)
  exact bodyPost_ret (v := .tuple #[.int .i64 (lowA d F), .int .i64 (lowB d F), .bool true]) (by simp [results, Try.results29, Act.put]) rfl
    ⟨rfl, ((below1 _ _).trans (k2.mono (by omega))).trans (hx5.mono (by have := k2.size; simp at this; omega))⟩

theorem partDoneAt_both (s f o : Int) (js : List (Int × Int)) (sq th : Int) : ∃ (x y : Int) (ok : Bool),
    (∀ (A : Option Addr) (c : Nat) (W : World), RJ W W.heap.size A js → Calls Try.prog 28 #[.agg #[.int .i64 s, .int .i64 f, .int .i64 o, .slice A js.length c], .int .i64 sq, .int .i64 th] W (PartIs W x y ok)) ∧
    (∀ (A : Option Addr) (c : Nat) (W : World), RJ W W.heap.size A js → Calls Try.prog 29 #[.agg #[.int .i64 s, .int .i64 f, .int .i64 o, .slice A js.length c], .int .i64 sq, .int .i64 th] W (PartIs W x y ok)) := by
  cases h : (asked s f o js sq && inB th 0 20)
  · exact ⟨0, 0, false, fun A c W hj => specPartDoneAt_no s f o A c sq th js W hj h, fun A c W hj => implPartDoneAt_no s f o A c sq th js W hj h⟩
  · rw [Bool.and_eq_true] at h
    have hz := good_sizes (asked_good h.1)
    have hth := inB_iff.1 h.2
    obtain ⟨T, rfl⟩ := Int.eq_ofNat_of_zero_le hth.1
    obtain ⟨S, rfl⟩ := Int.eq_ofNat_of_zero_le (show 0 ≤ s by omega)
    obtain ⟨m, hm⟩ := Int.eq_ofNat_of_zero_le (pl_nonneg S f o js sq T S)
    have hF := natpow (show 0 ≤ f by omega) T
    match T, hm, hF, hth with
    | 0, hm, hF, hth =>
      exact ⟨lowA m 1, lowB m 1, true, fun A c W hj => specPartDoneAt_zero S f o A c sq m js W hj h.1 hm, fun A c W hj => implPartDoneAt_zero S f o A c sq m js W hj h.1 hm⟩
    | t + 1, hm, hF, hth =>
      obtain ⟨m', hm'⟩ := Int.eq_ofNat_of_zero_le (pl_nonneg S f o js sq t S)
      obtain ⟨d, hd⟩ := Int.eq_ofNat_of_zero_le (justDone_in (asked_good h.1) (asked_on h.1) (t + 1)).1
      exact ⟨lowA d (f.toNat ^ (t + 1)), lowB d (f.toNat ^ (t + 1)), true, fun A c W hj => specPartDoneAt_succ S f o A c sq (t + 1) t m m' d _ js W hj h.1 rfl (by omega) hm hm' hd hF, fun A c W hj => implPartDoneAt_succ S f o A c sq (t + 1) t m m' d _ js W hj h.1 rfl (by omega) hm hm' hd hF⟩
end Go.Proofs.Ytiekdokgjdgajab

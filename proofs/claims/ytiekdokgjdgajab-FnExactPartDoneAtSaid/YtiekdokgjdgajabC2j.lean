/-
  PartDone, the model's and the program's.
-/
import Derived.Test.YtiekdokgjdgajabC2i
namespace Go.Proofs.Ytiekdokgjdgajab
open Go.RowKit

theorem implPartDone_any (s f o : Int) (A : Option Addr) (c : Nat) (sq th x y : Int) (ok : Bool) (js : List (Int × Int)) (w : World) (hj : RJ w w.heap.size A js)
    (h : ∀ (A : Option Addr) (c : Nat) (W : World), RJ W W.heap.size A js → Calls Try.prog 25 #[.agg #[.int .i64 s, .int .i64 f, .int .i64 o, .slice A js.length c], .int .i64 sq, .int .i64 s, .int .i64 th] W (PartIs W x y ok)) :
    Calls Try.prog 27 #[.agg #[.int .i64 s, .int .i64 f, .int .i64 o, .slice A js.length c], .int .i64 sq, .int .i64 th] w (PartIs w x y ok) := by
  have hl := hj.1
  have H := Lib.hid h; clear h
  go_enter Try.func27, Try.ntmps27
  go_wp2_with (go_at_call 25; refine (H.out _ _ _ (hj.go (below1 _ _))).mono ?_; rintro e w2 ⟨rfl, hx⟩)
  exact bodyPost_ret (v := .tuple #[.int .i64 x, .int .i64 y, .bool ok]) (by simp [results, Try.results27]) rfl
    ⟨rfl, (below1 _ _).trans (hx.mono (by simp))⟩

set_option maxRecDepth 100000 in
set_option maxHeartbeats 400000 in
theorem specPartDone_no (s f o : Int) (A : Option Addr) (c : Nat) (sq th : Int) (js : List (Int × Int)) (w : World) (hj : RJ w w.heap.size A js) (hno : (asked s f o js sq && inB th 0 20) = false) :
    Calls Try.prog 26 #[.agg #[.int .i64 s, .int .i64 f, .int .i64 o, .slice A js.length c], .int .i64 sq, .int .i64 th] w (PartIs w 0 0 false) := by
  have hl := hj.1
  have HA := Lib.hid hno; clear hno
  go_enter Try.func26, Try.ntmps26
  go_wp2_with (go_at_call 47; refine (chAsked_any _ _ _ _ _ _ _ _ _ (hj.go (below1 _ _))).mono ?_; rintro e w2 ⟨rfl, hx⟩; rw [HA.out])
  exact bodyPost_ret (v := .tuple #[.int .i64 0, .int .i64 0, .bool false]) (by simp [results, Try.results26]) rfl
    ⟨rfl, (below1 _ _).trans (hx.mono (by simp))⟩

set_option maxRecDepth 100000 in
set_option maxHeartbeats 4000000 in
theorem specPartDone_yes (S : Nat) (f o : Int) (A : Option Addr) (c : Nat) (sq : Int) (t m F : Nat) (js : List (Int × Int)) (w : World) (hj : RJ w w.heap.size A js) (ha : asked S f o js sq = true) (ht20 : t ≤ 20) (hm : pl S f o js sq t S = (m : Int)) (hF : f ^ t = (F : Int)) :
    Calls Try.prog 26 #[.agg #[.int .i64 S, .int .i64 f, .int .i64 o, .slice A js.length c], .int .i64 sq, .int .i64 t] w (PartIs w (lowA m F) (lowB m F) true) := by
  have hl := hj.1
  have hz := good_sizes (asked_good ha)
  have hth : inB t 0 20 = true := inB_iff.2 ⟨by omega, by omega⟩
  have HA := Lib.hid (show (asked S f o js sq && inB t 0 20) = true by rw [ha, hth]; rfl)
  have HA1 := Lib.hid ha
  have hp := pow_lt63 hz.2.1.1 hz.2.1.2 ht20
  have hpl1 := pl_le (asked_good ha) (asked_on ha) t S
  have hm1 : m ≤ 1152921504606846976 := by omega
  have iq : (S : Int) < ((nsq S : Nat) : Int) := by unfold nsq; omega
  have iqn : S < nsq S := by omega
  have HM := Lib.hid hm; have HF := Lib.hid hF
  clear ha hp hpl1 hth hm hF
  go_enter Try.func26, Try.ntmps26
  go_wp2_with fail
  refine (chAsked_any _ _ _ _ _ _ _ _ _ (hj.go (below1 _ _))).mono ?_
  rintro e w3 ⟨rfl, hx⟩
  rw [HA.out]
  have hb3 := box_on (Below.refl _ _) hx (by simp)
  have hb3d := hb3.drew
  have q3 := boxcells hb3
  go_wp2_with fail
  have iq0 : (0 : Int) ≤ (S : Int) := by omega
  refine wp_region_held_drew (S := (fun w' => Below (w.heap.size + 1) (w.alloc (.cells #[.int .i64 S, .int .i64 f, .int .i64 o, .slice A js.length c] 31)) w' ∧ (∀ i, w'.cell? ⟨w.heap.size, i, none⟩ = #[.int .i64 S, .int .i64 f, .int .i64 o, .slice A js.length c][i]?))) (by kernel_rfl) ⟨hb3d, boxcells hb3d⟩ (fun hS => ?_)
  refine wpAnyH_take (i := 0) (oi := ⟨some 14, _, _, _, _, _⟩) (v := ?v0) rfl (by kernel_rfl) (by kernel_rfl) (by kernel_rfl) (fun _ _ _ h => h) (Or.inl ⟨by rfl, ?h0⟩) hS ?r0
  case h0 => (intro w' hSw; (try dsimp only at hSw); go_simp; (try with_reducible rfl))
  try simp only [Act.put, List.setIfInBounds_toArray, List.set_cons_zero, List.set_cons_succ]
  refine wpAnyH_take (i := 1) (oi := ⟨some 15, _, _, _, _, _⟩) (v := ?v1) rfl (by kernel_rfl) (by kernel_rfl) (by kernel_rfl) (fun _ _ _ h => h) (Or.inl ⟨by rfl, ?h1⟩) hS ?r1
  case h1 => (intro w' hSw; (try dsimp only at hSw); go_simp; (try with_reducible rfl))
  try simp only [Act.put, List.setIfInBounds_toArray, List.set_cons_zero, List.set_cons_succ]
  refine wpAnyH_take (i := 2) (oi := ⟨some 16, _, _, _, _, _⟩) (v := ?v2) rfl (by kernel_rfl) (by kernel_rfl) (by kernel_rfl) (fun _ _ _ h => h) (Or.inl ⟨by rfl, ?h2⟩) hS ?r2
  case h2 => (intro w' hSw; (try dsimp only at hSw); go_simp; (try with_reducible rfl))
  try simp only [Act.put, List.setIfInBounds_toArray, List.set_cons_zero, List.set_cons_succ]
  refine wpAnyH_take (i := 3) (oi := ⟨some 17, _, _, _, _, _⟩) (v := ?v3) rfl (by kernel_rfl) (by kernel_rfl) (by kernel_rfl) (fun _ _ _ h => h) (Or.inl ⟨by rfl, ?h3⟩) hS ?r3
  case h3 => (intro w' hSw; (try dsimp only at hSw); go_simp; (try with_reducible rfl))
  try simp only [Act.put, List.setIfInBounds_toArray, List.set_cons_zero, List.set_cons_succ]
  refine wpAnyH_take (i := 5) (oi := ⟨some 19, _, _, _, _, _⟩) (v := ?v5) rfl (by kernel_rfl) (by kernel_rfl) (by kernel_rfl) (fun _ _ _ h => h) (Or.inl ⟨by rfl, ?h5⟩) hS ?r5
  case h5 => (intro w' hSw; (try dsimp only at hSw); go_simp; (try with_reducible rfl))
  try simp only [Act.put, List.setIfInBounds_toArray, List.set_cons_zero, List.set_cons_succ]
  refine wpAnyH_take (i := 6) (oi := ⟨some 20, _, _, _, _, _⟩) (v := ?v6) rfl (by kernel_rfl) (by kernel_rfl) (by kernel_rfl) (fun _ _ _ h => h) (Or.inl ⟨by rfl, ?h6⟩) hS ?r6
  case h6 => (intro w' hSw; (try dsimp only at hSw); go_simp; (try with_reducible rfl))
  try simp only [Act.put, List.setIfInBounds_toArray, List.set_cons_zero, List.set_cons_succ]
  refine wpAnyH_take (i := 9) (oi := ⟨some 23, _, _, _, _, _⟩) (v := ?v9) rfl (by kernel_rfl) (by kernel_rfl) (by kernel_rfl) (fun _ _ _ h => h) (Or.inl ⟨by rfl, ?h9⟩) hS ?r9
  case h9 => (intro w' hSw; (try dsimp only at hSw); go_simp; (try with_reducible rfl))
  try simp only [Act.put, List.setIfInBounds_toArray, List.set_cons_zero, List.set_cons_succ]
  refine wpAnyH_ready (rs := [4]) (by kernel_rfl) (by simp) ?_
  refine AllReadyH.cons (o := ⟨some 18, _, _, _, _, _⟩) rfl (fun K' hK' => ?_) AllReadyH.nil
  go_simp
  go_at_call 48
  refine (chPlaces_any _ _ _ _ _ _ _ _ _ (hj.go ((below1 _ _).trans (hb3d.mono (by omega)))) HA1.out ht20).mono ?_
  rintro e w4 ⟨g, rfl, hgg, hrow, hx4⟩
  have d4 := hrow.cell iqn
  rw [HM.out] at d4
  have k1 := box_on hb3d hx4 (by have := hb3d.size; simpa using this)
  refine hK'.out _ _ ⟨k1, boxcells k1⟩ (fun _ => ?_)
  clear hK' K'
  try simp only [Act.put, List.setIfInBounds_toArray, List.set_cons_zero, List.set_cons_succ]
  refine wpAnyH_take (i := 7) (oi := ⟨some 21, _, _, _, _, _⟩) (v := ?v7) rfl (by kernel_rfl) (by kernel_rfl) (by kernel_rfl) (fun _ _ _ h => h) (Or.inl ⟨by rfl, ?h7⟩) ⟨k1, boxcells k1⟩ ?r7
  case h7 => (intro w' hSw; (try dsimp only at hSw); go_simp; (try with_reducible rfl))
  try simp only [Act.put, List.setIfInBounds_toArray, List.set_cons_zero, List.set_cons_succ]
  refine wpAnyH_ready (rs := [8]) (by kernel_rfl) (by simp) ?_
  refine AllReadyH.cons (o := ⟨some 22, _, _, _, _, _⟩) rfl (fun K' hK' => ?_) AllReadyH.nil
  go_simp
  refine hK'.out _ _ ⟨k1, boxcells k1⟩ (fun _ => ?_)
  clear hK' K'
  try simp only [Act.put, List.setIfInBounds_toArray, List.set_cons_zero, List.set_cons_succ]
  refine wpAnyH_ready (rs := [10]) (by kernel_rfl) (by simp) ?_
  refine AllReadyH.cons (o := ⟨some 24, _, _, _, _, _⟩) rfl (fun K' hK' => ?_) AllReadyH.nil
  go_simp
  go_at_call 55
  refine (chPart_any S f o A c js m t F _ hz.2.1.1 hz.2.1.2 ht20 HF.out hm1).mono ?_
  rintro e w5 ⟨rfl, hx5⟩
  have m1 := box_on k1 hx5 (by have := k1.size; simpa using this)
  refine hK'.out _ _ ⟨m1, boxcells m1⟩ (fun _ => ?_)
  clear hK' K'
  try simp only [Act.put, List.setIfInBounds_toArray, List.set_cons_zero, List.set_cons_succ]
  refine wpAnyH_take (i := 11) (oi := ⟨some 25, _, _, _, _, _⟩) (v := ?v11) rfl (by kernel_rfl) (by kernel_rfl) (by kernel_rfl) (fun _ _ _ h => h) (Or.inl ⟨by rfl, ?h11⟩) ⟨m1, boxcells m1⟩ ?r11
  case h11 => (intro w' hSw; (try dsimp only at hSw); go_simp; (try with_reducible rfl))
  try simp only [Act.put, List.setIfInBounds_toArray, List.set_cons_zero, List.set_cons_succ]
  refine wpAnyH_take (i := 12) (oi := ⟨some 26, _, _, _, _, _⟩) (v := ?v12) rfl (by kernel_rfl) (by kernel_rfl) (by kernel_rfl) (fun _ _ _ h => h) (Or.inl ⟨by rfl, ?h12⟩) ⟨m1, boxcells m1⟩ ?r12
  case h12 => (intro w' hSw; (try dsimp only at hSw); go_simp; (try with_reducible rfl))
  try simp only [Act.put, List.setIfInBounds_toArray, List.set_cons_zero, List.set_cons_succ]
  refine wpAnyH_take (i := 13) (oi := ⟨some 27, _, _, _, _, _⟩) (v := ?v13) rfl (by kernel_rfl) (by kernel_rfl) (by kernel_rfl) (fun _ _ _ h => h) (Or.inl ⟨by rfl, ?h13⟩) ⟨m1, boxcells m1⟩ ?r13
  case h13 => (intro w' hSw; (try dsimp only at hSw); go_simp; (try with_reducible rfl))
  try simp only [Act.put, List.setIfInBounds_toArray, List.set_cons_zero, List.set_cons_succ]
  refine wpAnyH_ready (rs := [14]) (by kernel_rfl) (by simp) ?_
  refine AllReadyH.cons (o := ⟨some 6, _, _, _, _, _⟩) rfl (fun K' hK' => ?_) AllReadyH.nil
  go_simp
  refine hK'.out _ _ ⟨m1, boxcells m1⟩ (fun _ => ?_)
  clear hK' K'
  try simp only [Act.put, List.setIfInBounds_toArray, List.set_cons_zero, List.set_cons_succ]
  refine wpAnyH_ready (rs := [15]) (by kernel_rfl) (by simp) ?_
  refine AllReadyH.cons (o := ⟨some 7, _, _, _, _, _⟩) rfl (fun K' hK' => ?_) AllReadyH.nil
  go_simp
  refine hK'.out _ _ ⟨m1, boxcells m1⟩ (fun _ => ?_)
  clear hK' K'
  try simp only [Act.put, List.setIfInBounds_toArray, List.set_cons_zero, List.set_cons_succ]
  refine wpAnyH_ready (rs := [16]) (by kernel_rfl) (by simp) ?_
  refine AllReadyH.cons (o := ⟨some 8, _, _, _, _, _⟩) rfl (fun K' hK' => ?_) AllReadyH.nil
  go_simp
  refine hK'.out _ _ ⟨m1, boxcells m1⟩ (fun _ => ?_)
  clear hK' K'
  try simp only [Act.put, List.setIfInBounds_toArray, List.set_cons_zero, List.set_cons_succ]
  refine wpAnyH_done (by kernel_rfl) ?_ _
  go_wp2
  exact bodyPost_ret (v := .tuple #[.int .i64 (lowA m F), .int .i64 (lowB m F), .bool true]) (by simp [results, Try.results26]) rfl
    ⟨rfl, (below1 _ _).trans (m1.mono (by omega))⟩

theorem partDone_both (s f o : Int) (js : List (Int × Int)) (sq th : Int) : ∃ (x y : Int) (ok : Bool),
    (∀ (A : Option Addr) (c : Nat) (W : World), RJ W W.heap.size A js → Calls Try.prog 26 #[.agg #[.int .i64 s, .int .i64 f, .int .i64 o, .slice A js.length c], .int .i64 sq, .int .i64 th] W (PartIs W x y ok)) ∧
    (∀ (A : Option Addr) (c : Nat) (W : World), RJ W W.heap.size A js → Calls Try.prog 27 #[.agg #[.int .i64 s, .int .i64 f, .int .i64 o, .slice A js.length c], .int .i64 sq, .int .i64 th] W (PartIs W x y ok)) := by
  cases h : (asked s f o js sq && inB th 0 20)
  · have hp : partOk s f o js sq s th = false := by
      rw [partOk]
      cases h1 : asked s f o js sq <;> cases h2 : inB th 0 20 <;> cases onSq s js s <;> simp_all
    exact ⟨0, 0, false, fun A c W hj => specPartDone_no s f o A c sq th js W hj h, fun A c W hj => implPartDone_any s f o A c sq th 0 0 false js W hj fun A c W hj => implPartAt_no s f o A c sq s th js W hj hp⟩
  · rw [Bool.and_eq_true] at h
    have hz := good_sizes (asked_good h.1)
    have hth := inB_iff.1 h.2
    obtain ⟨t, rfl⟩ := Int.eq_ofNat_of_zero_le hth.1
    obtain ⟨S, rfl⟩ := Int.eq_ofNat_of_zero_le (show 0 ≤ s by omega)
    obtain ⟨m, hm⟩ := Int.eq_ofNat_of_zero_le (pl_nonneg S f o js sq t S)
    have hF := natpow (show 0 ≤ f by omega) t
    have he : onSq S js S = true := by simp [onSq, inB, good_end (asked_good h.1)]
    have hp : partOk S f o js sq S t = true := by rw [partOk, h.1, he, h.2]; rfl
    exact ⟨lowA m (f.toNat ^ t), lowB m (f.toNat ^ t), true, fun A c W hj => specPartDone_yes S f o A c sq t m _ js W hj h.1 (by omega) hm hF, fun A c W hj => implPartDone_any S f o A c sq t _ _ true js W hj fun A c W hj => implPartAt_yes S f o A c sq S t m _ js W hj hp hm hF⟩
end Go.Proofs.Ytiekdokgjdgajab

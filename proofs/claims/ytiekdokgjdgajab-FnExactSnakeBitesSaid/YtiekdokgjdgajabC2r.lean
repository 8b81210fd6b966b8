/-
  AverageAfter, the model's and the program's.
-/
import Derived.Test.YtiekdokgjdgajabC2q
import Derived.Test.YtiekdokgjdgajabC2h
import Derived.Test.YtiekdokgjdgajabC2i
namespace Go.Proofs.Ytiekdokgjdgajab
open Go.RowKit

theorem gcd_rest (S F : Nat) : Nat.gcd (S % F) F = Nat.gcd S F := (Nat.gcd_rec F S).symm.trans (Nat.gcd_comm F S)
theorem low_val {a b : Nat} (ha : a ≤ 1152921504606846976) (hb : b ≤ 1152921504606846976) : lowA a b = ((a / Nat.gcd a b : Nat) : Int) ∧ lowB a b = ((b / Nat.gcd a b : Nat) : Int) := by
  have h1 := Nat.div_le_self a (Nat.gcd a b)
  have h2 := Nat.div_le_self b (Nat.gcd a b)
  have e1 : (a : Int) / (Nat.gcd a b : Nat) = ((a / Nat.gcd a b : Nat) : Int) := rfl
  have e2 : (b : Int) / (Nat.gcd a b : Nat) = ((b / Nat.gcd a b : Nat) : Int) := rfl
  unfold lowA lowB
  rw [e1, e2]
  generalize a / Nat.gcd a b = x at *
  generalize b / Nat.gcd a b = y at *
  rw [IntWalk.wrap64_in _ (by omega), IntWalk.wrap64_in _ (by omega)]
  exact ⟨rfl, rfl⟩
theorem low_whole {S F : Nat} (hF : 1 ≤ F) (hS : S ≤ 1152921504606846976) (hF2 : F ≤ 1152921504606846976) :
    lowB (S % F) F = lowB S F ∧ ((S / F : Nat) : Int) * lowB (S % F) F + lowA (S % F) F = lowA S F ∧ 0 ≤ ((S / F : Nat) : Int) * lowB (S % F) F ∧ 0 ≤ lowA (S % F) F ∧ lowA S F ≤ S := by
  have hr : S % F ≤ 1152921504606846976 := Nat.le_trans (Nat.mod_le _ _) hS
  have v1 := low_val hr hF2
  have v2 := low_val hS hF2
  rw [gcd_rest] at v1
  rw [v1.1, v1.2, v2.1, v2.2]
  have hg : 0 < Nat.gcd S F := Nat.gcd_pos_of_pos_right S (by omega)
  have hle := Nat.div_le_self S (Nat.gcd S F)
  have key : (S / F) * (F / Nat.gcd S F) + S % F / Nat.gcd S F = S / Nat.gcd S F := by
    obtain ⟨r', hr'⟩ : Nat.gcd S F ∣ S % F := by rw [← gcd_rest]; exact Nat.gcd_dvd_left _ _
    obtain ⟨F', hF'⟩ : Nat.gcd S F ∣ F := Nat.gcd_dvd_right _ _
    have hdm := Nat.div_add_mod S F
    generalize Nat.gcd S F = g at *
    generalize S / F = q at *
    generalize S % F = r at *
    subst hr'
    subst hF'
    rw [Nat.mul_div_cancel_left _ hg, Nat.mul_div_cancel_left _ hg, ← hdm, Nat.mul_assoc, ← Nat.mul_add, Nat.mul_div_cancel_left _ hg, Nat.mul_comm]
  have hk : (((S / F) * (F / Nat.gcd S F) + S % F / Nat.gcd S F : Nat) : Int) = ((S / Nat.gcd S F : Nat) : Int) := by rw [key]
  clear v1 v2 key hg
  generalize S / Nat.gcd S F = x at *
  generalize F / Nat.gcd S F = y at *
  generalize S % F / Nat.gcd S F = z at *
  generalize S / F = u at *
  refine ⟨rfl, by simpa using hk, ?_, by omega, by omega⟩
  exact Int.mul_nonneg (by omega) (by omega)

theorem pow_lt48 {f : Int} (h1 : 1 ≤ f) (h8 : f ≤ 8) {t : Nat} (ht : t ≤ 16) : 1 ≤ f ^ t ∧ f ^ t ≤ 281474976710656 := by
  have a := pow_le8 h1 h8 t
  have b := pow8_le ht
  have e : (8 : Int) ^ 16 = 281474976710656 := by decide
  omega

theorem rest_step (T v F : Nat) (hF : 0 < F) : (T + v) / F = T / F + (T % F + v) / F ∧ (T + v) % F = (T % F + v) % F := by
  have := div_step T v F (by omega)
  exact ⟨by exact_mod_cast this.1, by exact_mod_cast this.2⟩

theorem av_wraps (q S : Nat) (la lb ra : Int) (h1 : (q : Int) * lb + la = ra) (h2 : 0 ≤ (q : Int) * lb) (h3 : 0 ≤ la) (h4 : ra ≤ S) (h5 : S ≤ 28147497671065600) : IntKind.i64.wrap ((q : Int) * lb) = (q : Int) * lb ∧ IntKind.i64.wrap ((q : Int) * lb + la) = ra := by
  generalize (q : Int) * lb = x at *
  exact ⟨IntWalk.i64_in _ (by omega), by rw [h1]; exact IntWalk.i64_in _ (by omega)⟩

set_option maxHeartbeats 1000000 in
theorem chAverage_any (s f o : Int) (A : Option Addr) (c : Nat) (js : List (Int × Int)) (g n t F S : Nat) (P : Nat → Int) (w : World) (hf1 : 1 ≤ f) (hf8 : f ≤ 8) (ht : t ≤ 16) (hF : f ^ t = (F : Int)) (hrow : RowI w g 3 n P) (hn : n ≤ 101) (hP0 : ∀ i, 0 ≤ P i) (hPs : sumTo P n = F) (hS : avS P n = (S : Int)) :
    Calls Try.prog 59 #[.agg #[.int .i64 s, .int .i64 f, .int .i64 o, .slice A js.length c], .slice (some ⟨g, 0, none⟩) n n, .int .i64 t] w (PartIs w (lowA S F) (lowB S F) true) := by
  have hp := pow_lt48 hf1 hf8 ht
  have hF1 : F ≤ 281474976710656 := by omega
  have hF2 : 1 ≤ F := by omega
  have hF3 : (0 : Int) < (F : Int) := by omega
  have hF4 : (F : Int) ≠ 0 := by omega
  have hSb : S ≤ 28147497671065600 := by
    have h := sumTo_total (F := P) 100 n hP0 (fun i => (i : Int)) (fun i hi => ⟨by omega, by omega⟩)
    rw [hPs] at h
    have e : sumTo (fun i => (i : Int) * P i) n = (S : Int) := hS
    omega
  have hlow := low_whole hF2 (show S ≤ 1152921504606846976 by omega) (show F ≤ 1152921504606846976 by omega)
  have hrS := Nat.mod_lt S (show 0 < F by omega)
  obtain ⟨q, hq⟩ : ∃ q, S / F = q := ⟨_, rfl⟩
  obtain ⟨r, hr⟩ : ∃ r, S % F = r := ⟨_, rfl⟩
  rw [hq, hr] at hlow
  rw [hr] at hrS
  have hlowCall : ∀ W : World, Calls Try.prog 70 #[.int .i64 r, .int .i64 F] W fun e w' => e = .returned (.tuple #[.int .i64 (lowA r F), .int .i64 (lowB r F)]) ∧ Below W.heap.size W w' := fun W => chLow_any r F W (by omega) (by omega) hF2
  obtain ⟨la, hla⟩ : ∃ la, lowA r F = la := ⟨_, rfl⟩
  obtain ⟨lb, hlb⟩ : ∃ lb, lowB r F = lb := ⟨_, rfl⟩
  obtain ⟨ra, hra⟩ : ∃ ra, lowA S F = ra := ⟨_, rfl⟩
  rw [← hlow.1, hra, hlb]
  rw [hla, hlb, hra] at hlow
  simp only [hla, hlb] at hlowCall
  have lg := hrow.lt
  have e1 := (av_wraps q S la lb ra hlow.2.1 hlow.2.2.1 hlow.2.2.2.1 hlow.2.2.2.2 hSb).1
  have e2 := (av_wraps q S la lb ra hlow.2.1 hlow.2.2.1 hlow.2.2.2.1 hlow.2.2.2.2 hSb).2
  have HF := Lib.hid hF; have HP0 := Lib.hid hP0; have HPS := Lib.hid hPs; have HS := Lib.hid hS; have HLC := Lib.hid hlowCall; have HQ := Lib.hid hq; have HR := Lib.hid hr; have HE1 := Lib.hid e1; have HE2 := Lib.hid e2
  clear hF hp hP0 hPs hS hlow hlowCall hq hr hla hlb hra e1 e2
  go_enter Try.func59, Try.ntmps59
  go_wp2_with fail
  refine (chAll_any _ _ _ _ _ _ _ _ hf1 hf8 (by omega)).mono ?_
  rintro e w1 ⟨rfl, hx⟩
  rw [HF.out]
  have hrow1 := (hrow.alloc (.cells #[.int .i64 s, .int .i64 f, .int .i64 o, .slice A js.length c] 31)).below hx (by simp; omega)
  have hB1 : Below w.heap.size w w1 := (below1 _ _).trans (hx.mono (by simp))
  clear hrow hx
  go_wp2_with fail
  go_loopw [10, 11, 22, 12, 13, 14] (fun a r i _ _ _ wr => ∃ (k T x y : Nat), k ≤ n ∧ i = .int .i64 (k : Int) ∧ avS P k = (T : Int) ∧ T / F = x ∧ T % F = y ∧ a = .int .i64 (x : Int) ∧ r = .int .i64 (y : Int) ∧ RowI wr g 3 n P ∧ Below w.heap.size w wr) (fun _ _ i _ _ _ _ => n - (intOf i).toNat)
  case atStart => exact ⟨0, 0, 0, 0, Nat.zero_le _, rfl, rfl, Nat.zero_div _, Nat.zero_mod _, rfl, rfl, hrow1, hB1⟩
  case round =>
    clear hrow1 hB1
    obtain ⟨k, T, x, y, hk, rfl, hT, hx, hy, rfl, rfl, hrow, hB⟩ := hrel
    have HT := Lib.hid hT; have HX := Lib.hid hx; have HY := Lib.hid hy; clear hT hx hy
    by_cases hlt : k < n
    · have h3 : (k : Int) < (n : Int) := by omega
      have d1 := hrow.cell hlt
      obtain ⟨v, hv⟩ := Int.eq_ofNat_of_zero_le (HP0.out k)
      rw [hv] at d1
      have hvF : v ≤ F := by
        have := sumTo_term (F := P) n (fun i _ => HP0.out i) hlt
        rw [HPS.out] at this; omega
      have HV := Lib.hid hv; clear hv
      go_wp2
      go_loopw [10, 11, 14] (fun a r kk wi => ∃ (j m T' x' y' : Nat), j + m = k ∧ kk = .int .i64 (m : Int) ∧ avS P k + j * P k = (T' : Int) ∧ T' / F = x' ∧ T' % F = y' ∧ a = .int .i64 (x' : Int) ∧ r = .int .i64 (y' : Int) ∧ RowI wi g 3 n P ∧ Below w.heap.size w wi) (fun _ _ kk _ => (intOf kk).toNat)
      case atStart => exact ⟨0, k, T, x, y, by omega, rfl, by rw [HT.out]; simp, HX.out, HY.out, rfl, rfl, hrow, hB⟩
      case round =>
        clear hrow hB d1
        obtain ⟨j, m, T', x', y', hjm, rfl, hT', hx', hy', rfl, rfl, hrow, hB⟩ := hrel
        have hpart := avS_part HP0.out (m := k) (j := j) (by omega) n hlt hn
        rw [HPS.out, hT'] at hpart
        have HT' := Lib.hid hT'; clear hT'
        match m with
        | 0 =>
          obtain rfl : j = k := by omega
          have HX' := Lib.hid hx'; have HY' := Lib.hid hy'; clear hx' hy'
          go_wp2
          go_roundw
          case rel => exact ⟨j + 1, T', x', y', hlt, by go_num, by rw [avS_succ]; exact HT'.out, HX'.out, HY'.out, rfl, rfl, hrow, hB⟩
          case measure => simp [intOf]; omega
        | m + 1 =>
          have g1 : (0 : Int) < ((m + 1 : Nat) : Int) := by omega
          have hr := Nat.mod_lt T' (show 0 < F by omega)
          have hq := Nat.div_le_self T' F
          rw [hy'] at hr
          rw [hx'] at hq
          have hds := rest_step T' v F (by omega)
          rw [hx', hy'] at hds
          have hr2 := Nat.div_le_self (y' + v) F
          obtain ⟨z, hz⟩ : ∃ z, y' + v = z := ⟨_, rfl⟩
          rw [hz] at hds hr2
          have e1 : IntKind.i64.wrap ((y' : Int) + (v : Int)) = (z : Int) := by rw [IntWalk.i64_in _ (by omega)]; omega
          have e2 : (z : Int) / (F : Int) = ((z / F : Nat) : Int) := rfl
          have e3 : (z : Int) % (F : Int) = ((z % F : Nat) : Int) := rfl
          generalize z / F = z1 at *
          generalize z % F = z2 at *
          have b1 : (z1 : Int) ≤ 562949953421312 := by omega
          have b2 : (x' : Int) ≤ 28147497671065600 := by omega
          have HDS := Lib.hid hds; clear hds hx' hy' hz
          go_wp2
          go_roundw
          case rel => exact ⟨j + 1, m, T' + v, x' + z1, z2, by omega, by go_num, by have := HT'.out; rw [HV.out] at this ⊢; rw [show ((j + 1 : Nat) : Int) = (j : Int) + 1 by omega, Int.add_mul]; omega, HDS.out.1, HDS.out.2, by go_num, by rw [e3], hrow, hB⟩
          case measure => simp [intOf]
    · have h3 : ¬ (k : Int) < (n : Int) := by omega
      obtain rfl : k = n := by omega
      obtain rfl : T = S := by have := HT.out; rw [HS.out] at this; omega
      obtain rfl : q = x := HQ.out.symm.trans HX.out
      obtain rfl : r = y := HR.out.symm.trans HY.out
      have e1 := HE1.out
      have e2 := HE2.out
      go_wp2_with (go_at_call 70; refine (HLC.out _).mono ?_; rintro e w2 ⟨rfl, hx2⟩)
      exact bodyPost_ret (v := .tuple #[.int .i64 ra, .int .i64 lb, .bool true]) (by simp [results, Try.results59]) rfl
        ⟨rfl, hB.trans (hx2.mono hB.size)⟩
theorem in16 {th : Int} (h1 : inB th 0 20 = true) (h2 : inB th 0 16 = false) : 16 < th := by
  have a := inB_iff.1 h1
  have b := inB_false.1 h2
  omega
set_option maxRecDepth 100000 in
set_option maxHeartbeats 400000 in
theorem specAverageAfter_no (s f o : Int) (A : Option Addr) (c : Nat) (sq th : Int) (js : List (Int × Int)) (w : World) (hj : RJ w w.heap.size A js) (hno : (asked s f o js sq && inB th 0 16) = false) :
    Calls Try.prog 32 #[.agg #[.int .i64 s, .int .i64 f, .int .i64 o, .slice A js.length c], .int .i64 sq, .int .i64 th] w (PartIs w 0 0 false) := by
  have hl := hj.1
  cases ha : (asked s f o js sq && inB th 0 20)
  · have HA := Lib.hid ha; clear ha hno
    go_enter Try.func32, Try.ntmps32
    go_wp2_with (go_at_call 47; refine (chAsked_any _ _ _ _ _ _ _ _ _ (hj.go (below1 _ _))).mono ?_; rintro e w2 ⟨rfl, hx⟩; rw [HA.out])
    exact bodyPost_ret (v := .tuple #[.int .i64 0, .int .i64 0, .bool false]) (by simp [results, Try.results32]) rfl
      ⟨rfl, (below1 _ _).trans (hx.mono (by simp))⟩
  · have ha1 := ha
    rw [Bool.and_eq_true] at ha1
    rw [ha1.1, Bool.true_and] at hno
    have h16 := in16 ha1.2 hno
    have HA := Lib.hid ha; clear ha hno ha1
    go_enter Try.func32, Try.ntmps32
    go_wp2_with (go_at_call 47; refine (chAsked_any _ _ _ _ _ _ _ _ _ (hj.go (below1 _ _))).mono ?_; rintro e w2 ⟨rfl, hx⟩; rw [HA.out])
    exact bodyPost_ret (v := .tuple #[.int .i64 0, .int .i64 0, .bool false]) (by simp [results, Try.results32]) rfl
      ⟨rfl, (below1 _ _).trans (hx.mono (by simp))⟩

set_option maxRecDepth 100000 in
set_option maxHeartbeats 1000000 in
theorem specAverageAfter_yes (s f o : Int) (A : Option Addr) (c : Nat) (sq : Int) (t F S : Nat) (js : List (Int × Int)) (w : World) (hj : RJ w w.heap.size A js) (ha : asked s f o js sq = true) (ht : t ≤ 16) (hF : f ^ t = (F : Int)) (hS : avS (fun i => pl s f o js sq t i) (nsq s) = (S : Int)) :
    Calls Try.prog 32 #[.agg #[.int .i64 s, .int .i64 f, .int .i64 o, .slice A js.length c], .int .i64 sq, .int .i64 t] w (PartIs w (lowA S F) (lowB S F) true) := by
  have hl := hj.1
  have hz := good_sizes (asked_good ha)
  have HA := Lib.hid (show (asked s f o js sq && inB t 0 20) = true by rw [ha, inB_iff.2 ⟨by omega, by omega⟩]; rfl)
  have hps := pl_all (asked_good ha) (asked_on ha) t
  rw [hF] at hps
  have h16 : ¬ (16 : Int) < (t : Int) := by omega
  have hn1 : nsq s ≤ 101 := by unfold nsq; omega
  have HA1 := Lib.hid ha; have HF := Lib.hid hF; have HS := Lib.hid hS; have HPS := Lib.hid hps
  clear ha hF hS hps
  go_enter Try.func32, Try.ntmps32
  go_wp2_with fail
  refine (chAsked_any _ _ _ _ _ _ _ _ _ (hj.go (below1 _ _))).mono ?_
  rintro e w3 ⟨rfl, hx⟩
  rw [HA.out]
  have hb3 := box_on (Below.refl _ _) hx (by simp)
  have hb3d := hb3.drew
  have q3 := boxcells hb3
  go_wp2_with fail
  refine wp_region_held_drew (S := (fun w' => Below (w.heap.size + 1) (w.alloc (.cells #[.int .i64 s, .int .i64 f, .int .i64 o, .slice A js.length c] 31)) w' ∧ (∀ i, w'.cell? ⟨w.heap.size, i, none⟩ = #[.int .i64 s, .int .i64 f, .int .i64 o, .slice A js.length c][i]?))) (by kernel_rfl) ⟨hb3d, boxcells hb3d⟩ (fun hS => ?_)
  refine wpAnyH_take (i := 0) (oi := ⟨some 18, _, _, _, _, _⟩) (v := ?va0) rfl (by kernel_rfl) (by kernel_rfl) (by kernel_rfl) (fun _ _ _ h => h) (Or.inl ⟨by rfl, ?ha0⟩) hS ?ra0
  case ha0 => (intro w' hSw; (try dsimp only at hSw); go_simp; (try with_reducible rfl))
  try simp only [Act.put, List.setIfInBounds_toArray, List.set_cons_zero, List.set_cons_succ]
  refine wpAnyH_take (i := 1) (oi := ⟨some 19, _, _, _, _, _⟩) (v := ?va1) rfl (by kernel_rfl) (by kernel_rfl) (by kernel_rfl) (fun _ _ _ h => h) (Or.inl ⟨by rfl, ?ha1⟩) hS ?ra1
  case ha1 => (intro w' hSw; (try dsimp only at hSw); go_simp; (try with_reducible rfl))
  try simp only [Act.put, List.setIfInBounds_toArray, List.set_cons_zero, List.set_cons_succ]
  refine wpAnyH_take (i := 2) (oi := ⟨some 20, _, _, _, _, _⟩) (v := ?va2) rfl (by kernel_rfl) (by kernel_rfl) (by kernel_rfl) (fun _ _ _ h => h) (Or.inl ⟨by rfl, ?ha2⟩) hS ?ra2
  case ha2 => (intro w' hSw; (try dsimp only at hSw); go_simp; (try with_reducible rfl))
  try simp only [Act.put, List.setIfInBounds_toArray, List.set_cons_zero, List.set_cons_succ]
  refine wpAnyH_take (i := 3) (oi := ⟨some 21, _, _, _, _, _⟩) (v := ?va3) rfl (by kernel_rfl) (by kernel_rfl) (by kernel_rfl) (fun _ _ _ h => h) (Or.inl ⟨by rfl, ?ha3⟩) hS ?ra3
  case ha3 => (intro w' hSw; (try dsimp only at hSw); go_simp; (try with_reducible rfl))
  try simp only [Act.put, List.setIfInBounds_toArray, List.set_cons_zero, List.set_cons_succ]
  refine wpAnyH_take (i := 5) (oi := ⟨some 23, _, _, _, _, _⟩) (v := ?va5) rfl (by kernel_rfl) (by kernel_rfl) (by kernel_rfl) (fun _ _ _ h => h) (Or.inl ⟨by rfl, ?ha5⟩) hS ?ra5
  case ha5 => (intro w' hSw; (try dsimp only at hSw); go_simp; (try with_reducible rfl))
  try simp only [Act.put, List.setIfInBounds_toArray, List.set_cons_zero, List.set_cons_succ]
  refine wpAnyH_ready (rs := [4]) (by kernel_rfl) (by simp) ?_
  refine AllReadyH.cons (o := ⟨some 22, _, _, _, _, _⟩) rfl (fun K' hK' => ?_) AllReadyH.nil
  go_simp
  go_at_call 48
  refine (chPlaces_any _ _ _ _ _ _ t _ _ (hj.go ((below1 _ _).trans (hb3d.mono (by omega)))) HA1.out (by omega)).mono ?_
  rintro e w4 ⟨g, rfl, hgg, hrow, hx4⟩
  have k1 := box_on hb3d hx4 (by have := hb3d.size; simpa using this)
  refine hK'.out _ _ ⟨k1, boxcells k1⟩ (fun _ => ?_)
  clear hK' K'
  try simp only [Act.put, List.setIfInBounds_toArray, List.set_cons_zero, List.set_cons_succ]
  refine wpAnyH_ready (rs := [6]) (by kernel_rfl) (by simp) ?_
  refine AllReadyH.cons (o := ⟨some 24, _, _, _, _, _⟩) rfl (fun K' hK' => ?_) AllReadyH.nil
  go_simp
  go_at_call 59
  refine (chAverage_any s f o A c js g (nsq s) t F S _ _ hz.2.1.1 hz.2.1.2 ht HF.out hrow hn1 (fun i => pl_nonneg _ _ _ _ _ _ _) HPS.out HS.out).mono ?_
  rintro e w5 ⟨rfl, hx5⟩
  have k2 := box_on k1 hx5 (by have := k1.size; simpa using this)
  refine hK'.out _ _ ⟨k2, boxcells k2⟩ (fun _ => ?_)
  clear hK' K'
  try simp only [Act.put, List.setIfInBounds_toArray, List.set_cons_zero, List.set_cons_succ]
  refine wpAnyH_take (i := 7) (oi := ⟨some 25, _, _, _, _, _⟩) (v := ?va7) rfl (by kernel_rfl) (by kernel_rfl) (by kernel_rfl) (fun _ _ _ h => h) (Or.inl ⟨by rfl, ?ha7⟩) ⟨k2, boxcells k2⟩ ?ra7
  case ha7 => (intro w' hSw; (try dsimp only at hSw); go_simp; (try with_reducible rfl))
  try simp only [Act.put, List.setIfInBounds_toArray, List.set_cons_zero, List.set_cons_succ]
  refine wpAnyH_take (i := 8) (oi := ⟨some 26, _, _, _, _, _⟩) (v := ?va8) rfl (by kernel_rfl) (by kernel_rfl) (by kernel_rfl) (fun _ _ _ h => h) (Or.inl ⟨by rfl, ?ha8⟩) ⟨k2, boxcells k2⟩ ?ra8
  case ha8 => (intro w' hSw; (try dsimp only at hSw); go_simp; (try with_reducible rfl))
  try simp only [Act.put, List.setIfInBounds_toArray, List.set_cons_zero, List.set_cons_succ]
  refine wpAnyH_take (i := 9) (oi := ⟨some 27, _, _, _, _, _⟩) (v := ?va9) rfl (by kernel_rfl) (by kernel_rfl) (by kernel_rfl) (fun _ _ _ h => h) (Or.inl ⟨by rfl, ?ha9⟩) ⟨k2, boxcells k2⟩ ?ra9
  case ha9 => (intro w' hSw; (try dsimp only at hSw); go_simp; (try with_reducible rfl))
  try simp only [Act.put, List.setIfInBounds_toArray, List.set_cons_zero, List.set_cons_succ]
  refine wpAnyH_ready (rs := [10]) (by kernel_rfl) (by simp) ?_
  refine AllReadyH.cons (o := ⟨some 6, _, _, _, _, _⟩) rfl (fun K' hK' => ?_) AllReadyH.nil
  go_simp
  refine hK'.out _ _ ⟨k2, boxcells k2⟩ (fun _ => ?_)
  clear hK' K'
  try simp only [Act.put, List.setIfInBounds_toArray, List.set_cons_zero, List.set_cons_succ]
  refine wpAnyH_ready (rs := [11]) (by kernel_rfl) (by simp) ?_
  refine AllReadyH.cons (o := ⟨some 7, _, _, _, _, _⟩) rfl (fun K' hK' => ?_) AllReadyH.nil
  go_simp
  refine hK'.out _ _ ⟨k2, boxcells k2⟩ (fun _ => ?_)
  clear hK' K'
  try simp only [Act.put, List.setIfInBounds_toArray, List.set_cons_zero, List.set_cons_succ]
  refine wpAnyH_ready (rs := [12]) (by kernel_rfl) (by simp) ?_
  refine AllReadyH.cons (o := ⟨some 8, _, _, _, _, _⟩) rfl (fun K' hK' => ?_) AllReadyH.nil
  go_simp
  refine hK'.out _ _ ⟨k2, boxcells k2⟩ (fun _ => ?_)
  clear hK' K'
  try simp only [Act.put, List.setIfInBounds_toArray, List.set_cons_zero, List.set_cons_succ]
  refine wpAnyH_done (by kernel_rfl) ?_ _
  go_wp2
  exact bodyPost_ret (v := .tuple #[.int .i64 (lowA S F), .int .i64 (lowB S F), .bool true]) (by simp [results, Try.results32]) rfl
    ⟨rfl, (below1 _ _).trans (k2.mono (by omega))⟩

set_option maxRecDepth 100000 in
set_option maxHeartbeats 400000 in
theorem implAverageAfter_no (s f o : Int) (A : Option Addr) (c : Nat) (sq th : Int) (js : List (Int × Int)) (w : World) (hj : RJ w w.heap.size A js) (hno : (asked s f o js sq && inB th 0 16) = false) :
    Calls Try.prog 33 #[.agg #[.int .i64 s, .int .i64 f, .int .i64 o, .slice A js.length c], .int .i64 sq, .int .i64 th] w (PartIs w 0 0 false) := by
  have hl := hj.1
  have hn : (asked s f o js sq && decide (0 ≤ th) && decide (th ≤ 16)) = false := by rw [Bool.and_assoc]; exact hno
  have hst := fun w => storeWalk 0 0 0 (fun _ => 0) 0 0 none none w
  have HN := Lib.hid hn; clear hn hno
  go_enter Try.func33, Try.ntmps33
  go_wp2_with (go_at_call 50; refine (walkHome_no _ _ _ _ _ _ _ _ _ _ (hj.go (below1 _ _)) HN.out).mono ?_; rintro e w2 ⟨rfl, hx⟩)
  exact bodyPost_ret (v := .tuple #[.int .i64 0, .int .i64 0, .bool false]) (by simp [results, Try.results33]) rfl
    ⟨rfl, ((below1 _ _).trans (hx.mono (by simp))).alloc (by have := hx.size; simp at this; omega) _⟩

set_option maxRecDepth 100000 in
set_option maxHeartbeats 400000 in
theorem implAverageAfter_yes (s f o : Int) (A : Option Addr) (c : Nat) (sq : Int) (t F S : Nat) (js : List (Int × Int)) (w : World) (hj : RJ w w.heap.size A js) (ha : asked s f o js sq = true) (ht : t ≤ 16) (hF : f ^ t = (F : Int)) (hS : avS (fun i => pl s f o js sq t i) (nsq s) = (S : Int)) :
    Calls Try.prog 33 #[.agg #[.int .i64 s, .int .i64 f, .int .i64 o, .slice A js.length c], .int .i64 sq, .int .i64 t] w (PartIs w (lowA S F) (lowB S F) true) := by
  have hl := hj.1
  have hz := good_sizes (asked_good ha)
  have ht1 : (t : Int) ≤ 16 := by omega
  have hp := pow_lt48 hz.2.1.1 hz.2.1.2 ht
  have hF1 : F ≤ 281474976710656 := by omega
  have hF2 : 1 ≤ F := by omega
  obtain ⟨P, hP⟩ : ∃ P : Nat → Int, P = fun i : Nat => pl s f o js sq t i := ⟨_, rfl⟩
  have hP0 : ∀ i, 0 ≤ P i := fun i => by rw [hP]; exact pl_nonneg _ _ _ _ _ _ _
  have hn1 : nsq s ≤ 101 := by unfold nsq; omega
  have hPz : ∀ i : Nat, nsq s ≤ i → i < 101 → P i = 0 := fun i h1 _ => by
    rw [hP]
    by_cases h : pl s f o js sq t i = 0
    · exact h
    · have := pl_on (asked_good ha) (asked_on ha) t i h
      unfold nsq at h1; omega
  have hall := pl_all (asked_good ha) (asked_on ha) t
  rw [← hP] at hS
  have hps : sumTo P 101 = (F : Int) := by rw [sumTo_ext hn1 hPz, ← hF, ← hall, hP]
  have hS2 : avS P 101 = (S : Int) := by rw [← hS]; exact sumTo_ext hn1 fun i h1 h2 => by rw [hPz i h1 h2, Int.mul_zero]
  have hSb : S ≤ 28147497671065600 := by
    have h := sumTo_total (F := P) 100 101 hP0 (fun i => (i : Int)) (fun i hi => ⟨by omega, by omega⟩)
    rw [hps] at h
    have e : sumTo (fun i => (i : Int) * P i) 101 = (S : Int) := hS2
    omega
  have hsum : ∀ q, ct s f o js s sq t q false + ct s f o js s sq t q true ≤ 1152921504606846976 := fun q => by
    rw [ct_pl]
    have := pl_le (asked_good ha) (asked_on ha) t q
    omega
  have hct : (fun i : Nat => ct s f o js s sq t i false + ct s f o js s sq t i true) = P := by rw [hP]; funext i; rw [ct_pl]
  have HA := Lib.hid ha; have HF := Lib.hid hF; have HSUM := Lib.hid hsum; have HP0 := Lib.hid hP0; have HCT := Lib.hid hct; have HPS := Lib.hid hps; have HS := Lib.hid hS2
  clear ha hF hp hP hP0 hPz hall hS hps hS2 hsum hct hn1
  have hst : ∀ (x y : Option Nat) (w : World), (storeCells ⟨w.heap.size, 0, none⟩ (wlkCells s f o (fun i => jumpOf js i) s (f ^ t) x y).toList 0).run Try.prog (w.alloc (.cells Try.zeroCells57 57)) = .ok () (w.alloc (.cells (wlkCells s f o (fun i => jumpOf js i) s (f ^ t) x y) 57)) := fun x y w => storeWalk _ _ _ _ _ _ _ _ w
  go_enter Try.func33, Try.ntmps33
  go_wp2_with fail
  refine (walkHome_yes _ _ _ _ _ _ _ _ _ _ (hj.go (below1 _ _)) HA.out ht1 (by omega)).mono ?_
  rintro e w1 ⟨bl, bb, rfl, l0, b0, hne, l1, b1, hL, hE, hx⟩
  have hs1 := hx.size
  simp only [World.size_alloc] at l0 b0 hs1
  have HNE := Lib.hid hne; clear hne
  have hW : WA (w1.alloc (.cells (wlkCells s f o (fun i => jumpOf js i) s (f ^ t) (some bl) (some bb)) 57)) w1.heap.size s f o (fun i => jumpOf js i) s (f ^ t) (some bl) (some bb) := heap_alloc_at _ _ _ rfl
  have hL1 := hL.alloc (.cells (wlkCells s f o (fun i => jumpOf js i) s (f ^ t) (some bl) (some bb)) 57)
  have hB1 : Below w.heap.size w (w1.alloc (.cells (wlkCells s f o (fun i => jumpOf js i) s (f ^ t) (some bl) (some bb)) 57)) := ((below1 _ _).trans (hx.mono (by simp))).alloc (by omega) _
  clear hL hE
  go_wp2_with fail
  refine (places_any _ _ _ _ _ _ _ _ _ _ _ hW hL1 (fun q m => ct_nonneg _ _ _ _ _ _ _ _ _) HSUM.out).mono ?_
  rintro e w2 ⟨rfl, hx2⟩
  rw [HCT.out]
  have hB2 : Below w.heap.size w w2 := hB1.trans (hx2.mono (by simp; omega))
  have hs2 := hB2.size
  have hall : w2.cell? ⟨w1.heap.size, 105, none⟩ = some (.int .i64 (F : Int)) := by rw [← HF.out]; exact (bcell hx2 (by simp)).trans hW.all
  clear hst hW hL1 hx2
  go_wp2_with fail
  go_loop [11, 26, 12, 13] (fun m i _ _ => ∃ k : Nat, k ≤ 101 ∧ i = .int .i64 (k : Int) ∧ m = .int .i64 (avS P k)) (fun _ i _ _ => 101 - (intOf i).toNat)
  case atStart => exact ⟨0, Nat.zero_le _, rfl, rfl⟩
  case round =>
    obtain ⟨k, hk, rfl, rfl⟩ := hrel
    by_cases hlt : k < 101
    · have h3 : (k : Int) < 101 := by omega
      have d1 := fun w => arrIdx P hlt w
      have p1 := avS_part HP0.out (m := k) (j := k) (Nat.le_refl k) 101 hlt (Nat.le_refl _)
      have p2 := avS_part HP0.out (m := k) (j := 0) (Nat.zero_le k) 101 hlt (Nat.le_refl _)
      rw [HPS.out] at p1 p2
      have p3 := Int.mul_nonneg (show (0 : Int) ≤ (k : Int) by omega) (HP0.out k)
      simp only [Int.ofNat_zero, Int.zero_mul, Int.add_zero] at p2
      have e1 : IntKind.i64.wrap ((k : Int) * P k) = (k : Int) * P k := IntWalk.i64_in _ (by omega)
      have e2 : IntKind.i64.wrap (avS P k + (k : Int) * P k) = avS P (k + 1) := by rw [IntWalk.i64_in _ (by omega)]; rfl
      clear p1 p2 p3
      go_wp2
      go_round
      case rel => exact ⟨k + 1, hlt, by go_num, rfl⟩
      case measure => simp [intOf]; omega
    · have h3 : ¬ (k : Int) < 101 := by omega
      obtain rfl : k = 101 := by omega
      rw [HS.out]
      go_wp2_with (go_at_call 57; refine (lowest_any S F _ (by omega) (by omega) hF2).mono ?_; rintro e w5 ⟨rfl, hx5⟩)
      exact bodyPost_ret (v := .tuple #[.int .i64 (lowA S F), .int .i64 (lowB S F), .bool true]) (by simp [results, Try.results33]) rfl
        ⟨rfl, hB2.trans (hx5.mono hB2.size)⟩

theorem averageAfter_both (s f o : Int) (js : List (Int × Int)) (sq th : Int) : ∃ (x y : Int) (ok : Bool),
    (∀ (A : Option Addr) (c : Nat) (W : World), RJ W W.heap.size A js → Calls Try.prog 32 #[.agg #[.int .i64 s, .int .i64 f, .int .i64 o, .slice A js.length c], .int .i64 sq, .int .i64 th] W (PartIs W x y ok)) ∧
    (∀ (A : Option Addr) (c : Nat) (W : World), RJ W W.heap.size A js → Calls Try.prog 33 #[.agg #[.int .i64 s, .int .i64 f, .int .i64 o, .slice A js.length c], .int .i64 sq, .int .i64 th] W (PartIs W x y ok)) := by
  cases h : (asked s f o js sq && inB th 0 16)
  · exact ⟨0, 0, false, fun A c W hj => specAverageAfter_no s f o A c sq th js W hj h, fun A c W hj => implAverageAfter_no s f o A c sq th js W hj h⟩
  · rw [Bool.and_eq_true] at h
    have hz := good_sizes (asked_good h.1)
    have hth := inB_iff.1 h.2
    obtain ⟨t, rfl⟩ := Int.eq_ofNat_of_zero_le hth.1
    have hS0 : 0 ≤ avS (fun i => pl s f o js sq t i) (nsq s) := sumTo_nonneg _ fun i _ => Int.mul_nonneg (by omega) (pl_nonneg _ _ _ _ _ _ _)
    obtain ⟨S, hS⟩ := Int.eq_ofNat_of_zero_le hS0
    have hF := natpow (show 0 ≤ f by omega) t
    exact ⟨lowA S (f.toNat ^ t), lowB S (f.toNat ^ t), true, fun A c W hj => specAverageAfter_yes s f o A c sq t _ S js W hj h.1 (by omega) hF hS, fun A c W hj => implAverageAfter_yes s f o A c sq t _ S js W hj h.1 (by omega) hF hS⟩
end Go.Proofs.Ytiekdokgjdgajab

/-
  AheadAfter, the model's and the program's.
-/
import Derived.Test.YtiekdokgjdgajabC2q
import Derived.Test.YtiekdokgjdgajabC2h
import Derived.Test.YtiekdokgjdgajabC2i
namespace Go.Proofs.Ytiekdokgjdgajab
open Go.RowKit

/-- Three numbers and a bool are handed back. -/
def AheadIs (w : World) (x y z : Int) (ok : Bool) (e : Ending) (w' : World) : Prop := e = .returned (.tuple #[.int .i64 x, .int .i64 y, .int .i64 z, .bool ok]) ∧ Below w.heap.size w w'
def aheadOk (s f o : Int) (js : List (Int × Int)) (sq ot th : Int) : Bool := asked s f o js sq && onSq s js ot && inB th 0 10
theorem in10 {th : Int} (h1 : inB th 0 20 = true) (h2 : inB th 0 10 = false) : 10 < th := by
  have a := inB_iff.1 h1
  have b := inB_false.1 h2
  omega
/-- The terms that a round adds are small. -/
theorem ahead_sum {R : Nat → Nat → Bool} {n m : Nat → Int} (hn : ∀ i, 0 ≤ n i) (hm : ∀ i, 0 ≤ m i) {x N j M : Nat} (hx : x < N) (hj : j < M) (hb : sumTo n N * sumTo m M ≤ 1152921504606846976) :
    (0 ≤ prs R n m x M + rowP R n m x j ∧ prs R n m x M + rowP R n m x j ≤ 1152921504606846976) ∧ 0 ≤ n x * m j ∧ n x * m j ≤ 1152921504606846976 := by
  have h1 := prs_part (R := R) hn hm hx (Nat.le_of_lt hj)
  have h2 := prs_part (R := fun _ _ => true) hn hm hx (j := j + 1) hj
  have h3 := prs_part (R := fun _ _ => true) hn hm hx (Nat.le_of_lt hj)
  rw [rowP_succ] at h2
  simp only [if_true] at h2
  have h4 := Int.mul_nonneg (hn x) (hm j)
  exact ⟨⟨h1.1, by omega⟩, h4, by omega⟩
theorem sq20 {f : Int} (h1 : 1 ≤ f) (h8 : f ≤ 8) {t : Nat} (ht : t ≤ 10) : f ^ t * f ^ t ≤ 1152921504606846976 := by
  rw [← Int.pow_add]
  exact (pow_lt63 h1 h8 (show t + t ≤ 20 by omega)).2

set_option maxRecDepth 100000 in
set_option maxHeartbeats 400000 in
theorem specAheadAfter_no (s f o : Int) (A : Option Addr) (c : Nat) (sq ot th : Int) (js : List (Int × Int)) (w : World) (hj : RJ w w.heap.size A js) (hno : aheadOk s f o js sq ot th = false) :
    Calls Try.prog 44 #[.agg #[.int .i64 s, .int .i64 f, .int .i64 o, .slice A js.length c], .int .i64 sq, .int .i64 ot, .int .i64 th] w (AheadIs w 0 0 0 false) := by
  have hl := hj.1
  cases ha : (asked s f o js sq && inB th 0 20)
  · have HA := Lib.hid ha; clear ha hno
    go_enter Try.func44, Try.ntmps44
    go_wp2_with (go_at_call 47; refine (chAsked_any _ _ _ _ _ _ _ _ _ (hj.go (below1 _ _))).mono ?_; rintro e w2 ⟨rfl, hx⟩; rw [HA.out])
    exact bodyPost_ret (v := .tuple #[.int .i64 0, .int .i64 0, .int .i64 0, .bool false]) (by simp [results, Try.results44]) rfl ⟨rfl, (below1 _ _).trans (hx.mono (by simp))⟩
  · have ha1 := ha
    rw [Bool.and_eq_true] at ha1
    rw [aheadOk, ha1.1, Bool.true_and] at hno
    have HA := Lib.hid ha; clear ha
    cases hto : onSq s js ot
    · have HTO := Lib.hid hto; clear hto hno ha1
      go_enter Try.func44, Try.ntmps44
      go_wp2_with fail
      refine (chAsked_any _ _ _ _ _ _ _ _ _ (hj.go (below1 _ _))).mono ?_
      rintro e w2 ⟨rfl, hx⟩
      rw [HA.out]
      have hb := box_on (Below.refl _ _) hx (by simp)
      have q := boxcells hb
      have hB2 := (below1 w (.cells #[.int .i64 s, .int .i64 f, .int .i64 o, .slice A js.length c] 31)).trans (hb.mono (by omega))
      go_wp2_with (go_at_call 54; refine (sqSquare_any _ _ _ _ _ _ _ _ (hj.go hB2)).mono ?_; rintro e w3 ⟨rfl, hx3⟩; rw [HTO.out])
      exact bodyPost_ret (v := .tuple #[.int .i64 0, .int .i64 0, .int .i64 0, .bool false]) (by simp [results, Try.results44]) rfl ⟨rfl, hB2.trans (hx3.mono hB2.size)⟩
    · rw [hto, Bool.true_and] at hno
      have h10 := in10 ha1.2 hno
      have HTO := Lib.hid hto; clear hto hno ha1
      go_enter Try.func44, Try.ntmps44
      go_wp2_with fail
      refine (chAsked_any _ _ _ _ _ _ _ _ _ (hj.go (below1 _ _))).mono ?_
      rintro e w2 ⟨rfl, hx⟩
      rw [HA.out]
      have hb := box_on (Below.refl _ _) hx (by simp)
      have q := boxcells hb
      have hB2 := (below1 w (.cells #[.int .i64 s, .int .i64 f, .int .i64 o, .slice A js.length c] 31)).trans (hb.mono (by omega))
      go_wp2_with (go_at_call 54; refine (sqSquare_any _ _ _ _ _ _ _ _ (hj.go hB2)).mono ?_; rintro e w3 ⟨rfl, hx3⟩; rw [HTO.out])
      exact bodyPost_ret (v := .tuple #[.int .i64 0, .int .i64 0, .int .i64 0, .bool false]) (by simp [results, Try.results44]) rfl ⟨rfl, hB2.trans (hx3.mono hB2.size)⟩

set_option maxRecDepth 100000 in
set_option maxHeartbeats 1000000 in
theorem specAheadAfter_yes (s f o : Int) (A : Option Addr) (c : Nat) (sq ot : Int) (t : Nat) (js : List (Int × Int)) (w : World) (hj : RJ w w.heap.size A js) (hyes : aheadOk s f o js sq ot t = true) (N M : Nat → Int) (nn : Nat) (hN : N = fun i : Nat => pl s f o js sq t i) (hM : M = fun i : Nat => pl s f o js ot t i) (hnn : nn = nsq s) :
    Calls Try.prog 44 #[.agg #[.int .i64 s, .int .i64 f, .int .i64 o, .slice A js.length c], .int .i64 sq, .int .i64 ot, .int .i64 t] w (AheadIs w (prs isAfter N M nn nn) (prs isAt N M nn nn) (prs isBefore N M nn nn) true) := by
  have hl := hj.1
  simp only [aheadOk, Bool.and_eq_true] at hyes
  obtain ⟨⟨ha, hto⟩, hth⟩ := hyes
  have hz := good_sizes (asked_good ha)
  have hth' := inB_iff.1 hth
  have ht10 : t ≤ 10 := by omega
  have hao : asked s f o js ot = true := by rw [asked, asked_good ha, hto]; rfl
  have hs1 := pl_all (asked_good ha) (asked_on ha) t
  have hs2 := pl_all (asked_good ha) hto t
  have hsq := sq20 hz.2.1.1 hz.2.1.2 ht10
  have hb : sumTo N nn * sumTo M nn ≤ 1152921504606846976 := by rw [hN, hM, hnn, hs1, hs2]; exact hsq
  have hN0 : ∀ i, 0 ≤ N i := fun i => by rw [hN]; exact pl_nonneg _ _ _ _ _ _ _
  have hM0 : ∀ i, 0 ≤ M i := fun i => by rw [hM]; exact pl_nonneg _ _ _ _ _ _ _
  have hn1 : nn ≤ 101 := by rw [hnn]; unfold nsq; omega
  have HA := Lib.hid (show (asked s f o js sq && inB t 0 20) = true by rw [ha, inB_iff.2 ⟨by omega, by omega⟩]; rfl)
  have h10 : ¬ (10 : Int) < (t : Int) := by omega
  have HA1 := Lib.hid ha; have HTO := Lib.hid hto; have HAO := Lib.hid hao; have HN := Lib.hid hN; have HM := Lib.hid hM; have HNN := Lib.hid hnn; have HB := Lib.hid hb; have HN0 := Lib.hid hN0; have HM0 := Lib.hid hM0
  clear ha hto hth hao hs1 hs2 hsq hN hM hnn hb hN0 hM0
  go_enter Try.func44, Try.ntmps44
  go_wp2_with fail
  refine (chAsked_any _ _ _ _ _ _ _ _ _ (hj.go (below1 _ _))).mono ?_
  rintro e w2 ⟨rfl, hx⟩
  rw [HA.out]
  have hb := box_on (Below.refl _ _) hx (by simp)
  have q := boxcells hb
  have hB2 := (below1 w (.cells #[.int .i64 s, .int .i64 f, .int .i64 o, .slice A js.length c] 31)).trans (hb.mono (by omega))
  go_wp2_with fail
  refine (sqSquare_any _ _ _ _ _ _ _ _ (hj.go hB2)).mono ?_
  rintro e w3 ⟨rfl, hx3⟩
  rw [HTO.out]
  have hb3 := (box_on hb hx3 (by have := hb.size; simpa using this))
  have q3 := boxcells hb3
  have hB3 := (below1 w (.cells #[.int .i64 s, .int .i64 f, .int .i64 o, .slice A js.length c] 31)).trans (hb3.mono (by omega))
  clear q hb hx hx3
  go_wp2_with fail
  refine (chPlaces_any _ _ _ _ _ _ t _ _ (hj.go hB3) HAO.out (by omega)).mono ?_
  rintro e w4 ⟨g2, rfl, hg2, hrow2, hx4⟩
  rw [← HM.out, ← HNN.out] at hrow2
  rw [← HNN.out]
  have hb4 := (box_on hb3 hx4 (by have := hb3.size; simpa using this))
  have q4 := boxcells hb4
  have hB4 := (below1 w (.cells #[.int .i64 s, .int .i64 f, .int .i64 o, .slice A js.length c] 31)).trans (hb4.mono (by omega))
  clear q3 hx4
  go_wp2_with fail
  refine (chPlaces_any _ _ _ _ _ _ t _ _ (hj.go hB4) HA1.out (by omega)).mono ?_
  rintro e w5 ⟨g1, rfl, hg1, hrow1, hx5⟩
  rw [← HN.out, ← HNN.out] at hrow1
  rw [← HNN.out]
  replace hrow2 := hrow2.below hx5 hrow2.lt
  have hB5 := hB4.trans (hx5.mono hB4.size)
  clear q4 hx5 hb4 hb3
  have HR1 := Lib.hid hrow1; have HR2 := Lib.hid hrow2; clear hrow1 hrow2
  go_wp2_with fail
  go_loop [12, 13, 14, 44, 16, 17, 18, 19, 51, 61, 70] (fun a b d i _ _ _ _ _ _ _ => ∃ k : Nat, k ≤ nn ∧ i = .int .i64 (k : Int) ∧ a = .int .i64 (prs isAfter N M k nn) ∧ b = .int .i64 (prs isAt N M k nn) ∧ d = .int .i64 (prs isBefore N M k nn)) (fun _ _ _ i _ _ _ _ _ _ _ => nn - (intOf i).toNat)
  case atStart => exact ⟨0, Nat.zero_le _, rfl, rfl, rfl, rfl⟩
  case round =>
    obtain ⟨k, hk, rfl, rfl, rfl, rfl⟩ := hrel
    by_cases hlt : k < nn
    · have h3 : (k : Int) < (nn : Int) := by omega
      have d1 := HR1.out.cell hlt
      go_wp2
      go_loop [12, 13, 14, 51, 18, 19, 61, 70] (fun a b d i _ _ _ _ => ∃ j : Nat, j ≤ nn ∧ i = .int .i64 (j : Int) ∧ a = .int .i64 (prs isAfter N M k nn + rowP isAfter N M k j) ∧ b = .int .i64 (prs isAt N M k nn + rowP isAt N M k j) ∧ d = .int .i64 (prs isBefore N M k nn + rowP isBefore N M k j)) (fun _ _ _ i _ _ _ _ => nn - (intOf i).toNat)
      case atStart => exact ⟨0, Nat.zero_le _, rfl, by simp [rowP, sumTo], by simp [rowP, sumTo], by simp [rowP, sumTo]⟩
      case round =>
        clear d1
        obtain ⟨j, hj', rfl, rfl, rfl, rfl⟩ := hrel
        by_cases hlj : j < nn
        · have h4 : (j : Int) < (nn : Int) := by omega
          have d2 := HR2.out.cell hlj
          have s1 := ahead_sum (R := isAfter) HN0.out HM0.out hlt hlj HB.out
          have s2 := ahead_sum (R := isAt) HN0.out HM0.out hlt hlj HB.out
          have s3 := ahead_sum (R := isBefore) HN0.out HM0.out hlt hlj HB.out
          have e0 : IntKind.i64.wrap (N k * M j) = N k * M j := IntWalk.i64_in _ (by omega)
          rcases Nat.lt_trichotomy j k with h | h | h
          · have e1 : IntKind.i64.wrap (prs isAfter N M k nn + rowP isAfter N M k j + N k * M j) = prs isAfter N M k nn + rowP isAfter N M k j + N k * M j := IntWalk.i64_in _ (by omega)
            clear s1 s2 s3
            have t1 : (j : Int) < (k : Int) := by omega
            go_wp2
            go_round
            case rel => exact ⟨j + 1, hlj, by go_num, by rw [rowP_succ, isAfter, if_pos (by simpa using h), ← Int.add_assoc], by rw [rowP_succ, isAt, if_neg (by simp; omega), Int.add_zero], by rw [rowP_succ, isBefore, if_neg (by simp; omega), Int.add_zero]⟩
            case measure => simp [intOf]; omega
          · have e1 : IntKind.i64.wrap (prs isAt N M k nn + rowP isAt N M k j + N k * M j) = prs isAt N M k nn + rowP isAt N M k j + N k * M j := IntWalk.i64_in _ (by omega)
            clear s1 s2 s3
            have t1 : ¬ (j : Int) < (k : Int) := by omega
            have t2 : ((k : Int) == (j : Int)) = true := by simp; omega
            have H := Lib.hid h; clear h
            go_wp2
            go_round
            case rel => exact ⟨j + 1, hlj, by go_num, by rw [rowP_succ, isAfter, if_neg (by have := H.out; simp; omega), Int.add_zero], by rw [rowP_succ, isAt, if_pos (by have := H.out; simp; omega), ← Int.add_assoc], by rw [rowP_succ, isBefore, if_neg (by have := H.out; simp; omega), Int.add_zero]⟩
            case measure => simp [intOf]; omega
          · have e1 : IntKind.i64.wrap (prs isBefore N M k nn + rowP isBefore N M k j + N k * M j) = prs isBefore N M k nn + rowP isBefore N M k j + N k * M j := IntWalk.i64_in _ (by omega)
            clear s1 s2 s3
            have t1 : ¬ (j : Int) < (k : Int) := by omega
            have t2 : ((k : Int) == (j : Int)) = false := by simp; omega
            go_wp2
            go_round
            case rel => exact ⟨j + 1, hlj, by go_num, by rw [rowP_succ, isAfter, if_neg (by simp; omega), Int.add_zero], by rw [rowP_succ, isAt, if_neg (by simp; omega), Int.add_zero], by rw [rowP_succ, isBefore, if_pos (by simp; omega), ← Int.add_assoc]⟩
            case measure => simp [intOf]; omega
        · have h4 : ¬ (j : Int) < (nn : Int) := by omega
          obtain rfl : j = nn := by omega
          go_wp2
          go_round
          case rel => exact ⟨k + 1, hlt, by go_num, rfl, rfl, rfl⟩
          case measure => simp [intOf]; omega
    · have h3 : ¬ (k : Int) < (nn : Int) := by omega
      obtain rfl : k = nn := by omega
      go_wp2
      exact bodyPost_ret (v := .tuple #[.int .i64 (prs isAfter N M k k), .int .i64 (prs isAt N M k k), .int .i64 (prs isBefore N M k k), .bool true]) (by simp [results, Try.results44]) rfl ⟨rfl, hB5⟩
set_option maxRecDepth 100000 in
set_option maxHeartbeats 400000 in
theorem implAheadAfter_no (s f o : Int) (A : Option Addr) (c : Nat) (sq ot th : Int) (js : List (Int × Int)) (w : World) (hj : RJ w w.heap.size A js) (hno : aheadOk s f o js sq ot th = false) :
    Calls Try.prog 45 #[.agg #[.int .i64 s, .int .i64 f, .int .i64 o, .slice A js.length c], .int .i64 sq, .int .i64 ot, .int .i64 th] w (AheadIs w 0 0 0 false) := by
  have hl := hj.1
  have hst := fun w => storeWalk 0 0 0 (fun _ => 0) 0 0 none none w
  cases ha : (asked s f o js sq && inB th 0 10)
  · have hn : (asked s f o js sq && decide (0 ≤ th) && decide (th ≤ 10)) = false := by rw [Bool.and_assoc]; exact ha
    have HN := Lib.hid hn; clear hn hno ha
    go_enter Try.func45, Try.ntmps45
    go_wp2_with (go_at_call 50; refine (walkHome_no _ _ _ _ _ _ _ _ _ _ (hj.go (below1 _ _)) HN.out).mono ?_; rintro e w2 ⟨rfl, hx⟩)
    exact bodyPost_ret (v := .tuple #[.int .i64 0, .int .i64 0, .int .i64 0, .bool false]) (by simp [results, Try.results45]) rfl
      ⟨rfl, ((below1 _ _).trans (hx.mono (by simp))).alloc (by have := hx.size; simp at this; omega) _⟩
  · rw [Bool.and_eq_true] at ha
    have hth := inB_iff.1 ha.2
    obtain ⟨t, rfl⟩ := Int.eq_ofNat_of_zero_le hth.1
    have hto : onSq s js ot = false := by
      cases h : onSq s js ot
      · rfl
      · rw [aheadOk, ha.1, h, ha.2] at hno; cases hno
    have hn : (asked s f o js ot && decide (0 ≤ (t : Int)) && decide ((t : Int) ≤ 10)) = false := by rw [asked, hto, Bool.and_false]; rfl
    have HN := Lib.hid hn
    have HA := Lib.hid ha.1
    clear hn hno ha hto
    have hst1 : ∀ (x y : Option Nat) (w : World), (storeCells ⟨w.heap.size, 0, none⟩ (wlkCells s f o (fun i => jumpOf js i) s (f ^ t) x y).toList 0).run Try.prog (w.alloc (.cells Try.zeroCells57 57)) = .ok () (w.alloc (.cells (wlkCells s f o (fun i => jumpOf js i) s (f ^ t) x y) 57)) := fun x y w => storeWalk _ _ _ _ _ _ _ _ w
    go_enter Try.func45, Try.ntmps45
    go_wp2_with fail
    refine (walkHome_yes _ _ _ _ _ _ _ _ _ _ (hj.go (below1 _ _)) HA.out hth.2 (by omega)).mono ?_
    rintro e w1 ⟨bl, bb, rfl, l0, b0, hne, l1, b1, hL, hE, hx⟩
    have HNE := Lib.hid hne; clear hne hL hE
    have hs1 := hx.size
    simp only [World.size_alloc] at hs1
    have hbox := (box_on (Below.refl _ _) hx (by simp)).alloc (by omega) (.cells (wlkCells s f o (fun i => jumpOf js i) s (f ^ t) (some bl) (some bb)) 57)
    have q1 := boxcells hbox
    clear hx
    go_wp2_with fail
    refine (walkHome_no _ _ _ _ _ _ _ _ _ _ (hj.go ((below1 _ _).trans (hbox.mono (by omega)))) HN.out).mono ?_
    rintro e w3 ⟨rfl, hx3⟩
    have hbox3 := box_on hbox hx3 (by simp; omega)
    have hs3 := hbox3.size
    simp only [World.size_alloc] at hs3
    clear q1 hst1
    go_wp2
    exact bodyPost_ret (v := .tuple #[.int .i64 0, .int .i64 0, .int .i64 0, .bool false]) (by simp [results, Try.results45]) rfl
      ⟨rfl, ((below1 _ _).trans (hbox3.mono (by omega))).alloc (by omega) _⟩

set_option maxRecDepth 100000 in
set_option maxHeartbeats 1000000 in
theorem implAheadAfter_yes (s f o : Int) (A : Option Addr) (c : Nat) (sq ot : Int) (t : Nat) (js : List (Int × Int)) (w : World) (hj : RJ w w.heap.size A js) (hyes : aheadOk s f o js sq ot t = true) (N M : Nat → Int) (hN : N = fun i : Nat => pl s f o js sq t i) (hM : M = fun i : Nat => pl s f o js ot t i) (hb : sumTo N 101 * sumTo M 101 ≤ 1152921504606846976) :
    Calls Try.prog 45 #[.agg #[.int .i64 s, .int .i64 f, .int .i64 o, .slice A js.length c], .int .i64 sq, .int .i64 ot, .int .i64 t] w (AheadIs w (prs isAfter N M 101 101) (prs isAt N M 101 101) (prs isBefore N M 101 101) true) := by
  have hl := hj.1
  simp only [aheadOk, Bool.and_eq_true] at hyes
  obtain ⟨⟨ha, hto⟩, hth⟩ := hyes
  have hz := good_sizes (asked_good ha)
  have hth' := inB_iff.1 hth
  have hao : asked s f o js ot = true := by rw [asked, asked_good ha, hto]; rfl
  have hN0 : ∀ i, 0 ≤ N i := fun i => by rw [hN]; exact pl_nonneg _ _ _ _ _ _ _
  have hM0 : ∀ i, 0 ≤ M i := fun i => by rw [hM]; exact pl_nonneg _ _ _ _ _ _ _
  have hp := pow_lt63 hz.2.1.1 hz.2.1.2 (show t ≤ 20 by omega)
  have hsum1 : ∀ q, ct s f o js s sq t q false + ct s f o js s sq t q true ≤ 1152921504606846976 := fun q => by
    rw [ct_pl]
    have := pl_le (asked_good ha) (asked_on ha) t q
    omega
  have hsum2 : ∀ q, ct s f o js s ot t q false + ct s f o js s ot t q true ≤ 1152921504606846976 := fun q => by
    rw [ct_pl]
    have := pl_le (asked_good ha) hto t q
    omega
  have hct1 : (fun i : Nat => ct s f o js s sq t i false + ct s f o js s sq t i true) = N := by rw [hN]; funext i; rw [ct_pl]
  have hct2 : (fun i : Nat => ct s f o js s ot t i false + ct s f o js s ot t i true) = M := by rw [hM]; funext i; rw [ct_pl]
  have HA := Lib.hid ha; have HAO := Lib.hid hao; have HS1 := Lib.hid hsum1; have HS2 := Lib.hid hsum2; have HC1 := Lib.hid hct1; have HC2 := Lib.hid hct2; have HB := Lib.hid hb; have HN0 := Lib.hid hN0; have HM0 := Lib.hid hM0
  clear ha hto hth hao hN0 hM0 hp hsum1 hsum2 hct1 hct2 hb hN hM
  have hst : ∀ (x y : Option Nat) (w : World), (storeCells ⟨w.heap.size, 0, none⟩ (wlkCells s f o (fun i => jumpOf js i) s (f ^ t) x y).toList 0).run Try.prog (w.alloc (.cells Try.zeroCells57 57)) = .ok () (w.alloc (.cells (wlkCells s f o (fun i => jumpOf js i) s (f ^ t) x y) 57)) := fun x y w => storeWalk _ _ _ _ _ _ _ _ w
  have hst2 := fun w => storeArr M w
  go_enter Try.func45, Try.ntmps45
  go_wp2_with fail
  refine (walkHome_yes _ _ _ _ _ _ _ _ _ _ (hj.go (below1 _ _)) HA.out hth'.2 (by omega)).mono ?_
  rintro e w1 ⟨bl, bb, rfl, l0, b0, hne, l1, b1, hL, hE, hx⟩
  have HNE := Lib.hid hne; clear hne hE
  have hs1 := hx.size
  simp only [World.size_alloc] at hs1 l0 b0
  have hW : WA (w1.alloc (.cells (wlkCells s f o (fun i => jumpOf js i) s (f ^ t) (some bl) (some bb)) 57)) w1.heap.size s f o (fun i => jumpOf js i) s (f ^ t) (some bl) (some bb) := heap_alloc_at _ _ _ rfl
  have hL1 := hL.alloc (.cells (wlkCells s f o (fun i => jumpOf js i) s (f ^ t) (some bl) (some bb)) 57)
  have hbox := (box_on (Below.refl _ _) hx (by simp)).alloc (by omega) (.cells (wlkCells s f o (fun i => jumpOf js i) s (f ^ t) (some bl) (some bb)) 57)
  have q1 := boxcells hbox
  clear hx hL
  go_wp2_with fail
  refine (walkHome_yes _ _ _ _ _ _ _ t _ _ (hj.go ((below1 _ _).trans (hbox.mono (by omega)))) HAO.out hth'.2 (by omega)).mono ?_
  rintro e w3 ⟨bl2, bb2, rfl, l2, b2, hne2, l3, b3, hL2, hE2, hx3⟩
  have HNE2 := Lib.hid hne2; clear hne2 hE2
  have hbox3 := box_on hbox hx3 (by simp; omega)
  have hs3 := hbox3.size
  simp only [World.size_alloc] at hs3
  have hs13 := hx3.size
  simp only [World.size_alloc] at hs13
  have hW3 : WA (w3.alloc (.cells (wlkCells s f o (fun i => jumpOf js i) s (f ^ t) (some bl2) (some bb2)) 57)) w1.heap.size s f o (fun i => jumpOf js i) s (f ^ t) (some bl) (some bb) := (Below.heap_alloc _ _ _ (by omega)).trans ((hx3.block _ (by simp)).trans hW)
  have hL3 := (hL1.below hx3 hL1.lt).alloc (.cells (wlkCells s f o (fun i => jumpOf js i) s (f ^ t) (some bl2) (some bb2)) 57)
  have hW4 : WA (w3.alloc (.cells (wlkCells s f o (fun i => jumpOf js i) s (f ^ t) (some bl2) (some bb2)) 57)) w3.heap.size s f o (fun i => jumpOf js i) s (f ^ t) (some bl2) (some bb2) := heap_alloc_at _ _ _ rfl
  have hL4 := hL2.alloc (.cells (wlkCells s f o (fun i => jumpOf js i) s (f ^ t) (some bl2) (some bb2)) 57)
  have hB4 : Below w.heap.size w (w3.alloc (.cells (wlkCells s f o (fun i => jumpOf js i) s (f ^ t) (some bl2) (some bb2)) 57)) := ((below1 _ _).trans (hbox3.mono (by omega))).alloc (by omega) _
  clear hL2 hL1 hW q1 hx3 hbox hbox3
  go_wp2_with fail
  refine (places_any _ _ _ _ _ _ _ _ _ _ _ hW4 hL4 (fun q m => ct_nonneg _ _ _ _ _ _ _ _ _) HS2.out).mono ?_
  rintro e w5 ⟨rfl, hx5⟩
  rw [HC2.out]
  have hs5 := hx5.size
  simp only [World.size_alloc] at hs5
  have hB5 : Below w.heap.size w (w5.alloc (.cells (arrC M) 52)) := (hB4.trans (hx5.mono (by simp; omega))).alloc (by omega) _
  have hA5 : (w5.alloc (.cells (arrC M) 52)).heap[w5.heap.size]? = some (.cells (arrC M) 52 (0, 0)) := heap_alloc_at _ _ _ rfl
  have hW5 : WA (w5.alloc (.cells (arrC M) 52)) w1.heap.size s f o (fun i => jumpOf js i) s (f ^ t) (some bl) (some bb) := (Below.heap_alloc _ _ _ (by omega)).trans ((hx5.block _ (by simp; omega)).trans hW3)
  have hL5 := (hL3.below hx5 hL3.lt).alloc (.cells (arrC M) 52)
  clear hW3 hL3 hW4 hL4 hx5 hB4 hst
  go_wp2_with fail
  refine (places_any _ _ _ _ _ _ _ _ _ _ _ hW5 hL5 (fun q m => ct_nonneg _ _ _ _ _ _ _ _ _) HS1.out).mono ?_
  rintro e w6 ⟨rfl, hx6⟩
  rw [HC1.out]
  have hA6 := (hx6.block _ (heap_lt hA5)).trans hA5
  have hB6 := hB5.trans (hx6.mono hB5.size)
  clear hW5 hL5 hx6 hA5 hB5 hst2
  go_wp2_with fail
  go_loop [15, 16, 17, 43, 19, 20, 21, 22, 48, 57, 66] (fun a b d i _ _ _ _ _ _ _ => ∃ k : Nat, k ≤ 101 ∧ i = .int .i64 (k : Int) ∧ a = .int .i64 (prs isAfter N M k 101) ∧ b = .int .i64 (prs isAt N M k 101) ∧ d = .int .i64 (prs isBefore N M k 101)) (fun _ _ _ i _ _ _ _ _ _ _ => 101 - (intOf i).toNat)
  case atStart => exact ⟨0, Nat.zero_le _, rfl, rfl, rfl, rfl⟩
  case round =>
    obtain ⟨k, hk, rfl, rfl, rfl, rfl⟩ := hrel
    by_cases hlt : k < 101
    · have h3 : (k : Int) < 101 := by omega
      have d1 := fun w => arrIdx N hlt w
      go_wp2_with (refine wpList_load_row rfl 52 _ rfl w5.heap.size rfl _ _ _ _ hA6 Try.underlying52 rfl ?_ ?_; (rw [arr_size]; exact sizeArr))
      go_loop [15, 16, 17, 48, 21, 22, 57, 66] (fun a b d i _ _ _ _ => ∃ j : Nat, j ≤ 101 ∧ i = .int .i64 (j : Int) ∧ a = .int .i64 (prs isAfter N M k 101 + rowP isAfter N M k j) ∧ b = .int .i64 (prs isAt N M k 101 + rowP isAt N M k j) ∧ d = .int .i64 (prs isBefore N M k 101 + rowP isBefore N M k j)) (fun _ _ _ i _ _ _ _ => 101 - (intOf i).toNat)
      case atStart => exact ⟨0, Nat.zero_le _, rfl, by simp [rowP, sumTo], by simp [rowP, sumTo], by simp [rowP, sumTo]⟩
      case round =>
        clear d1
        obtain ⟨j, hj', rfl, rfl, rfl, rfl⟩ := hrel
        by_cases hlj : j < 101
        · have h4 : (j : Int) < 101 := by omega
          have d2 := fun w => arrIdx M hlj w
          have s1 := ahead_sum (R := isAfter) HN0.out HM0.out hlt hlj HB.out
          have s2 := ahead_sum (R := isAt) HN0.out HM0.out hlt hlj HB.out
          have s3 := ahead_sum (R := isBefore) HN0.out HM0.out hlt hlj HB.out
          have e0 : IntKind.i64.wrap (N k * M j) = N k * M j := IntWalk.i64_in _ (by omega)
          rcases Nat.lt_trichotomy j k with h | h | h
          · have e1 : IntKind.i64.wrap (prs isAfter N M k 101 + rowP isAfter N M k j + N k * M j) = prs isAfter N M k 101 + rowP isAfter N M k j + N k * M j := IntWalk.i64_in _ (by omega)
            clear s1 s2 s3
            have t1 : (j : Int) < (k : Int) := by omega
            go_wp2
            go_round
            case rel => exact ⟨j + 1, hlj, by go_num, by rw [rowP_succ, isAfter, if_pos (by simpa using h), ← Int.add_assoc], by rw [rowP_succ, isAt, if_neg (by simp; omega), Int.add_zero], by rw [rowP_succ, isBefore, if_neg (by simp; omega), Int.add_zero]⟩
            case measure => simp [intOf]; omega
          · have e1 : IntKind.i64.wrap (prs isAt N M k 101 + rowP isAt N M k j + N k * M j) = prs isAt N M k 101 + rowP isAt N M k j + N k * M j := IntWalk.i64_in _ (by omega)
            clear s1 s2 s3
            have t1 : ¬ (j : Int) < (k : Int) := by omega
            have t2 : ((k : Int) == (j : Int)) = true := by simp; omega
            have H := Lib.hid h; clear h
            go_wp2
            go_round
            case rel => exact ⟨j + 1, hlj, by go_num, by rw [rowP_succ, isAfter, if_neg (by have := H.out; simp; omega), Int.add_zero], by rw [rowP_succ, isAt, if_pos (by have := H.out; simp; omega), ← Int.add_assoc], by rw [rowP_succ, isBefore, if_neg (by have := H.out; simp; omega), Int.add_zero]⟩
            case measure => simp [intOf]; omega
          · have e1 : IntKind.i64.wrap (prs isBefore N M k 101 + rowP isBefore N M k j + N k * M j) = prs isBefore N M k 101 + rowP isBefore N M k j + N k * M j := IntWalk.i64_in _ (by omega)
            clear s1 s2 s3
            have t1 : ¬ (j : Int) < (k : Int) := by omega
            have t2 : ((k : Int) == (j : Int)) = false := by simp; omega
            go_wp2
            go_round
            case rel => exact ⟨j + 1, hlj, by go_num, by rw [rowP_succ, isAfter, if_neg (by simp; omega), Int.add_zero], by rw [rowP_succ, isAt, if_neg (by simp; omega), Int.add_zero], by rw [rowP_succ, isBefore, if_pos (by simp; omega), ← Int.add_assoc]⟩
            case measure => simp [intOf]; omega
        · have h4 : ¬ (j : Int) < 101 := by omega
          obtain rfl : j = 101 := by omega
          go_wp2
          go_round
          case rel => exact ⟨k + 1, hlt, by go_num, rfl, rfl, rfl⟩
          case measure => simp [intOf]; omega
    · have h3 : ¬ (k : Int) < 101 := by omega
      obtain rfl : k = 101 := by omega
      go_wp2
      exact bodyPost_ret (v := .tuple #[.int .i64 (prs isAfter N M 101 101), .int .i64 (prs isAt N M 101 101), .int .i64 (prs isBefore N M 101 101), .bool true]) (by simp [results, Try.results45]) rfl ⟨rfl, hB6⟩

theorem aheadAfter_both (s f o : Int) (js : List (Int × Int)) (sq ot th : Int) : ∃ (x y z : Int) (ok : Bool),
    (∀ (A : Option Addr) (c : Nat) (W : World), RJ W W.heap.size A js → Calls Try.prog 44 #[.agg #[.int .i64 s, .int .i64 f, .int .i64 o, .slice A js.length c], .int .i64 sq, .int .i64 ot, .int .i64 th] W (AheadIs W x y z ok)) ∧
    (∀ (A : Option Addr) (c : Nat) (W : World), RJ W W.heap.size A js → Calls Try.prog 45 #[.agg #[.int .i64 s, .int .i64 f, .int .i64 o, .slice A js.length c], .int .i64 sq, .int .i64 ot, .int .i64 th] W (AheadIs W x y z ok)) := by
  cases h : aheadOk s f o js sq ot th
  · exact ⟨0, 0, 0, false, fun A c W hj => specAheadAfter_no s f o A c sq ot th js W hj h, fun A c W hj => implAheadAfter_no s f o A c sq ot th js W hj h⟩
  · have h' := h
    simp only [aheadOk, Bool.and_eq_true] at h'
    have hth := inB_iff.1 h'.2
    obtain ⟨t, rfl⟩ := Int.eq_ofNat_of_zero_le hth.1
    have hz := good_sizes (asked_good h'.1.1)
    have hn1 : nsq s ≤ 101 := by unfold nsq; omega
    have hz0 : ∀ q, onSq s js q = true → ∀ i : Nat, nsq s ≤ i → pl s f o js q t i = 0 := fun q hq i h1 => by
      by_cases h : pl s f o js q t i = 0
      · exact h
      · have := pl_on (asked_good h'.1.1) hq t i h
        unfold nsq at h1; omega
    have hN := hz0 sq (asked_on h'.1.1)
    have hM := hz0 ot h'.1.2
    refine ⟨_, _, _, true, fun A c W hj => specAheadAfter_yes s f o A c sq ot t js W hj h _ _ _ rfl rfl rfl, fun A c W hj => ?_⟩
    have key := implAheadAfter_yes s f o A c sq ot t js W hj h _ _ rfl rfl (by
      rw [sumTo_ext hn1 fun i h1 _ => hN i h1, sumTo_ext hn1 fun i h1 _ => hM i h1, pl_all (asked_good h'.1.1) (asked_on h'.1.1) t, pl_all (asked_good h'.1.1) h'.1.2 t]
      exact sq20 hz.2.1.1 hz.2.1.2 (by omega))
    rw [prs_ext hn1 hn1 hN hM, prs_ext hn1 hn1 hN hM, prs_ext hn1 hn1 hN hM] at key
    exact key
end Go.Proofs.Ytiekdokgjdgajab

/- Several texts, one behind the other: C7a. -/
import Derived.Test.YtmiefdjbhcpnbaaDoorChecked
import Derived.BigQuiet
import Derived.Deep.QuietTactic
import Derived.Shelf.SlicesG.Turned
import Derived.Shelf.Lay
import Derived.Ground.SlgnProg
import Derived.Test.YtmiefdjbhcpnbaaDoorZTTah
import Derived.Test.YtmiefdjbhcpnbaaDoorZTTag
import Derived.Test.YtmiefdjbhcpnbaaDoorZTTac

namespace Go.Proofs.YtmiefdjbhcpnbaaDoor
open Go.RowKit


set_option maxHeartbeats 400000 in
theorem l1All_any (A : Option Addr) (c : Nat) (xs : List Int) (lo hi : Int) (w : World) (hj : RI w w.heap.size A xs) :
    Calls Tryd.prog 53 #[.slice A xs.length c, .int .i64 lo, .int .i64 hi] w fun e w' => e = .returned (.bool (allB lo hi xs)) ∧ w = w' := by
  have hl := hj.1
  go_enter Tryd.func53, Tryd.ntmps53
  go_wp2
  go_loop [11] (fun i => ∃ k : Nat, k ≤ xs.length ∧ i = .int .i64 k ∧ Hid (allB lo hi xs = allB lo hi (xs.drop k))) (fun i => xs.length - (intOf i).toNat)
  case atStart => exact ⟨0, Nat.zero_le _, rfl, Lib.hid rfl⟩
  case round =>
    obtain ⟨k, hk, rfl, Hd⟩ := hrel
    by_cases hlt : k < xs.length
    · obtain ⟨b, off, rfl, hB, h1⟩ := hj.at_ (Below.refl _ _) hlt
      cases hp : inB xs[k] lo hi
      · have HP := Lib.hid hp
        go_wp2_with (go_at_call 52; refine (l1In_any _ _ _ _).mono ?_; rintro e w' ⟨rfl, rfl⟩)
        go_ret
        exact ⟨ret_bool (by rw [Hd.out, drop_step _ _ hlt, allB_cons, HP.out, Bool.false_and]), rfl⟩
      · have HP := Lib.hid hp
        go_wp2_with (go_at_call 52; refine (l1In_any _ _ _ _).mono ?_; rintro e w' ⟨rfl, rfl⟩)
        go_round
        case rel => exact ⟨k + 1, by omega, by go_num, Lib.hid (by rw [Hd.out, drop_step _ _ hlt, allB_cons, HP.out, Bool.true_and])⟩
        case measure => simp [intOf]; omega
    · go_wp2
      go_ret
      exact ⟨ret_bool (by rw [Hd.out, List.drop_eq_nil_of_le (by omega)]; rfl), rfl⟩

set_option maxHeartbeats 400000 in
theorem l1Has_any (A : Option Addr) (n c : Nat) (xs : List Int) (x : Int) (w : World) (hj : RI w w.heap.size A xs) (hn : n = xs.length) :
    Calls Tryd.prog 55 #[.slice A n c, .int .i64 x] w fun e w' => e = .returned (.bool (hasB xs x)) ∧ w = w' := by
  subst hn
  have hl := hj.1
  go_enter Tryd.func55, Tryd.ntmps55
  go_wp2
  go_loop [9] (fun i => ∃ k : Nat, k ≤ xs.length ∧ i = .int .i64 k ∧ Hid (hasB xs x = hasB (xs.drop k) x)) (fun i => xs.length - (intOf i).toNat)
  case atStart => exact ⟨0, Nat.zero_le _, rfl, Lib.hid rfl⟩
  case round =>
    obtain ⟨k, hk, rfl, Hd⟩ := hrel
    by_cases hlt : k < xs.length
    · obtain ⟨b, off, rfl, hB, h1⟩ := hj.at_ (Below.refl _ _) hlt
      cases hp : (xs[k] == x)
      · have HP := Lib.hid hp
        go_wp2
        go_round
        case rel => exact ⟨k + 1, by omega, by go_num, Lib.hid (by
          have h2 : ¬ x = xs[k] := fun e => by have := HP.out; simp [e] at this
          rw [Hd.out, drop_step _ _ hlt, hasB_cons]; simp [h2])⟩
        case measure => simp [intOf]; omega
      · have HP := Lib.hid hp
        go_wp2
        go_ret
        exact ⟨ret_bool (by
          have h2 : x = xs[k] := by have := HP.out; simp at this; exact this.symm
          rw [Hd.out, drop_step _ _ hlt, hasB_cons]; simp [h2]), rfl⟩
    · go_wp2
      go_ret
      exact ⟨ret_bool (by rw [Hd.out, List.drop_eq_nil_of_le (by omega)]; rfl), rfl⟩

theorem RI.take {w : World} {B : Nat} {A : Option Addr} {xs : List Int} (h : RI w B A xs) (k : Nat) : RI w B A (xs.take k) := by
  obtain ⟨h0, h1 | ⟨b, off, e, hb, hc⟩⟩ := h
  · subst h1; exact ⟨by simp, .inl (by simp)⟩
  · refine ⟨by simp; omega, .inr ⟨b, off, e, hb, fun j hj => ?_⟩⟩
    rw [List.getElem_take]
    exact hc j (by simp at hj; omega)

set_option maxHeartbeats 400000 in
theorem l1Rising_any (A : Option Addr) (c : Nat) (xs : List Int) (hi : Int) (w : World) (hj : RI w w.heap.size A xs) :
    Calls Tryd.prog 54 #[.slice A xs.length c, .int .i64 0, .int .i64 hi] w fun e w' => e = .returned (.bool (riseB (-1) hi xs)) ∧ w = w' := by
  have hl := hj.1
  go_enter Tryd.func54, Tryd.ntmps54
  go_wp2
  go_loop [11] (fun i => ∃ k : Nat, k ≤ xs.length ∧ i = .int .i64 k ∧ Hid (riseB (-1) hi xs = riseB (lastI xs k) hi (xs.drop k))) (fun i => xs.length - (intOf i).toNat)
  case atStart => exact ⟨0, Nat.zero_le _, rfl, Lib.hid rfl⟩
  case round =>
    obtain ⟨k, hk, rfl, Hd⟩ := hrel
    by_cases hlt : k < xs.length
    · obtain ⟨b, off, rfl, hB, h1⟩ := hj.at_ (Below.refl _ _) hlt
      have HD := Lib.hid (Hd.out.trans (riseB_drop hlt))
      clear Hd
      cases hp : inB xs[k] 0 hi
      · have HP := Lib.hid hp
        go_wp2_with (go_at_call 52; refine (l1In_any _ _ _ _).mono ?_; rintro e w' ⟨rfl, rfl⟩)
        go_ret
        exact ⟨ret_bool (by rw [HD.out, HP.out]; simp), rfl⟩
      · have HP := Lib.hid hp
        by_cases hk0 : 0 < k
        · have hp := lastI_pos hk0 hlt
          obtain ⟨b', off', e', _, h3⟩ := hj.at_ (Below.refl _ _) (show k - 1 < xs.length by omega)
          simp at e'
          obtain ⟨rfl, rfl⟩ := e'
          have i0 : (0 : Int) ≤ (k : Int) - 1 := by omega
          have i4 : (1 : Int) ≤ (k : Int) := by omega
          have hBr : b < w.heap.size := by omega
          have i1 : (k : Int) - 1 < (xs.length : Int) := by omega
          have i2 : ((k : Int) - 1).toNat = k - 1 := by omega
          have i3 : IntKind.i64.wrap ((k : Int) - 1) = (k : Int) - 1 := IntWalk.i64_in _ (by omega)
          have hg : decide (0 < (k : Int)) = true := by simpa using hk0
          have HP2 := Lib.hid hp
          clear hp
          go_wp2_with (go_at_call 52; refine (l1In_any _ _ _ _).mono ?_; rintro e w' ⟨rfl, rfl⟩)
          · have h5 : xs[k] ≤ xs[k - 1] := by assumption
            go_ret
            exact ⟨ret_bool (by rw [HD.out, HP2.out]; simp; omega), rfl⟩
          · have h5 : xs[k - 1] < xs[k] := by assumption
            go_round
            case rel => exact ⟨k + 1, by omega, by go_num, Lib.hid (by rw [HD.out, HP2.out, HP.out]; simp [h5])⟩
            case measure => simp [intOf]; omega
        · have hg : decide (0 < (k : Int)) = false := by simpa using hk0
          obtain rfl : k = 0 := by omega
          have h5 : (0 : Int) ≤ xs[0] := (inB_iff.1 HP.out).1
          have h6 : w.cell? ⟨b, off, none⟩ = some (.int .i64 xs[0]) := by simpa using h1
          go_wp2_with (go_at_call 52; refine (l1In_any _ _ _ _).mono ?_; rintro e w' ⟨rfl, rfl⟩)
          go_round
          case rel => exact ⟨0 + 1, by omega, by go_num, Lib.hid (by rw [HD.out, HP.out]; simp [lastI]; omega)⟩
          case measure => simp [intOf]; omega
    · go_wp2
      go_ret
      exact ⟨ret_bool (by rw [Hd.out, List.drop_eq_nil_of_le (by omega)]; rfl), rfl⟩

set_option maxHeartbeats 1000000 in
theorem trGood_any (q f k : Int) (A1 A2 : Option Addr) (c1 c2 : Nat) (st sf : List Int) (w : World) (h1 : RI w w.heap.size A1 st) (h2 : RI w w.heap.size A2 sf) (hc : st.length ≤ c1) :
    Calls Tryd.prog 26 #[.agg #[.int .i64 q, .int .i64 f, .int .i64 k, .slice A1 st.length c1, .slice A2 sf.length c2]] w fun e w' => e = .returned (.bool (trkOk q f k st sf)) ∧ Below w.heap.size w w' := by
  have hl := h1.1
  have hl2 := h2.1
  obtain ⟨r, hr⟩ : ∃ r, trkOk q f k st sf = r := ⟨_, rfl⟩
  rw [hr]
  rw [trkOk, trkSizes, startsB_eq] at hr
  have HR := Lib.hid hr
  clear hr
  go_enter Tryd.func26, Tryd.ntmps26
  cases hq : inB q 4 60
  · have HQ := Lib.hid hq
    go_wp2_with (go_at_call 52; refine (l1In_any _ _ _ _).mono ?_; rintro e w' ⟨rfl, rfl⟩)
    go_ret
    exact ⟨ret_bool (by rw [← HR.out, HQ.out]; rfl), below1 _ _⟩
  have hqb := inB_iff.1 hq
  have i3 : wrap64 (q - 1) = q - 1 := IntWalk.wrap64_in _ (by omega)
  have i4 : IntKind.i64.wrap (q - 1) = q - 1 := IntWalk.i64_in _ (by omega)
  have HQ := Lib.hid hq
  have r1 := h1.go (below1 w (.cells #[.int .i64 q, .int .i64 f, .int .i64 k, .slice A1 st.length c1, .slice A2 sf.length c2] 28))
  have r2 := h2.go (below1 w (.cells #[.int .i64 q, .int .i64 f, .int .i64 k, .slice A1 st.length c1, .slice A2 sf.length c2] 28))
  cases hk : inB k 1 4 <;> cases hs : riseB (-1) (q - 1) sf
  case true.true =>
    have HK := Lib.hid hk
    have HS := Lib.hid hs
    go_wp2_with (first | (go_at_call 52; refine (l1In_any _ _ _ _).mono ?_; rintro e w' ⟨rfl, rfl⟩) | (go_at_call 53; refine (l1All_any _ _ _ _ _ _ r1).mono ?_; rintro e w' ⟨rfl, rfl⟩) | (go_at_call 54; refine (l1Rising_any _ _ _ _ _ r2).mono ?_; rintro e w' ⟨rfl, rfl⟩))
    · have hz : freshB [] st = r := by
        rw [← HR.out, HQ.out, (show inB f 1 8 = true by assumption), HK.out, (show inB (st.length : Int) 2 4 = true by assumption), (show allB 0 (q - 1) st = true by assumption), HS.out]
        simp
      have HZ := Lib.hid hz
      clear hz
      go_loop [47] (fun i => ∃ k : Nat, k ≤ st.length ∧ i = .int .i64 k ∧ Hid (freshB [] st = freshB (st.take k) (st.drop k))) (fun i => st.length - (intOf i).toNat)
      case atStart => exact ⟨0, Nat.zero_le _, rfl, Lib.hid (by simp)⟩
      case round =>
        obtain ⟨j, hj, rfl, Hd⟩ := hrel
        by_cases hlt : j < st.length
        · obtain ⟨b, off, rfl, hB, h3⟩ := r1.at_ (Below.refl _ _) hlt
          have HD := Lib.hid (Hd.out.trans (freshB_drop hlt))
          clear Hd
          have rj := r1.take j
          go_wp2_with (go_at_call 55; refine (l1Has_any _ _ _ (st.take j) _ _ rj (by simp; omega)).mono ?_; rintro e w' ⟨rfl, rfl⟩)
          · have h5 : hasB (st.take j) st[j] = true := by assumption
            go_ret
            exact ⟨ret_bool (by rw [← HZ.out, HD.out, h5]; rfl), below1 _ _⟩
          · have h5 : hasB (st.take j) st[j] = false := by assumption
            go_round
            case rel => exact ⟨j + 1, by omega, by go_num, Lib.hid (by rw [HD.out, h5]; rfl)⟩
            case measure => simp [intOf]; omega
        · go_wp2
          go_ret
          exact ⟨ret_bool (by rw [← HZ.out, Hd.out, List.drop_eq_nil_of_le (by omega)]; rfl), below1 _ _⟩
    all_goals
      go_ret
      exact ⟨ret_bool (by rw [← HR.out, HQ.out, HK.out, HS.out]; simp_all), below1 _ _⟩
  all_goals
    have HK := Lib.hid hk
    have HS := Lib.hid hs
    go_wp2_with (first | (go_at_call 52; refine (l1In_any _ _ _ _).mono ?_; rintro e w' ⟨rfl, rfl⟩) | (go_at_call 53; refine (l1All_any _ _ _ _ _ _ r1).mono ?_; rintro e w' ⟨rfl, rfl⟩) | (go_at_call 54; refine (l1Rising_any _ _ _ _ _ r2).mono ?_; rintro e w' ⟨rfl, rfl⟩))
    all_goals
      go_ret
      exact ⟨ret_bool (by rw [← HR.out, HQ.out, HK.out, HS.out]; simp_all), below1 _ _⟩

end Go.Proofs.YtmiefdjbhcpnbaaDoor

namespace Go.Proofs.YtmiefdjbhcpnbaaDoor
open Go.RowKit Go.Shelf

shelf_lay_g SlLaysN.n31 Slgn 31 at Tryd 88 as hasInts

theorem isWithin_any (n lo hi : Int) (w : World) : Calls Tryd.prog 87 #[.int .i64 n, .int .i64 lo, .int .i64 hi] w fun e w' => e = .returned (.bool (inB n lo hi)) ∧ w = w' := by
  go_enter Tryd.func87, Tryd.ntmps87
  by_cases h : lo ≤ n
  · have h1 : decide (lo ≤ n) = true := by simpa using h
    go_wp2
    go_ret
    exact ⟨ret_bool (by simp [inB, h1]), rfl⟩
  · have h1 : decide (lo ≤ n) = false := by simpa using h
    go_wp2
    go_ret
    exact ⟨ret_bool (by simp [inB, h1]), rfl⟩

theorem hasInts_any (A : Option Addr) (n c : Nat) (xs : List Int) (x : Int) (w : World) (hj : RI w w.heap.size A xs) (hn : n = xs.length) :
    Calls Tryd.prog 88 #[.slice A n c, .int .i64 x] w fun e w' => e = .returned (.bool (hasB xs x)) ∧ w = w' := by
  subst hn
  obtain ⟨h0, rfl | ⟨b, off, rfl, hb, hc⟩⟩ := hj
  · have h := AnyG.slices_Contains_int_empty hasInts A c x w
    change Calls Tryd.prog 88 _ _ _ at h
    exact h.mono fun _ _ ⟨h1, h2⟩ => ⟨h1, h2.symm⟩
  · have h := AnyG.slices_Contains_int hasInts b off xs.length c xs x w (Nat.le_refl _) (by omega) (fun j hj => by rw [hc j hj, List.getD_eq_getElem?_getD, List.getElem?_eq_getElem hj]; rfl)
    change Calls Tryd.prog 88 _ _ _ at h
    rw [List.take_of_length_le (Nat.le_refl _)] at h
    exact h.mono fun _ _ ⟨h1, h2⟩ => ⟨h1, h2.symm⟩

section
variable (g : Nat) (q f k : Int) (A : Option Addr) (n c : Nat) (S : Nat → Bool) (w : World) (hR : RA w g 81 q f k A n c S)
include hR

theorem hasSizes_any : Calls Tryd.prog 75 #[.pointer (some ⟨g, 0, none⟩)] w fun e w' => e = .returned (.bool (trkSizes q f k n)) ∧ w = w' := by
  have c0 := hR.c0
  have c1 := hR.c1
  have c2 := hR.c2
  have c3 := hR.c3
  obtain ⟨r, hr⟩ : ∃ r, trkSizes q f k n = r := ⟨_, rfl⟩
  rw [hr]
  rw [trkSizes] at hr
  have HR := Lib.hid hr
  clear hr
  go_enter Tryd.func75, Tryd.ntmps75
  go_wp2_with (go_at_call 87; refine (isWithin_any _ _ _ _).mono ?_; rintro e w' ⟨rfl, rfl⟩)
  all_goals
    go_ret
    exact ⟨ret_bool (by rw [← HR.out]; simp_all), rfl⟩

theorem hasSquare_any (x : Int) (h4 : 0 ≤ q) (h6 : q ≤ 60) : Calls Tryd.prog 77 #[.pointer (some ⟨g, 0, none⟩), .int .i64 x] w fun e w' => e = .returned (.bool (inB x 0 (q - 1))) ∧ w = w' := by
  have c0 := hR.c0
  go_enter Tryd.func77, Tryd.ntmps77
  have i4 : IntKind.i64.wrap (q - 1) = q - 1 := IntWalk.i64_in _ (by omega)
  go_wp2_with (go_at_call 87; refine (isWithin_any _ _ _ _).mono ?_; rintro e w' ⟨rfl, rfl⟩)
  go_ret
  exact ⟨rfl, rfl⟩

set_option maxHeartbeats 400000 in
theorem hasStarts_any (st : List Int) (hn : n = st.length) (hj : RI w w.heap.size A st) (hc : n ≤ c) (h4 : 0 ≤ q) (h6 : q ≤ 60) : Calls Tryd.prog 76 #[.pointer (some ⟨g, 0, none⟩)] w fun e w' => e = .returned (.bool (startsB (q - 1) [] st)) ∧ w = w' := by
  subst hn
  have hl := hj.1
  have c3 := hR.c3
  go_enter Tryd.func76, Tryd.ntmps76
  go_wp2
  go_loop [10] (fun i => ∃ k : Nat, k ≤ st.length ∧ i = .int .i64 k ∧ Hid (startsB (q - 1) [] st = startsB (q - 1) (st.take k) (st.drop k))) (fun i => st.length - (intOf i).toNat)
  case atStart => exact ⟨0, Nat.zero_le _, rfl, Lib.hid (by simp)⟩
  case round =>
    obtain ⟨j, hj', rfl, Hd⟩ := hrel
    by_cases hlt : j < st.length
    · obtain ⟨b, off, rfl, hB, h3⟩ := hj.at_ (Below.refl _ _) hlt
      have HD := Lib.hid (Hd.out.trans (startsB_drop hlt))
      clear Hd
      have rj := hj.take j
      cases hp : inB st[j] 0 (q - 1) <;> cases hs : hasB (st.take j) st[j]
      case true.false =>
        have HP := Lib.hid hp
        have HS := Lib.hid hs
        go_wp2_with (first | (go_at_call 77; refine (hasSquare_any _ _ _ _ _ _ _ _ _ hR _ h4 h6).mono ?_; rintro e w' ⟨rfl, rfl⟩) | (go_at_call 88; refine (hasInts_any _ _ _ (st.take j) _ _ rj (by simp; omega)).mono ?_; rintro e w' ⟨rfl, rfl⟩))
        go_round
        case rel => exact ⟨j + 1, by omega, by go_num, Lib.hid (by rw [HD.out, HP.out, HS.out]; simp)⟩
        case measure => simp [intOf]; omega
      all_goals
        have HP := Lib.hid hp
        have HS := Lib.hid hs
        go_wp2_with (first | (go_at_call 77; refine (hasSquare_any _ _ _ _ _ _ _ _ _ hR _ h4 h6).mono ?_; rintro e w' ⟨rfl, rfl⟩) | (go_at_call 88; refine (hasInts_any _ _ _ (st.take j) _ _ rj (by simp; omega)).mono ?_; rintro e w' ⟨rfl, rfl⟩))
        go_ret
        exact ⟨ret_bool (by rw [HD.out, HP.out, HS.out]; simp), rfl⟩
    · go_wp2
      go_ret
      exact ⟨ret_bool (by rw [Hd.out, List.drop_eq_nil_of_le (by omega)]; rfl), rfl⟩
end
end Go.Proofs.YtmiefdjbhcpnbaaDoor

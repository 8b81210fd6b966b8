/-
  Tracks: the program's rings: isWithin, what a ring has, ringOf, IsTrack.
-/
import Derived.Test.YtbheegdmamcgaabC7a
import Derived.Shelf.SlicesG.Turned
import Derived.Shelf.Lay
import Derived.Ground.SlgnProg
namespace Go.Proofs.Ytbheegdmamcgaab
open Go.RowKit Go.Shelf

shelf_lay_g SlLaysN.n31 Slgn 31 at Try 140 as hasInts

theorem isWithin_any (n lo hi : Int) (w : World) : Calls Try.prog 99 #[.int .i64 n, .int .i64 lo, .int .i64 hi] w fun e w' => e = .returned (.bool (inB n lo hi)) ∧ w = w' := by
  go_enter Try.func99, Try.ntmps99
  by_cases h : lo ≤ n
  · have h1 : decide (lo ≤ n) = true := by simpa using h
    go_wp2
    go_ret
    exact ⟨ret_bool (by simp [inB, h1]), rfl⟩
  · have h1 : decide (lo ≤ n) = false := by simpa using h
    go_wp2
    go_ret
    exact ⟨ret_bool (by simp [inB, h1]), rfl⟩

theorem hasInts_any (A : Option Addr) (n c : Nat) (xs : List Int) (x : Int) (w : World) (hj : RI w w.heap.size A xs) (hn : n = xs.length) :
    Calls Try.prog 140 #[.slice A n c, .int .i64 x] w fun e w' => e = .returned (.bool (hasB xs x)) ∧ w = w' := by
  subst hn
  obtain ⟨h0, rfl | ⟨b, off, rfl, hb, hc⟩⟩ := hj
  · have h := AnyG.slices_Contains_int_empty hasInts A c x w
    change Calls Try.prog 140 _ _ _ at h
    exact h.mono fun _ _ ⟨h1, h2⟩ => ⟨h1, h2.symm⟩
  · have h := AnyG.slices_Contains_int hasInts b off xs.length c xs x w (Nat.le_refl _) (by omega) (fun j hj => by rw [hc j hj, List.getD_eq_getElem?_getD, List.getElem?_eq_getElem hj]; rfl)
    change Calls Try.prog 140 _ _ _ at h
    rw [List.take_of_length_le (Nat.le_refl _)] at h
    exact h.mono fun _ _ ⟨h1, h2⟩ => ⟨h1, h2.symm⟩

section
variable (g : Nat) (q f k : Int) (A : Option Addr) (n c : Nat) (S : Nat → Bool) (w : World) (hR : RA w g 81 q f k A n c S)
include hR

theorem hasSizes_any : Calls Try.prog 122 #[.pointer (some ⟨g, 0, none⟩)] w fun e w' => e = .returned (.bool (trkSizes q f k n)) ∧ w = w' := by
  have c0 := hR.c0
  have c1 := hR.c1
  have c2 := hR.c2
  have c3 := hR.c3
  obtain ⟨r, hr⟩ : ∃ r, trkSizes q f k n = r := ⟨_, rfl⟩
  rw [hr]
  rw [trkSizes] at hr
  have HR := Lib.hid hr
  clear hr
  go_enter Try.func122, Try.ntmps122
  go_wp2_with (go_at_call 99; refine (isWithin_any _ _ _ _).mono ?_; rintro e w' ⟨rfl, rfl⟩)
  all_goals
    go_ret
    exact ⟨ret_bool (by rw [← HR.out]; simp_all), rfl⟩

theorem hasSquare_any (x : Int) (h4 : 0 ≤ q) (h6 : q ≤ 60) : Calls Try.prog 124 #[.pointer (some ⟨g, 0, none⟩), .int .i64 x] w fun e w' => e = .returned (.bool (inB x 0 (q - 1))) ∧ w = w' := by
  have c0 := hR.c0
  go_enter Try.func124, Try.ntmps124
  have i4 : IntKind.i64.wrap (q - 1) = q - 1 := IntWalk.i64_in _ (by omega)
  go_wp2_with (go_at_call 99; refine (isWithin_any _ _ _ _).mono ?_; rintro e w' ⟨rfl, rfl⟩)
  go_ret
  exact ⟨rfl, rfl⟩

set_option maxHeartbeats 400000 in
theorem hasStarts_any (st : List Int) (hn : n = st.length) (hj : RI w w.heap.size A st) (hc : n ≤ c) (h4 : 0 ≤ q) (h6 : q ≤ 60) : Calls Try.prog 123 #[.pointer (some ⟨g, 0, none⟩)] w fun e w' => e = .returned (.bool (startsB (q - 1) [] st)) ∧ w = w' := by
  subst hn
  have hl := hj.1
  have c3 := hR.c3
  go_enter Try.func123, Try.ntmps123
  go_wp2
  go_loop [10] (fun i => ∃ k : Nat, k ≤ st.length ∧ i = .int .i64 k ∧ Hid (startsB (q - 1) [] st = startsB (q - 1) (st.take k) (st.drop k))) (fun i => st.length - (intOf i).toNat)
  case atStart => exact ⟨0, Nat.zero_le _, rfl, Lib.hid (by simp)⟩
  case round =>
    obtain ⟨j, hj', rfl, Hd⟩ := hrel
    by_cases hlt : j < st.length
    · obtain ⟨b, off, rfl, hB, h3⟩ := hj.at_ (Below.refl _ _) hlt
      have HD := Lib.hid (Hd.out.trans (startsB_drop hlt))
      clear Hd
      have rj := hj.take j
      cases hp : inB st[j] 0 (q - 1) <;> cases hs : hasB (st.take j) st[j]
      case true.false =>
        have HP := Lib.hid hp
        have HS := Lib.hid hs
        go_wp2_with (first | (go_at_call 124; refine (hasSquare_any _ _ _ _ _ _ _ _ _ hR _ h4 h6).mono ?_; rintro e w' ⟨rfl, rfl⟩) | (go_at_call 140; refine (hasInts_any _ _ _ (st.take j) _ _ rj (by simp; omega)).mono ?_; rintro e w' ⟨rfl, rfl⟩))
        go_round
        case rel => exact ⟨j + 1, by omega, by go_num, Lib.hid (by rw [HD.out, HP.out, HS.out]; simp)⟩
        case measure => simp [intOf]; omega
      all_goals
        have HP := Lib.hid hp
        have HS := Lib.hid hs
        go_wp2_with (first | (go_at_call 124; refine (hasSquare_any _ _ _ _ _ _ _ _ _ hR _ h4 h6).mono ?_; rintro e w' ⟨rfl, rfl⟩) | (go_at_call 140; refine (hasInts_any _ _ _ (st.take j) _ _ rj (by simp; omega)).mono ?_; rintro e w' ⟨rfl, rfl⟩))
        go_ret
        exact ⟨ret_bool (by rw [HD.out, HP.out, HS.out]; simp), rfl⟩
    · go_wp2
      go_ret
      exact ⟨ret_bool (by rw [Hd.out, List.drop_eq_nil_of_le (by omega)]; rfl), rfl⟩
end
end Go.Proofs.Ytbheegdmamcgaab

/-
  Tracks: the model's trSquare; IsTrack and TrackSquare on both sides.
-/
import Derived.Test.YtpecocmgclancaaC7d
namespace Go.Proofs.Ytpecocmgclancaa
open Go.RowKit

theorem trSquare_no (q f k : Int) (A1 A2 : Option Addr) (n1 c1 n2 c2 : Nat) (p : Int) (x : Int) (w : World) (h4 : 4 ≤ q) (h6 : q ≤ 60) (hx : inB x 0 (q - 1) = false) :
    Calls Try.prog 58 #[.agg #[.int .i64 q, .int .i64 f, .int .i64 k, .slice A1 n1 c1, .slice A2 n2 c2], .int .i64 p, .int .i64 x] w fun e w' => e = .returned (.int .i64 (-1)) ∧ Below w.heap.size w w' := by
  have i4 : IntKind.i64.wrap (q - 1) = q - 1 := IntWalk.i64_in _ (by omega)
  have HX := Lib.hid hx
  clear hx
  go_enter Try.func58, Try.ntmps58
  go_wp2_with (go_at_call 57; refine (l1In_any _ _ _ _).mono ?_; rintro e w' ⟨rfl, rfl⟩; rw [HX.out])
  go_ret
  exact ⟨rfl, below1 _ _⟩

theorem trSquare_yes (q f k : Int) (A1 A2 : Option Addr) (c1 n2 c2 : Nat) (st : List Int) (p : Nat) (x : Int) (w : World) (hj : RI w w.heap.size A1 st) (h4 : 4 ≤ q) (h6 : q ≤ 60) (hp : p < st.length) (h0 : 0 ≤ st[p] ∧ st[p] < q) (hx : inB x 0 (q - 1) = true) :
    Calls Try.prog 58 #[.agg #[.int .i64 q, .int .i64 f, .int .i64 k, .slice A1 st.length c1, .slice A2 n2 c2], .int .i64 p, .int .i64 x] w fun e w' => e = .returned (.int .i64 (sqr q st p x)) ∧ Below w.heap.size w w' := by
  have hl := hj.1
  have hxb := inB_iff.1 hx
  obtain ⟨b, off, rfl, hB, h3⟩ := hj.at_ (Below.refl _ _) hp
  rw [sqr_in hx, show st.getD p 0 = st[p] by simp [List.getD_eq_getElem?_getD, List.getElem?_eq_getElem hp]]
  obtain ⟨y, hy⟩ : ∃ y, y = st[p] := ⟨_, rfl⟩
  rw [← hy] at h3 h0 ⊢
  clear hy
  have i4 : IntKind.i64.wrap (q - 1) = q - 1 := IntWalk.i64_in _ (by omega)
  have i5 : IntKind.i64.wrap (y + x) = y + x := IntWalk.i64_in _ (by omega)
  have i6 : (y + x).tmod q = (y + x) % q := Int.tmod_eq_emod_of_nonneg (by omega)
  have i8 : 0 ≤ (y + x) % q ∧ (y + x) % q < q := ⟨Int.emod_nonneg _ (by omega), Int.emod_lt_of_pos _ (by omega)⟩
  obtain ⟨m, hm⟩ : ∃ m, m = (y + x) % q := ⟨_, rfl⟩
  rw [← hm] at i6 i8 ⊢
  clear hm
  have i7 : IntKind.i64.wrap m = m := IntWalk.i64_in _ (by omega)
  have i9 : ¬ q = 0 := by omega
  have j0 : (0 : Int) ≤ (p : Int) := by omega
  have j1 : (p : Int) < (st.length : Int) := by omega
  have j2 : ((p : Int)).toNat = p := by omega
  have hbw : b < w.heap.size := by omega
  have hbn : b ≠ w.heap.size := by omega
  have HX := Lib.hid hx
  clear hx
  go_enter Try.func58, Try.ntmps58
  go_wp2_with (go_at_call 57; refine (l1In_any _ _ _ _).mono ?_; rintro e w' ⟨rfl, rfl⟩; rw [HX.out])
  go_quiet (fail)
  go_wp2
  go_ret
  exact ⟨rfl, drewB (below1 _ _) _⟩

theorem isTrack_both (q f k : Int) (st sf : List Int) : ∃ ok : Bool,
    (∀ (A1 A2 : Option Addr) (c1 c2 : Nat) (W : World), RI W W.heap.size A1 st → RI W W.heap.size A2 sf → st.length ≤ c1 → Calls Try.prog 16 #[.agg #[.int .i64 q, .int .i64 f, .int .i64 k, .slice A1 st.length c1, .slice A2 sf.length c2]] W fun e w' => e = .returned (.bool ok) ∧ Below W.heap.size W w') ∧
    (∀ (A1 A2 : Option Addr) (c1 c2 : Nat) (W : World), RI W W.heap.size A1 st → RI W W.heap.size A2 sf → st.length ≤ c1 → Calls Try.prog 18 #[.agg #[.int .i64 q, .int .i64 f, .int .i64 k, .slice A1 st.length c1, .slice A2 sf.length c2]] W fun e w' => e = .returned (.bool ok) ∧ Below W.heap.size W w') :=
  ⟨trkOk q f k st sf, fun _ _ _ _ _ h1 h2 h3 => specIsTrack_any _ _ _ _ _ _ _ _ _ _ h1 h2 h3, fun _ _ _ _ _ h1 h2 h3 => implIsTrack_any _ _ _ _ _ _ _ _ _ _ h1 h2 h3⟩
def sqAskB (q f k : Int) (st sf : List Int) (p x : Int) : Bool := trkOk q f k st sf && (inB p 0 ((st.length : Int) - 1) && inB x 0 (q - 1))
set_option maxHeartbeats 400000 in
theorem specTrackSquare_yes (q f k : Int) (A1 A2 : Option Addr) (c1 c2 : Nat) (st sf : List Int) (p x : Int) (w : World) (h1 : RI w w.heap.size A1 st) (h2 : RI w w.heap.size A2 sf) (hc : st.length ≤ c1) (hz : trkOk q f k st sf = true) (hp : inB p 0 ((st.length : Int) - 1) = true) (hx : inB x 0 (q - 1) = true) :
    Calls Try.prog 25 #[.agg #[.int .i64 q, .int .i64 f, .int .i64 k, .slice A1 st.length c1, .slice A2 sf.length c2], .int .i64 p, .int .i64 x] w fun e w' => e = .returned (.tuple #[.int .i64 (sqr q st p.toNat x), .bool true]) ∧ Below w.heap.size w w' := by
  have hT := trk_of hz
  have q4 := hT.q4
  have q60 := hT.q60
  have hl := h1.1
  have hl2 := h2.1
  obtain ⟨m, hm⟩ := Int.eq_ofNat_of_zero_le (inB_iff.1 hp).1
  subst hm
  have hml : m < st.length := by have := (inB_iff.1 hp).2; omega
  have i4 : IntKind.i64.wrap (q - 1) = q - 1 := IntWalk.i64_in _ (by omega)
  have i5 : IntKind.i64.wrap ((st.length : Int) - 1) = (st.length : Int) - 1 := IntWalk.i64_in _ (by omega)
  have HP := Lib.hid hp; have HX := Lib.hid hx; have HZ := Lib.hid hz
  clear hp hx hz hT
  go_enter Try.func25, Try.ntmps25
  go_wp2_with fail
  refine (trGood_any _ _ _ _ _ _ _ _ _ _ (h1.go (below1 _ _)) (h2.go (below1 _ _)) hc).mono ?_
  rintro e w2 ⟨rfl, hx⟩
  have hb := box_on (Below.refl _ _) hx (by simp)
  have qq := boxcells hb
  rw [HZ.out]
  go_wp2_with (first | (go_at_call 57; refine (l1In_any _ _ _ _).mono ?_; rintro e w' ⟨rfl, rfl⟩; rw [HP.out]) | (go_at_call 57; refine (l1In_any _ _ _ _).mono ?_; rintro e w' ⟨rfl, rfl⟩; rw [HX.out]))
  refine (trSquare_yes _ _ _ _ _ _ _ _ _ _ _ _ (h1.go ((below1 _ _).trans (hb.mono (by omega)))) q4 q60 hml ((trk_of HZ.out).st0 m hml) HX.out).mono ?_
  rintro e w3 ⟨rfl, hx3⟩
  have hb3 := box_on hb hx3 (by have := hb.size; simpa using this)
  go_wp2
  go_ret2
  exact ⟨rfl, (below1 _ _).trans (hb3.mono (by omega))⟩
set_option maxHeartbeats 400000 in
theorem specTrackSquare_no (q f k : Int) (A1 A2 : Option Addr) (c1 c2 : Nat) (st sf : List Int) (p x : Int) (w : World) (h1 : RI w w.heap.size A1 st) (h2 : RI w w.heap.size A2 sf) (hc : st.length ≤ c1) (hz : sqAskB q f k st sf p x = false) :
    Calls Try.prog 25 #[.agg #[.int .i64 q, .int .i64 f, .int .i64 k, .slice A1 st.length c1, .slice A2 sf.length c2], .int .i64 p, .int .i64 x] w fun e w' => e = .returned (.tuple #[.int .i64 0, .bool false]) ∧ Below w.heap.size w w' := by
  have hl := h1.1
  have hl2 := h2.1
  have i5 : IntKind.i64.wrap ((st.length : Int) - 1) = (st.length : Int) - 1 := IntWalk.i64_in _ (by omega)
  have HZ := Lib.hid hz
  clear hz
  go_enter Try.func25, Try.ntmps25
  go_wp2_with fail
  refine (trGood_any _ _ _ _ _ _ _ _ _ _ (h1.go (below1 _ _)) (h2.go (below1 _ _)) hc).mono ?_
  rintro e w2 ⟨rfl, hx⟩
  have hb := box_on (Below.refl _ _) hx (by simp)
  have qq := boxcells hb
  have hb0 := (below1 w (.cells #[.int .i64 q, .int .i64 f, .int .i64 k, .slice A1 st.length c1, .slice A2 sf.length c2] 27)).trans (hb.mono (by omega))
  cases hz1 : trkOk q f k st sf
  · go_wp2
    go_ret2
    exact ⟨rfl, hb0⟩
  have hT := trk_of hz1
  have q4 := hT.q4
  have q60 := hT.q60
  have i4 : IntKind.i64.wrap (q - 1) = q - 1 := IntWalk.i64_in _ (by omega)
  cases hp : inB p 0 ((st.length : Int) - 1)
  · have HP := Lib.hid hp
    clear hp hT
    go_wp2_with (go_at_call 57; refine (l1In_any _ _ _ _).mono ?_; rintro e w' ⟨rfl, rfl⟩; rw [HP.out])
    go_ret2
    exact ⟨rfl, hb0⟩
  have hx : inB x 0 (q - 1) = false := by have := HZ.out; rw [sqAskB, hz1, hp] at this; simpa using this
  have HP := Lib.hid hp; have HX := Lib.hid hx
  clear hp hx hT
  go_wp2_with (first | (go_at_call 57; refine (l1In_any _ _ _ _).mono ?_; rintro e w' ⟨rfl, rfl⟩; rw [HP.out]) | (go_at_call 57; refine (l1In_any _ _ _ _).mono ?_; rintro e w' ⟨rfl, rfl⟩; rw [HX.out]))
  go_ret2
  exact ⟨rfl, hb0⟩
set_option maxHeartbeats 400000 in
set_option maxRecDepth 100000 in
theorem implTrackSquare_yes (q f k : Int) (A1 A2 : Option Addr) (c1 c2 : Nat) (st sf : List Int) (p x : Int) (w : World) (h1 : RI w w.heap.size A1 st) (h2 : RI w w.heap.size A2 sf) (hc : st.length ≤ c1) (hz : trkOk q f k st sf = true) (hp : inB p 0 ((st.length : Int) - 1) = true) (hx : inB x 0 (q - 1) = true) :
    Calls Try.prog 26 #[.agg #[.int .i64 q, .int .i64 f, .int .i64 k, .slice A1 st.length c1, .slice A2 sf.length c2], .int .i64 p, .int .i64 x] w fun e w' => e = .returned (.tuple #[.int .i64 (sqr q st p.toNat x), .bool true]) ∧ Below w.heap.size w w' := by
  have hT := trk_of hz
  have q4 := hT.q4
  have q60 := hT.q60
  have hl := h1.1
  have hl2 := h2.1
  have z0 := zeroRing
  obtain ⟨m, hm⟩ := Int.eq_ofNat_of_zero_le (inB_iff.1 hp).1
  subst hm
  have hml : m < st.length := by have := (inB_iff.1 hp).2; omega
  have HP := Lib.hid hp; have HX := Lib.hid hx; have HZ := Lib.hid hz
  clear hp hx hz hT
  go_enter Try.func26, Try.ntmps26
  go_wp2_with fail
  refine (ringOf_yes _ _ _ _ _ _ _ _ _ _ (h1.go (below1 _ _)) (h2.go (below1 _ _)) hc HZ.out).mono ?_
  rintro e w2 ⟨rfl, hx⟩
  have hb : Below w.heap.size w w2 := (below1 _ _).trans (hx.mono (by simp))
  clear hx
  go_wp2_with (first | (refine wpList_store_row rfl 62 (.tmp 8) _ rfl _ rfl _ _ (ringC q f k A1 st.length c1 (safeB sf)) rfl (heap_alloc_at _ _ _ rfl) ?_ ?_ ring_one ?_; (simp only [ring_size]); (rw [ring_size]; exact sizeRing); intro w4 hC4 hg4 hs4) | (go_at_call 59; refine (hasPlayer_any _ _ _ _ _ _ _ _ _ hC4 _ hl).mono ?_; rintro e w' ⟨rfl, rfl⟩; rw [HP.out]))
  have hb4 : Below w.heap.size w w4 := (hb.alloc hb.size _).grown hg4 (by simp; have := hb.size; omega) (fun k h => by cases h; exact hb.size)
  refine (squareOf_yes _ _ _ _ _ _ _ _ _ hC4 st m _ rfl (h1.go hb4) q4 q60 hml ((trk_of HZ.out).st0 m hml) HX.out).mono ?_
  rintro e w5 ⟨rfl, hx5⟩
  go_wp2
  go_ret2
  exact ⟨rfl, hb4.trans (hx5.mono hb4.size)⟩
set_option maxHeartbeats 400000 in
set_option maxRecDepth 100000 in
theorem implTrackSquare_no (q f k : Int) (A1 A2 : Option Addr) (c1 c2 : Nat) (st sf : List Int) (p x : Int) (w : World) (h1 : RI w w.heap.size A1 st) (h2 : RI w w.heap.size A2 sf) (hc : st.length ≤ c1) (hz : sqAskB q f k st sf p x = false) :
    Calls Try.prog 26 #[.agg #[.int .i64 q, .int .i64 f, .int .i64 k, .slice A1 st.length c1, .slice A2 sf.length c2], .int .i64 p, .int .i64 x] w fun e w' => e = .returned (.tuple #[.int .i64 0, .bool false]) ∧ Below w.heap.size w w' := by
  have hl := h1.1
  have hl2 := h2.1
  have z0 := zeroRing
  cases hz1 : trkOk q f k st sf
  · have HZ := Lib.hid hz1
    clear hz1 hz
    go_enter Try.func26, Try.ntmps26
    go_wp2_with fail
    refine (ringOf_no _ _ _ _ _ _ _ _ _ _ (h1.go (below1 _ _)) (h2.go (below1 _ _)) hc HZ.out).mono ?_
    rintro e w2 ⟨rfl, hx⟩
    have hb : Below w.heap.size w w2 := (below1 _ _).trans (hx.mono (by simp))
    clear hx
    go_wp2_with (refine wpList_store_row rfl 62 (.tmp 8) _ rfl _ rfl _ _ (ringC 0 0 0 none 0 0 (fun _ => false)) rfl (heap_alloc_at _ _ _ rfl) ?_ ?_ ring_one ?_; (simp only [ring_size]); (rw [ring_size]; exact sizeRing); intro w4 hC4 hg4 hs4)
    go_ret2
    exact ⟨rfl, (hb.alloc hb.size _).grown hg4 (by simp; have := hb.size; omega) (fun k h => by cases h; exact hb.size)⟩
  have hT := trk_of hz1
  have q4 := hT.q4
  have q60 := hT.q60
  have HZ := Lib.hid hz1
  cases hp : inB p 0 ((st.length : Int) - 1)
  · have HP := Lib.hid hp
    clear hp hz1 hz hT
    go_enter Try.func26, Try.ntmps26
    go_wp2_with fail
    refine (ringOf_yes _ _ _ _ _ _ _ _ _ _ (h1.go (below1 _ _)) (h2.go (below1 _ _)) hc HZ.out).mono ?_
    rintro e w2 ⟨rfl, hx⟩
    have hb : Below w.heap.size w w2 := (below1 _ _).trans (hx.mono (by simp))
    clear hx
    go_wp2_with (first | (refine wpList_store_row rfl 62 (.tmp 8) _ rfl _ rfl _ _ (ringC q f k A1 st.length c1 (safeB sf)) rfl (heap_alloc_at _ _ _ rfl) ?_ ?_ ring_one ?_; (simp only [ring_size]); (rw [ring_size]; exact sizeRing); intro w4 hC4 hg4 hs4) | (go_at_call 59; refine (hasPlayer_any _ _ _ _ _ _ _ _ _ hC4 _ hl).mono ?_; rintro e w' ⟨rfl, rfl⟩; rw [HP.out]))
    go_ret2
    exact ⟨rfl, (hb.alloc hb.size _).grown hg4 (by simp; have := hb.size; omega) (fun k h => by cases h; exact hb.size)⟩
  have hx : inB x 0 (q - 1) = false := by have := hz; rw [sqAskB, hz1, hp] at this; simpa using this
  obtain ⟨m, hm⟩ := Int.eq_ofNat_of_zero_le (inB_iff.1 hp).1
  subst hm
  have HP := Lib.hid hp; have HX := Lib.hid hx
  clear hp hx hz1 hz hT
  go_enter Try.func26, Try.ntmps26
  go_wp2_with fail
  refine (ringOf_yes _ _ _ _ _ _ _ _ _ _ (h1.go (below1 _ _)) (h2.go (below1 _ _)) hc HZ.out).mono ?_
  rintro e w2 ⟨rfl, hx⟩
  have hb : Below w.heap.size w w2 := (below1 _ _).trans (hx.mono (by simp))
  clear hx
  go_wp2_with (first | (refine wpList_store_row rfl 62 (.tmp 8) _ rfl _ rfl _ _ (ringC q f k A1 st.length c1 (safeB sf)) rfl (heap_alloc_at _ _ _ rfl) ?_ ?_ ring_one ?_; (simp only [ring_size]); (rw [ring_size]; exact sizeRing); intro w4 hC4 hg4 hs4) | (go_at_call 59; refine (hasPlayer_any _ _ _ _ _ _ _ _ _ hC4 _ hl).mono ?_; rintro e w' ⟨rfl, rfl⟩; rw [HP.out]) | (go_at_call 60; refine (squareOf_no _ _ _ _ _ _ _ _ _ hC4 m _ q4 q60 HX.out).mono ?_; rintro e w' ⟨rfl, rfl⟩))
  go_ret2
  exact ⟨rfl, (hb.alloc hb.size _).grown hg4 (by simp; have := hb.size; omega) (fun k h => by cases h; exact hb.size)⟩

theorem trackSquare_both (q f k : Int) (st sf : List Int) (p x : Int) : ∃ (y : Int) (ok : Bool),
    (∀ (A1 A2 : Option Addr) (c1 c2 : Nat) (W : World), RI W W.heap.size A1 st → RI W W.heap.size A2 sf → st.length ≤ c1 → Calls Try.prog 25 #[.agg #[.int .i64 q, .int .i64 f, .int .i64 k, .slice A1 st.length c1, .slice A2 sf.length c2], .int .i64 p, .int .i64 x] W fun e w' => e = .returned (.tuple #[.int .i64 y, .bool ok]) ∧ Below W.heap.size W w') ∧
    (∀ (A1 A2 : Option Addr) (c1 c2 : Nat) (W : World), RI W W.heap.size A1 st → RI W W.heap.size A2 sf → st.length ≤ c1 → Calls Try.prog 26 #[.agg #[.int .i64 q, .int .i64 f, .int .i64 k, .slice A1 st.length c1, .slice A2 sf.length c2], .int .i64 p, .int .i64 x] W fun e w' => e = .returned (.tuple #[.int .i64 y, .bool ok]) ∧ Below W.heap.size W w') := by
  cases hz : sqAskB q f k st sf p x
  · exact ⟨0, false, fun _ _ _ _ _ a b c => specTrackSquare_no _ _ _ _ _ _ _ _ _ _ _ _ a b c hz, fun _ _ _ _ _ a b c => implTrackSquare_no _ _ _ _ _ _ _ _ _ _ _ _ a b c hz⟩
  · simp only [sqAskB, Bool.and_eq_true] at hz
    exact ⟨sqr q st p.toNat x, true, fun _ _ _ _ _ a b c => specTrackSquare_yes _ _ _ _ _ _ _ _ _ _ _ _ a b c hz.1 hz.2.1 hz.2.2, fun _ _ _ _ _ a b c => implTrackSquare_yes _ _ _ _ _ _ _ _ _ _ _ _ a b c hz.1 hz.2.1 hz.2.2⟩
end Go.Proofs.Ytpecocmgclancaa

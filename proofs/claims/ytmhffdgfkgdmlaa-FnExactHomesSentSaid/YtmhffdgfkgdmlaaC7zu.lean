/-
  Plays: the model's PlayTrack, MoveThatCannot and HomesSent; both sides.
-/
import Derived.Test.YtmhffdgfkgdmlaaC7zt
import Derived.Test.YtmhffdgfkgdmlaaC7zq
import Derived.Test.YtmhffdgfkgdmlaaC7zn
import Derived.Test.YtmhffdgfkgdmlaaC7zp
namespace Go.Proofs.Ytmhffdgfkgdmlaa
open Go.RowKit

theorem ret_ib {a b : Int} {c : Bool} (h : a = b) : Ending.returned (.tuple #[.int .i64 a, .bool c]) = .returned (.tuple #[.int .i64 b, .bool c]) := by rw [h]

set_option maxRecDepth 100000 in
set_option maxHeartbeats 1000000 in
theorem specPlayTrack_no (q f k : Int) (A1 A2 A3 : Option Addr) (c1 c2 c3 : Nat) (st sf : List Int) (n : Nat) (w : World) (h1 : RI w w.heap.size A1 st) (h2 : RI w w.heap.size A2 sf) (hc : st.length ≤ c1) (hn : n ≤ 1048576) (hz : (trkOk q f k st sf && decide (n ≤ 200)) = false) :
    Calls Try.prog 23 #[.agg #[.int .i64 q, .int .i64 f, .int .i64 k, .slice A1 st.length c1, .slice A2 sf.length c2], .slice A3 n c3] w (GridBack w 0 (fun _ => k.toNat) (fun _ _ => 0) false) := by
  have hl := h1.1
  have hl2 := h2.1
  have hb1 := below1 w (.cells #[.int .i64 q, .int .i64 f, .int .i64 k, .slice A1 st.length c1, .slice A2 sf.length c2] 29)
  have HZ := Lib.hid hz
  clear hz
  go_enter Try.func23, Try.ntmps23
  go_wp2_with fail
  refine (trMoves_any q f k A1 A2 A3 c1 c2 c3 st sf n _ (h1.go hb1) (h2.go hb1) hc hn).mono ?_
  rintro e w2 ⟨rfl, hx⟩
  rw [HZ.out]
  have hb2 := hb1.trans (hx.mono hb1.size)
  go_wp2_with fail
  exact bodyPost_ret (v := .tuple #[.slice none 0 0, .bool false]) (by simp [results, Try.results23]) rfl ⟨none, 0, fun _ => 0, fun _ => 0, rfl, Grid.nil _ _ _ _ _ _ _ _, hb2⟩

set_option maxRecDepth 100000 in
set_option maxHeartbeats 1000000 in
theorem specPlayTrack_yes (q f k : Int) (A1 A2 A3 : Option Addr) (c1 c2 c3 : Nat) (st sf : List Int) (M : List (List Int)) (J : Nat) (w : World) (h1 : RI w w.heap.size A1 st) (h2 : RI w w.heap.size A2 sf) (h3 : RG w w.heap.size A3 M) (hc : st.length ≤ c1) (ht : trkOk q f k st sf = true) (hn : M.length ≤ 200) (hJ : Made q f k st sf M J)
    (r : Bool) (m : Nat) (G : Nat → Nat → Int) (ha : J = M.length → r = true ∧ m = st.length ∧ G = plF q f k st sf M J) (hb : J ≠ M.length → r = false ∧ m = 0 ∧ G = fun _ _ => 0) :
    Calls Try.prog 23 #[.agg #[.int .i64 q, .int .i64 f, .int .i64 k, .slice A1 st.length c1, .slice A2 sf.length c2], .slice A3 M.length c3] w (GridBack w m (fun _ => k.toNat) G r) := by
  have hl := h1.1
  have hl2 := h2.1
  have hb1 := below1 w (.cells #[.int .i64 q, .int .i64 f, .int .i64 k, .slice A1 st.length c1, .slice A2 sf.length c2] 29)
  have hz : (trkOk q f k st sf && decide (M.length ≤ 200)) = true := by rw [ht, decide_eq_true hn]; rfl
  have HZ := Lib.hid hz; have HT := Lib.hid ht; have HJ := Lib.hid hJ; have HA := Lib.hid ha; have HB := Lib.hid hb
  have hle := hJ.le
  clear hz ht hJ ha hb
  have qq := boxcells (Below.refl (w.heap.size + 1) (w.alloc (.cells #[.int .i64 q, .int .i64 f, .int .i64 k, .slice A1 st.length c1, .slice A2 sf.length c2] 29)))
  go_enter Try.func23, Try.ntmps23
  go_wp2_with fail
  clear qq
  refine (trMoves_any q f k A1 A2 A3 c1 c2 c3 st sf M.length _ (h1.go hb1) (h2.go hb1) hc (by omega)).mono ?_
  rintro e w2 ⟨rfl, hx⟩
  rw [HZ.out]
  have hb2 := hb1.trans (hx.mono hb1.size)
  have hbx := box_on (Below.refl (w.heap.size + 1) (w.alloc (.cells #[.int .i64 q, .int .i64 f, .int .i64 k, .slice A1 st.length c1, .slice A2 sf.length c2] 29))) hx (by simp)
  have qq := boxcells hbx
  go_wp2_with fail
  clear qq
  refine (trPlay_any q f k A1 A2 A3 c1 c2 c3 st sf M J _ (h1.go hb2) (h2.go hb2) ((h3.below hb2).more hb2.size) hc HT.out hn HJ.out).mono ?_
  rintro e w3 ⟨hx3, hcase⟩
  have hb3 := hb2.trans (hx3.mono hb2.size)
  rcases hcase with ⟨hJn, A, c, Bk, C, rfl, hG⟩ | ⟨hJn, rfl⟩
  · obtain ⟨rfl, rfl, hGe⟩ := HA.out hJn
    have HG := Lib.hid hGe
    clear hGe hJn
    go_wp2_with fail
    exact bodyPost_ret (v := .tuple #[.slice A st.length c, .bool true]) (by simp [results, Try.results23]) rfl ⟨A, c, Bk, C, rfl, by rw [HG.out]; exact hG.mono hb2.size, hb3⟩
  · obtain ⟨rfl, rfl, rfl⟩ := HB.out hJn
    have hJ0 : ¬ (J : Int) < 0 := by omega
    have hJd : decide ((J : Int) < 0) = false := decide_eq_false hJ0
    clear hJn
    go_wp2_with fail
    exact bodyPost_ret (v := .tuple #[.slice none 0 0, .bool false]) (by simp [results, Try.results23, hJd]) rfl ⟨none, 0, fun _ => 0, fun _ => 0, rfl, Grid.nil _ _ _ _ _ _ _ _, hb3⟩

theorem playTrack_both (q f k : Int) (st sf : List Int) (M : List (List Int)) : ∃ (n : Nat) (len : Nat → Nat) (F : Nat → Nat → Int) (ok : Bool), n ≤ 1048576 ∧ (∀ y, len y ≤ 1048576) ∧
    (∀ (A1 A2 : Option Addr) (c1 c2 : Nat) (A3 : Option Addr) (c3 : Nat) (w : World), RI w w.heap.size A1 st → RI w w.heap.size A2 sf → st.length ≤ c1 → RG w w.heap.size A3 M → Calls Try.prog 23 #[.agg #[.int .i64 q, .int .i64 f, .int .i64 k, .slice A1 st.length c1, .slice A2 sf.length c2], .slice A3 M.length c3] w (GridBack w n len F ok)) ∧
    (∀ (A1 A2 : Option Addr) (c1 c2 : Nat) (A3 : Option Addr) (c3 : Nat) (w : World), RI w w.heap.size A1 st → RI w w.heap.size A2 sf → st.length ≤ c1 → RG w w.heap.size A3 M → Calls Try.prog 25 #[.agg #[.int .i64 q, .int .i64 f, .int .i64 k, .slice A1 st.length c1, .slice A2 sf.length c2], .slice A3 M.length c3] w (GridBack w n len F ok)) := by
  cases h : (trkOk q f k st sf && decide (M.length ≤ 200))
  · exact ⟨0, fun _ => 0, fun _ _ => 0, false, by omega, fun _ => (by show 0 ≤ 1048576; omega),
      fun A1 A2 c1 c2 A3 c3 w a b c d => (specPlayTrack_no q f k A1 A2 A3 c1 c2 c3 st sf M.length w a b c d.1 h).mono fun e w' hg => let ⟨A, c', Bk, C, e1, g, x⟩ := hg; ⟨A, c', Bk, C, e1, g.congr (fun y hy => by omega) (fun y hy => by omega), x⟩,
      fun A1 A2 c1 c2 A3 c3 w a b c d => (implPlayTrack_no q f k A1 A2 A3 c1 c2 c3 st sf M.length w a b c d.1 h).mono fun e w' hg => let ⟨A, c', Bk, C, e1, g, x⟩ := hg; ⟨A, c', Bk, C, e1, g.congr (fun y hy => by omega) (fun y hy => by omega), x⟩⟩
  · rw [Bool.and_eq_true, decide_eq_true_eq] at h
    have hT := trk_of h.1
    have hk4 := hT.k4
    have hn4 := hT.n4
    obtain ⟨J, hJ⟩ := made_ex q f k st sf M
    by_cases hJn : J = M.length
    · exact ⟨st.length, fun _ => k.toNat, _, true, by omega, fun _ => (by show k.toNat ≤ 1048576; omega),
        fun A1 A2 c1 c2 A3 c3 w a b c d => specPlayTrack_yes q f k A1 A2 A3 c1 c2 c3 st sf M J w a b d c h.1 h.2 hJ _ _ _ (fun _ => ⟨rfl, rfl, rfl⟩) (fun e => absurd hJn e),
        fun A1 A2 c1 c2 A3 c3 w a b c d => implPlayTrack_yes q f k A1 A2 A3 c1 c2 c3 st sf M J w a b d c h.1 h.2 hJ _ _ _ (fun _ => ⟨rfl, rfl, rfl⟩) (fun e => absurd hJn e)⟩
    · exact ⟨0, fun _ => k.toNat, _, false, by omega, fun _ => (by show k.toNat ≤ 1048576; omega),
        fun A1 A2 c1 c2 A3 c3 w a b c d => specPlayTrack_yes q f k A1 A2 A3 c1 c2 c3 st sf M J w a b d c h.1 h.2 hJ _ _ _ (fun e => absurd e hJn) (fun _ => ⟨rfl, rfl, rfl⟩),
        fun A1 A2 c1 c2 A3 c3 w a b c d => implPlayTrack_yes q f k A1 A2 A3 c1 c2 c3 st sf M J w a b d c h.1 h.2 hJ _ _ _ (fun e => absurd e hJn) (fun _ => ⟨rfl, rfl, rfl⟩)⟩

set_option maxRecDepth 100000 in
set_option maxHeartbeats 1000000 in
theorem specMoveThatCannot_no (q f k : Int) (A1 A2 A3 : Option Addr) (c1 c2 c3 : Nat) (st sf : List Int) (n : Nat) (w : World) (h1 : RI w w.heap.size A1 st) (h2 : RI w w.heap.size A2 sf) (hc : st.length ≤ c1) (hn : n ≤ 1048576) (hz : (trkOk q f k st sf && decide (n ≤ 200)) = false) :
    Calls Try.prog 26 #[.agg #[.int .i64 q, .int .i64 f, .int .i64 k, .slice A1 st.length c1, .slice A2 sf.length c2], .slice A3 n c3] w (fun e w' => e = .returned (.tuple #[.int .i64 0, .bool false]) ∧ Below w.heap.size w w') := by
  have hl := h1.1
  have hl2 := h2.1
  have hb1 := below1 w (.cells #[.int .i64 q, .int .i64 f, .int .i64 k, .slice A1 st.length c1, .slice A2 sf.length c2] 29)
  have HZ := Lib.hid hz
  clear hz
  go_enter Try.func26, Try.ntmps26
  go_wp2_with fail
  refine (trMoves_any q f k A1 A2 A3 c1 c2 c3 st sf n _ (h1.go hb1) (h2.go hb1) hc hn).mono ?_
  rintro e w2 ⟨rfl, hx⟩
  rw [HZ.out]
  have hb2 := hb1.trans (hx.mono hb1.size)
  go_wp2_with fail
  go_ret2
  exact ⟨rfl, hb2⟩

set_option maxRecDepth 100000 in
set_option maxHeartbeats 1000000 in
theorem specMoveThatCannot_yes (q f k : Int) (A1 A2 A3 : Option Addr) (c1 c2 c3 : Nat) (st sf : List Int) (M : List (List Int)) (J : Nat) (w : World) (h1 : RI w w.heap.size A1 st) (h2 : RI w w.heap.size A2 sf) (h3 : RG w w.heap.size A3 M) (hc : st.length ≤ c1) (ht : trkOk q f k st sf = true) (hn : M.length ≤ 200) (hJ : Made q f k st sf M J)
    (v : Int) (r : Bool) (ha : J = M.length → v = 0 ∧ r = false) (hb : J ≠ M.length → v = (J : Int) ∧ r = true) :
    Calls Try.prog 26 #[.agg #[.int .i64 q, .int .i64 f, .int .i64 k, .slice A1 st.length c1, .slice A2 sf.length c2], .slice A3 M.length c3] w (fun e w' => e = .returned (.tuple #[.int .i64 v, .bool r]) ∧ Below w.heap.size w w') := by
  have hl := h1.1
  have hl2 := h2.1
  have hb1 := below1 w (.cells #[.int .i64 q, .int .i64 f, .int .i64 k, .slice A1 st.length c1, .slice A2 sf.length c2] 29)
  have hz : (trkOk q f k st sf && decide (M.length ≤ 200)) = true := by rw [ht, decide_eq_true hn]; rfl
  have HZ := Lib.hid hz; have HT := Lib.hid ht; have HJ := Lib.hid hJ; have HA := Lib.hid ha; have HB := Lib.hid hb
  have hle := hJ.le
  clear hz ht hJ ha hb
  have qq := boxcells (Below.refl (w.heap.size + 1) (w.alloc (.cells #[.int .i64 q, .int .i64 f, .int .i64 k, .slice A1 st.length c1, .slice A2 sf.length c2] 29)))
  go_enter Try.func26, Try.ntmps26
  go_wp2_with fail
  clear qq
  refine (trMoves_any q f k A1 A2 A3 c1 c2 c3 st sf M.length _ (h1.go hb1) (h2.go hb1) hc (by omega)).mono ?_
  rintro e w2 ⟨rfl, hx⟩
  rw [HZ.out]
  have hb2 := hb1.trans (hx.mono hb1.size)
  have hbx := box_on (Below.refl (w.heap.size + 1) (w.alloc (.cells #[.int .i64 q, .int .i64 f, .int .i64 k, .slice A1 st.length c1, .slice A2 sf.length c2] 29))) hx (by simp)
  have qq := boxcells hbx
  go_wp2_with fail
  clear qq
  refine (trPlay_any q f k A1 A2 A3 c1 c2 c3 st sf M J _ (h1.go hb2) (h2.go hb2) ((h3.below hb2).more hb2.size) hc HT.out hn HJ.out).mono ?_
  rintro e w3 ⟨hx3, hcase⟩
  have hb3 := hb2.trans (hx3.mono hb2.size)
  rcases hcase with ⟨hJn, A, c, Bk, C, rfl, hG⟩ | ⟨hJn, rfl⟩
  · obtain ⟨rfl, rfl⟩ := HA.out hJn
    clear hJn
    go_wp2_with fail
    go_ret2
    exact ⟨rfl, hb3⟩
  · obtain ⟨rfl, rfl⟩ := HB.out hJn
    have hJ0 : ¬ (J : Int) < 0 := by omega
    clear hJn
    go_wp2_with fail
    go_ret2
    exact ⟨rfl, hb3⟩

theorem moveThatCannot_both (q f k : Int) (st sf : List Int) (M : List (List Int)) : ∃ (y : Int) (ok : Bool),
    (∀ (A1 A2 : Option Addr) (c1 c2 : Nat) (A3 : Option Addr) (c3 : Nat) (w : World), RI w w.heap.size A1 st → RI w w.heap.size A2 sf → st.length ≤ c1 → RG w w.heap.size A3 M → Calls Try.prog 26 #[.agg #[.int .i64 q, .int .i64 f, .int .i64 k, .slice A1 st.length c1, .slice A2 sf.length c2], .slice A3 M.length c3] w fun e w' => e = .returned (.tuple #[.int .i64 y, .bool ok]) ∧ Below w.heap.size w w') ∧
    (∀ (A1 A2 : Option Addr) (c1 c2 : Nat) (A3 : Option Addr) (c3 : Nat) (w : World), RI w w.heap.size A1 st → RI w w.heap.size A2 sf → st.length ≤ c1 → RG w w.heap.size A3 M → Calls Try.prog 27 #[.agg #[.int .i64 q, .int .i64 f, .int .i64 k, .slice A1 st.length c1, .slice A2 sf.length c2], .slice A3 M.length c3] w fun e w' => e = .returned (.tuple #[.int .i64 y, .bool ok]) ∧ Below w.heap.size w w') := by
  cases h : (trkOk q f k st sf && decide (M.length ≤ 200))
  · exact ⟨0, false, fun A1 A2 c1 c2 A3 c3 w a b c d => specMoveThatCannot_no q f k A1 A2 A3 c1 c2 c3 st sf M.length w a b c d.1 h, fun A1 A2 c1 c2 A3 c3 w a b c d => implMoveThatCannot_no q f k A1 A2 A3 c1 c2 c3 st sf M.length w a b c d.1 h⟩
  · rw [Bool.and_eq_true, decide_eq_true_eq] at h
    obtain ⟨J, hJ⟩ := made_ex q f k st sf M
    by_cases hJn : J = M.length
    · exact ⟨(0 : Int), false, fun A1 A2 c1 c2 A3 c3 w a b c d => specMoveThatCannot_yes q f k A1 A2 A3 c1 c2 c3 st sf M J w a b d c h.1 h.2 hJ _ _ (fun _ => ⟨rfl, rfl⟩) (fun e => absurd hJn e),
        fun A1 A2 c1 c2 A3 c3 w a b c d => implMoveThatCannot_yes q f k A1 A2 A3 c1 c2 c3 st sf M J w a b d c h.1 h.2 hJ _ _ (fun _ => ⟨rfl, rfl⟩) (fun e => absurd hJn e)⟩
    · exact ⟨(J : Int), true, fun A1 A2 c1 c2 A3 c3 w a b c d => specMoveThatCannot_yes q f k A1 A2 A3 c1 c2 c3 st sf M J w a b d c h.1 h.2 hJ _ _ (fun e => absurd e hJn) (fun _ => ⟨rfl, rfl⟩),
        fun A1 A2 c1 c2 A3 c3 w a b c d => implMoveThatCannot_yes q f k A1 A2 A3 c1 c2 c3 st sf M J w a b d c h.1 h.2 hJ _ _ (fun e => absurd e hJn) (fun _ => ⟨rfl, rfl⟩)⟩

set_option maxRecDepth 100000 in
set_option maxHeartbeats 1000000 in
theorem specHomesSent_no (q f k : Int) (A1 A2 A3 : Option Addr) (c1 c2 c3 : Nat) (st sf : List Int) (n : Nat) (w : World) (h1 : RI w w.heap.size A1 st) (h2 : RI w w.heap.size A2 sf) (hc : st.length ≤ c1) (hn : n ≤ 1048576) (hz : (trkOk q f k st sf && decide (n ≤ 200)) = false) :
    Calls Try.prog 28 #[.agg #[.int .i64 q, .int .i64 f, .int .i64 k, .slice A1 st.length c1, .slice A2 sf.length c2], .slice A3 n c3] w (fun e w' => e = .returned (.tuple #[.int .i64 0, .bool false]) ∧ Below w.heap.size w w') := by
  have hl := h1.1
  have hl2 := h2.1
  have hb1 := below1 w (.cells #[.int .i64 q, .int .i64 f, .int .i64 k, .slice A1 st.length c1, .slice A2 sf.length c2] 29)
  have HZ := Lib.hid hz
  clear hz
  go_enter Try.func28, Try.ntmps28
  go_wp2_with fail
  refine (trMoves_any q f k A1 A2 A3 c1 c2 c3 st sf n _ (h1.go hb1) (h2.go hb1) hc hn).mono ?_
  rintro e w2 ⟨rfl, hx⟩
  rw [HZ.out]
  have hb2 := hb1.trans (hx.mono hb1.size)
  go_wp2_with fail
  go_ret2
  exact ⟨rfl, hb2⟩

set_option maxRecDepth 100000 in
set_option maxHeartbeats 1000000 in
theorem specHomesSent_yes (q f k : Int) (A1 A2 A3 : Option Addr) (c1 c2 c3 : Nat) (st sf : List Int) (M : List (List Int)) (J : Nat) (w : World) (h1 : RI w w.heap.size A1 st) (h2 : RI w w.heap.size A2 sf) (h3 : RG w w.heap.size A3 M) (hc : st.length ≤ c1) (ht : trkOk q f k st sf = true) (hn : M.length ≤ 200) (hJ : Made q f k st sf M J)
    (v : Int) (r : Bool) (ha : J = M.length → v = (plS q f k st sf M J : Int) ∧ r = true) (hb : J ≠ M.length → v = 0 ∧ r = false) :
    Calls Try.prog 28 #[.agg #[.int .i64 q, .int .i64 f, .int .i64 k, .slice A1 st.length c1, .slice A2 sf.length c2], .slice A3 M.length c3] w (fun e w' => e = .returned (.tuple #[.int .i64 v, .bool r]) ∧ Below w.heap.size w w') := by
  have hl := h1.1
  have hl2 := h2.1
  have hb1 := below1 w (.cells #[.int .i64 q, .int .i64 f, .int .i64 k, .slice A1 st.length c1, .slice A2 sf.length c2] 29)
  have hz : (trkOk q f k st sf && decide (M.length ≤ 200)) = true := by rw [ht, decide_eq_true hn]; rfl
  have HZ := Lib.hid hz; have HT := Lib.hid ht; have HJ := Lib.hid hJ; have HA := Lib.hid ha; have HB := Lib.hid hb
  have hle := hJ.le
  clear hz ht hJ ha hb
  have qq := boxcells (Below.refl (w.heap.size + 1) (w.alloc (.cells #[.int .i64 q, .int .i64 f, .int .i64 k, .slice A1 st.length c1, .slice A2 sf.length c2] 29)))
  go_enter Try.func28, Try.ntmps28
  go_wp2_with fail
  clear qq
  refine (trMoves_any q f k A1 A2 A3 c1 c2 c3 st sf M.length _ (h1.go hb1) (h2.go hb1) hc (by omega)).mono ?_
  rintro e w2 ⟨rfl, hx⟩
  rw [HZ.out]
  have hb2 := hb1.trans (hx.mono hb1.size)
  have hbx := box_on (Below.refl (w.heap.size + 1) (w.alloc (.cells #[.int .i64 q, .int .i64 f, .int .i64 k, .slice A1 st.length c1, .slice A2 sf.length c2] 29))) hx (by simp)
  have qq := boxcells hbx
  go_wp2_with fail
  clear qq
  refine (trPlay_any q f k A1 A2 A3 c1 c2 c3 st sf M J _ (h1.go hb2) (h2.go hb2) ((h3.below hb2).more hb2.size) hc HT.out hn HJ.out).mono ?_
  rintro e w3 ⟨hx3, hcase⟩
  have hb3 := hb2.trans (hx3.mono hb2.size)
  rcases hcase with ⟨hJn, A, c, Bk, C, rfl, hG⟩ | ⟨hJn, rfl⟩
  · obtain ⟨hv, rfl⟩ := HA.out hJn
    have HV := Lib.hid hv
    clear hJn hv
    obtain ⟨s, hs⟩ : ∃ s : Int, s = (plS q f k st sf M J : Int) := ⟨_, rfl⟩
    rw [← hs]
    have HS := Lib.hid hs
    clear hs
    go_wp2_with fail
    go_ret2
    exact ⟨ret_ib (HS.out.trans HV.out.symm), hb3⟩
  · obtain ⟨rfl, rfl⟩ := HB.out hJn
    have hJ0 : ¬ (J : Int) < 0 := by omega
    have hJd : decide ((J : Int) < 0) = false := decide_eq_false hJ0
    clear hJn
    go_wp2_with fail
    go_ret2
    exact ⟨rfl, hb3⟩

theorem homesSent_both (q f k : Int) (st sf : List Int) (M : List (List Int)) : ∃ (y : Int) (ok : Bool),
    (∀ (A1 A2 : Option Addr) (c1 c2 : Nat) (A3 : Option Addr) (c3 : Nat) (w : World), RI w w.heap.size A1 st → RI w w.heap.size A2 sf → st.length ≤ c1 → RG w w.heap.size A3 M → Calls Try.prog 28 #[.agg #[.int .i64 q, .int .i64 f, .int .i64 k, .slice A1 st.length c1, .slice A2 sf.length c2], .slice A3 M.length c3] w fun e w' => e = .returned (.tuple #[.int .i64 y, .bool ok]) ∧ Below w.heap.size w w') ∧
    (∀ (A1 A2 : Option Addr) (c1 c2 : Nat) (A3 : Option Addr) (c3 : Nat) (w : World), RI w w.heap.size A1 st → RI w w.heap.size A2 sf → st.length ≤ c1 → RG w w.heap.size A3 M → Calls Try.prog 29 #[.agg #[.int .i64 q, .int .i64 f, .int .i64 k, .slice A1 st.length c1, .slice A2 sf.length c2], .slice A3 M.length c3] w fun e w' => e = .returned (.tuple #[.int .i64 y, .bool ok]) ∧ Below w.heap.size w w') := by
  cases h : (trkOk q f k st sf && decide (M.length ≤ 200))
  · exact ⟨0, false, fun A1 A2 c1 c2 A3 c3 w a b c d => specHomesSent_no q f k A1 A2 A3 c1 c2 c3 st sf M.length w a b c d.1 h, fun A1 A2 c1 c2 A3 c3 w a b c d => implHomesSent_no q f k A1 A2 A3 c1 c2 c3 st sf M.length w a b c d.1 h⟩
  · rw [Bool.and_eq_true, decide_eq_true_eq] at h
    obtain ⟨J, hJ⟩ := made_ex q f k st sf M
    by_cases hJn : J = M.length
    · exact ⟨(plS q f k st sf M J : Int), true, fun A1 A2 c1 c2 A3 c3 w a b c d => specHomesSent_yes q f k A1 A2 A3 c1 c2 c3 st sf M J w a b d c h.1 h.2 hJ _ _ (fun _ => ⟨rfl, rfl⟩) (fun e => absurd hJn e),
        fun A1 A2 c1 c2 A3 c3 w a b c d => implHomesSent_yes q f k A1 A2 A3 c1 c2 c3 st sf M J w a b d c h.1 h.2 hJ _ _ (fun _ => ⟨rfl, rfl⟩) (fun e => absurd hJn e)⟩
    · exact ⟨(0 : Int), false, fun A1 A2 c1 c2 A3 c3 w a b c d => specHomesSent_yes q f k A1 A2 A3 c1 c2 c3 st sf M J w a b d c h.1 h.2 hJ _ _ (fun e => absurd e hJn) (fun _ => ⟨rfl, rfl⟩),
        fun A1 A2 c1 c2 A3 c3 w a b c d => implHomesSent_yes q f k A1 A2 A3 c1 c2 c3 st sf M J w a b d c h.1 h.2 hJ _ _ (fun e => absurd e hJn) (fun _ => ⟨rfl, rfl⟩)⟩
end Go.Proofs.Ytmhffdgfkgdmlaa

/-
  Plays: the program's TrackStart. Plays: TrackStart, both sides.
-/
import Derived.Test.YtmhffdgfkgdmlaaC7zq
import Derived.Test.YtmhffdgfkgdmlaaC7zj
namespace Go.Proofs.Ytmhffdgfkgdmlaa
open Go.RowKit

theorem made_nil (q f k : Int) (st sf : List Int) : Made q f k st sf [] 0 := ⟨Nat.le_refl _, fun i h => by omega, fun h => by simp at h⟩
set_option maxRecDepth 100000 in
set_option maxHeartbeats 1000000 in
theorem implTrackStart_any (q f k : Int) (A1 A2 : Option Addr) (c1 c2 : Nat) (st sf : List Int) (w : World) (h1 : RI w w.heap.size A1 st) (h2 : RI w w.heap.size A2 sf) (hc : st.length ≤ c1)
    (r : Bool) (hr : trkOk q f k st sf = r) (m : Nat) (G : Nat → Nat → Int) (ha : r = true → m = st.length ∧ G = alikeFV st.length k q (-1)) (hb : r = false → m = 0 ∧ G = fun _ _ => 0) :
    Calls Try.prog 16 #[.agg #[.int .i64 q, .int .i64 f, .int .i64 k, .slice A1 st.length c1, .slice A2 sf.length c2]] w (GridBack w m (fun _ => k.toNat) G r) := by
  have hb1 : ∀ o, Below w.heap.size w (w.alloc o) := fun o => Below.alloc (Below.refl _ w) (Nat.le_refl _) o
  have h3 : ∀ o, RG (w.alloc o) (w.alloc o).heap.size none [] := fun o => ⟨by simp, .inl rfl⟩
  cases r
  · obtain ⟨rfl, rfl⟩ := hb rfl
    have HR := Lib.hid hr
    clear hr ha hb
    go_enter Try.func16, Try.ntmps16
    go_wp2_with fail
    refine (implPlayTrack_no q f k A1 A2 none c1 c2 0 st sf 0 _ (h1.go (hb1 _)) (h2.go (hb1 _)) hc (by omega) (by rw [HR.out]; rfl)).mono ?_
    rintro e w2 ⟨A, c, Bk, C, rfl, hG, hx⟩
    go_wp2_with fail
    exact bodyPost_ret (v := .tuple #[.slice A 0 c, .bool false]) (by simp [results, Try.results16]) rfl ⟨A, c, Bk, C, rfl, hG.mono (by simp), (hb1 _).trans (hx.mono (by simp))⟩
  · obtain ⟨rfl, hG0⟩ := ha rfl
    have HR := Lib.hid hr; have HG := Lib.hid hG0
    clear hr ha hb hG0
    go_enter Try.func16, Try.ntmps16
    go_wp2_with fail
    refine (implPlayTrack_yes q f k A1 A2 none c1 c2 0 st sf [] 0 _ (h1.go (hb1 _)) (h2.go (hb1 _)) (h3 _) hc HR.out (by simp) (made_nil q f k st sf) true st.length G (fun _ => ⟨rfl, rfl, HG.out⟩) (fun h => absurd rfl h)).mono ?_
    rintro e w2 ⟨A, c, Bk, C, rfl, hG, hx⟩
    go_wp2_with fail
    exact bodyPost_ret (v := .tuple #[.slice A st.length c, .bool true]) (by simp [results, Try.results16]) rfl ⟨A, c, Bk, C, rfl, hG.mono (by simp), (hb1 _).trans (hx.mono (by simp))⟩
end Go.Proofs.Ytmhffdgfkgdmlaa

namespace Go.Proofs.Ytmhffdgfkgdmlaa
open Go.RowKit

set_option maxRecDepth 100000 in
set_option maxHeartbeats 1000000 in
theorem specTrackStart_any (q f k : Int) (A1 A2 : Option Addr) (c1 c2 : Nat) (st sf : List Int) (w : World) (h1 : RI w w.heap.size A1 st) (h2 : RI w w.heap.size A2 sf) (hc : st.length ≤ c1)
    (r : Bool) (hr : trkOk q f k st sf = r) (m : Nat) (G : Nat → Nat → Int) (ha : r = true → m = st.length ∧ G = fun _ _ => -1) (hb : r = false → m = 0 ∧ G = fun _ _ => 0) :
    Calls Try.prog 14 #[.agg #[.int .i64 q, .int .i64 f, .int .i64 k, .slice A1 st.length c1, .slice A2 sf.length c2]] w (GridBack w m (fun _ => k.toNat) G r) := by
  have hb1 : ∀ o, Below w.heap.size w (w.alloc o) := fun o => Below.alloc (Below.refl _ w) (Nat.le_refl _) o
  have HR := Lib.hid hr; have HA := Lib.hid ha; have HB := Lib.hid hb
  clear hr ha hb
  go_enter Try.func14, Try.ntmps14
  go_wp2_with fail
  refine (trGood_any _ _ _ _ _ _ _ _ _ _ (h1.go (hb1 _)) (h2.go (hb1 _)) hc).mono ?_
  rintro e w2 ⟨rfl, hx⟩
  rw [HR.out]
  have hb := box_on (Below.refl _ _) hx (by simp)
  have qq := boxcells hb
  have hb2 : Below w.heap.size w w2 := (hb1 _).trans (hx.mono (by simp))
  cases r
  · obtain ⟨rfl, rfl⟩ := HB.out rfl
    go_wp2_with fail
    exact bodyPost_ret (v := .tuple #[.slice none 0 0, .bool false]) (by simp [results, Try.results14]) rfl ⟨none, 0, fun _ => 0, fun _ => 0, rfl, Grid.nil _ _ _ _ _ _ _ _, hb2⟩
  · obtain ⟨rfl, rfl⟩ := HA.out rfl
    have hT := trk_of HR.out
    have hk1 := hT.k1
    have hk4 := hT.k4
    have hn4 := hT.n4
    clear hT
    go_wp2_with fail
    refine (trStart_any q f k A1 A2 st.length c1 sf.length c2 _ hn4 hk1 hk4).mono ?_
    rintro e w4 ⟨A, c, Bk, C, rfl, hG, hx4⟩
    have hs2 := hb2.size
    go_wp2_with fail
    exact bodyPost_ret (v := .tuple #[.slice A st.length c, .bool true]) (by simp [results, Try.results14]) rfl ⟨A, c, Bk, C, rfl, hG.mono hs2, hb2.trans (hx4.mono hs2)⟩

theorem trackStart_both (q f k : Int) (st sf : List Int) : ∃ (n : Nat) (len : Nat → Nat) (F : Nat → Nat → Int) (ok : Bool), n ≤ 1048576 ∧ (∀ y, len y ≤ 1048576) ∧
    (∀ (A1 A2 : Option Addr) (c1 c2 : Nat) (w : World), RI w w.heap.size A1 st → RI w w.heap.size A2 sf → st.length ≤ c1 → Calls Try.prog 14 #[.agg #[.int .i64 q, .int .i64 f, .int .i64 k, .slice A1 st.length c1, .slice A2 sf.length c2]] w (GridBack w n len F ok)) ∧
    (∀ (A1 A2 : Option Addr) (c1 c2 : Nat) (w : World), RI w w.heap.size A1 st → RI w w.heap.size A2 sf → st.length ≤ c1 → Calls Try.prog 16 #[.agg #[.int .i64 q, .int .i64 f, .int .i64 k, .slice A1 st.length c1, .slice A2 sf.length c2]] w (GridBack w n len F ok)) := by
  cases h : trkOk q f k st sf
  · exact ⟨0, fun _ => 0, fun _ _ => 0, false, by omega, fun _ => (by show 0 ≤ 1048576; omega),
      fun A1 A2 c1 c2 w a b c => (specTrackStart_any q f k A1 A2 c1 c2 st sf w a b c false h 0 _ (fun e => by cases e) (fun _ => ⟨rfl, rfl⟩)).mono fun e w' hg => let ⟨A, c', Bk, C, e1, g, x⟩ := hg; ⟨A, c', Bk, C, e1, g.congr (fun y hy => by omega) (fun y hy => by omega), x⟩,
      fun A1 A2 c1 c2 w a b c => (implTrackStart_any q f k A1 A2 c1 c2 st sf w a b c false h 0 _ (fun e => by cases e) (fun _ => ⟨rfl, rfl⟩)).mono fun e w' hg => let ⟨A, c', Bk, C, e1, g, x⟩ := hg; ⟨A, c', Bk, C, e1, g.congr (fun y hy => by omega) (fun y hy => by omega), x⟩⟩
  · have hT := trk_of h
    have hk4 := hT.k4
    have hk1 := hT.k1
    have hn4 := hT.n4
    exact ⟨st.length, fun _ => k.toNat, fun _ _ => -1, true, by omega, fun _ => (by show k.toNat ≤ 1048576; omega),
      fun A1 A2 c1 c2 w a b c => specTrackStart_any q f k A1 A2 c1 c2 st sf w a b c true h _ _ (fun _ => ⟨rfl, rfl⟩) (fun e => by cases e),
      fun A1 A2 c1 c2 w a b c => (implTrackStart_any q f k A1 A2 c1 c2 st sf w a b c true h st.length (alikeFV st.length k q (-1)) (fun _ => ⟨rfl, rfl⟩) (fun e => by cases e)).mono fun e w' hg => let ⟨A, c', Bk, C, e1, g, x⟩ := hg; ⟨A, c', Bk, C, e1, g.congr (fun _ _ => rfl) (fun y hy j hj => by unfold alikeFV; rw [if_pos ⟨hy, by omega⟩]), x⟩⟩
end Go.Proofs.Ytmhffdgfkgdmlaa

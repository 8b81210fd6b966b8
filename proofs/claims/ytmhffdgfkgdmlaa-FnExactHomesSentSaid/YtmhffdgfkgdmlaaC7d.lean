/-
  Tracks: the program's IsTrack; hasPlayer, hasFace, hasPawn, hasMove, squareOf.
-/
import Derived.Test.YtmhffdgfkgdmlaaC7c
import Derived.Test.YtmhffdgfkgdmlaaM60
namespace Go.Proofs.Ytmhffdgfkgdmlaa
open Go.RowKit

theorem ringOf_yes (q f k : Int) (A1 A2 : Option Addr) (c1 c2 : Nat) (st sf : List Int) (w : World) (h1 : RI w w.heap.size A1 st) (h2 : RI w w.heap.size A2 sf) (hc : st.length ≤ c1) (hz : trkOk q f k st sf = true) :
    Calls Try.prog 84 #[.agg #[.int .i64 q, .int .i64 f, .int .i64 k, .slice A1 st.length c1, .slice A2 sf.length c2]] w fun e w' => e = .returned (.tuple #[.agg (ringC q f k A1 st.length c1 (safeB sf)), .bool true]) ∧ Below w.heap.size w w' :=
  ringOf_any q f k A1 A2 c1 c2 st sf w h1 h2 hc _ _ hz rfl
theorem ringOf_no (q f k : Int) (A1 A2 : Option Addr) (c1 c2 : Nat) (st sf : List Int) (w : World) (h1 : RI w w.heap.size A1 st) (h2 : RI w w.heap.size A2 sf) (hc : st.length ≤ c1) (hz : trkOk q f k st sf = false) :
    Calls Try.prog 84 #[.agg #[.int .i64 q, .int .i64 f, .int .i64 k, .slice A1 st.length c1, .slice A2 sf.length c2]] w fun e w' => e = .returned (.tuple #[.agg (ringC 0 0 0 none 0 0 (fun _ => false)), .bool false]) ∧ Below w.heap.size w w' :=
  ringOf_any q f k A1 A2 c1 c2 st sf w h1 h2 hc _ _ hz rfl
/-- What ringOf hands back, told by variables. -/
theorem ring_told (q f k : Int) (A1 : Option Addr) (c1 : Nat) (st sf : List Int) : ∃ (V : Array Value) (r : Bool), trkOk q f k st sf = r ∧ V = (if r = true then ringC q f k A1 st.length c1 (safeB sf) else ringC 0 0 0 none 0 0 (fun _ => false)) ∧ V.size = 64 ∧ ∀ u ∈ V.toList, u.oneCell' = true := by
  refine ⟨_, _, rfl, rfl, ?_, ?_⟩
  · cases trkOk q f k st sf <;> simp [ring_size]
  · cases trkOk q f k st sf
    · exact ring_one
    · exact ring_one


section
variable (g : Nat) (q f k : Int) (A : Option Addr) (n c : Nat) (S : Nat → Bool) (w : World) (hR : RA w g 75 q f k A n c S)
include hR

theorem hasPlayer_any (x : Int) (hn : n ≤ 1048576) : Calls Try.prog 127 #[.pointer (some ⟨g, 0, none⟩), .int .i64 x] w fun e w' => e = .returned (.bool (inB x 0 ((n : Int) - 1))) ∧ w = w' := by
  have c3 := hR.c3
  have i4 : IntKind.i64.wrap ((n : Int) - 1) = (n : Int) - 1 := IntWalk.i64_in _ (by omega)
  go_enter Try.func127, Try.ntmps127
  go_wp2_with (go_at_call 123; refine (isWithin_any _ _ _ _).mono ?_; rintro e w' ⟨rfl, rfl⟩)
  go_ret
  exact ⟨rfl, rfl⟩

theorem hasFace_any (x : Int) : Calls Try.prog 139 #[.pointer (some ⟨g, 0, none⟩), .int .i64 x] w fun e w' => e = .returned (.bool (inB x 1 f)) ∧ w = w' := by
  have c1 := hR.c1
  go_enter Try.func139, Try.ntmps139
  go_wp2_with (go_at_call 123; refine (isWithin_any _ _ _ _).mono ?_; rintro e w' ⟨rfl, rfl⟩)
  go_ret
  exact ⟨rfl, rfl⟩

theorem squareOf_no (p : Nat) (x : Int) (h4 : 4 ≤ q) (h6 : q ≤ 60) (hx : inB x 0 (q - 1) = false) : Calls Try.prog 130 #[.pointer (some ⟨g, 0, none⟩), .int .i64 p, .int .i64 x] w fun e w' => e = .returned (.tuple #[.int .i64 0, .bool false]) ∧ w = w' := by
  have c0 := hR.c0
  have i4 : IntKind.i64.wrap (q - 1) = q - 1 := IntWalk.i64_in _ (by omega)
  have HX := Lib.hid hx
  clear hx
  go_enter Try.func130, Try.ntmps130
  go_wp2_with (go_at_call 123; refine (isWithin_any _ _ _ _).mono ?_; rintro e w' ⟨rfl, rfl⟩; rw [HX.out])
  go_ret2
  exact ⟨rfl, rfl⟩

theorem squareOf_q (st : List Int) (p : Nat) (x : Int) (hn : n = st.length) (hj : RI w w.heap.size A st) (h4 : 4 ≤ q) (h6 : q ≤ 60) (hp : p < st.length) (h0 : 0 ≤ st[p] ∧ st[p] < q) (hx : inB x 0 (q - 1) = true) : Calls Try.prog 130 #[.pointer (some ⟨g, 0, none⟩), .int .i64 p, .int .i64 x] w fun e w' => e = .returned (.tuple #[.int .i64 (sqr q st p x), .bool true]) ∧ ∃ m, w' = w.drewN m := by
  subst hn
  have hl := hj.1
  have c0 := hR.c0
  have c3 := hR.c3
  have hgz := hR.lt
  have hxb := inB_iff.1 hx
  obtain ⟨b, off, rfl, hB, h3⟩ := hj.at_ (Below.refl _ _) hp
  rw [sqr_in hx, show st.getD p 0 = st[p] by simp [List.getD_eq_getElem?_getD, List.getElem?_eq_getElem hp]]
  obtain ⟨y, hy⟩ : ∃ y, y = st[p] := ⟨_, rfl⟩
  rw [← hy] at h3 h0 ⊢
  clear hy
  have i4 : IntKind.i64.wrap (q - 1) = q - 1 := IntWalk.i64_in _ (by omega)
  have i5 : IntKind.i64.wrap (y + x) = y + x := IntWalk.i64_in _ (by omega)
  have i6 : (y + x).tmod q = (y + x) % q := Int.tmod_eq_emod_of_nonneg (by omega)
  have i8 : 0 ≤ (y + x) % q ∧ (y + x) % q < q := ⟨Int.emod_nonneg _ (by omega), Int.emod_lt_of_pos _ (by omega)⟩
  obtain ⟨m, hm⟩ : ∃ m, m = (y + x) % q := ⟨_, rfl⟩
  rw [← hm] at i6 i8 ⊢
  clear hm
  have i7 : IntKind.i64.wrap m = m := IntWalk.i64_in _ (by omega)
  have i9 : ¬ q = 0 := by omega
  have j0 : (0 : Int) ≤ (p : Int) := by omega
  have j1 : (p : Int) < (st.length : Int) := by omega
  have j2 : ((p : Int)).toNat = p := by omega
  have HX := Lib.hid hx
  clear hx
  go_enter Try.func130, Try.ntmps130
  go_wp2_with (go_at_call 123; refine (isWithin_any _ _ _ _).mono ?_; rintro e w' ⟨rfl, rfl⟩; rw [HX.out])
  go_quiet (fail)
  go_wp2
  go_ret2
  exact ⟨rfl, _, rfl⟩
theorem squareOf_yes (st : List Int) (p : Nat) (x : Int) (hn : n = st.length) (hj : RI w w.heap.size A st) (h4 : 4 ≤ q) (h6 : q ≤ 60) (hp : p < st.length) (h0 : 0 ≤ st[p] ∧ st[p] < q) (hx : inB x 0 (q - 1) = true) : Calls Try.prog 130 #[.pointer (some ⟨g, 0, none⟩), .int .i64 p, .int .i64 x] w fun e w' => e = .returned (.tuple #[.int .i64 (sqr q st p x), .bool true]) ∧ Below w.heap.size w w' :=
  (squareOf_q g q f k A n c S w hR st p x hn hj h4 h6 hp h0 hx).mono fun _ _ ⟨he, m, hm⟩ => ⟨he, by rw [hm]; exact drewB (Below.refl _ _) _⟩
end
end Go.Proofs.Ytmhffdgfkgdmlaa

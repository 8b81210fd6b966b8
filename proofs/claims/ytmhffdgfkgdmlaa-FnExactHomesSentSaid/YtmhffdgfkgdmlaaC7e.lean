/-
  Tracks: the model's trSquare; IsTrack and TrackSquare on both sides.
-/
import Derived.Test.YtmhffdgfkgdmlaaC7d
namespace Go.Proofs.Ytmhffdgfkgdmlaa
open Go.RowKit

theorem trSquare_no (q f k : Int) (A1 A2 : Option Addr) (n1 c1 n2 c2 : Nat) (p : Int) (x : Int) (w : World) (h4 : 4 ≤ q) (h6 : q ≤ 60) (hx : inB x 0 (q - 1) = false) :
    Calls Try.prog 103 #[.agg #[.int .i64 q, .int .i64 f, .int .i64 k, .slice A1 n1 c1, .slice A2 n2 c2], .int .i64 p, .int .i64 x] w fun e w' => e = .returned (.int .i64 (-1)) ∧ Below w.heap.size w w' := by
  have i4 : IntKind.i64.wrap (q - 1) = q - 1 := IntWalk.i64_in _ (by omega)
  have HX := Lib.hid hx
  clear hx
  go_enter Try.func103, Try.ntmps103
  go_wp2_with (go_at_call 76; refine (l1In_any _ _ _ _).mono ?_; rintro e w' ⟨rfl, rfl⟩; rw [HX.out])
  go_ret
  exact ⟨rfl, below1 _ _⟩

theorem trSquare_yes (q f k : Int) (A1 A2 : Option Addr) (c1 n2 c2 : Nat) (st : List Int) (p : Nat) (x : Int) (w : World) (hj : RI w w.heap.size A1 st) (h4 : 4 ≤ q) (h6 : q ≤ 60) (hp : p < st.length) (h0 : 0 ≤ st[p] ∧ st[p] < q) (hx : inB x 0 (q - 1) = true) :
    Calls Try.prog 103 #[.agg #[.int .i64 q, .int .i64 f, .int .i64 k, .slice A1 st.length c1, .slice A2 n2 c2], .int .i64 p, .int .i64 x] w fun e w' => e = .returned (.int .i64 (sqr q st p x)) ∧ Below w.heap.size w w' := by
  have hl := hj.1
  have hxb := inB_iff.1 hx
  obtain ⟨b, off, rfl, hB, h3⟩ := hj.at_ (Below.refl _ _) hp
  rw [sqr_in hx, show st.getD p 0 = st[p] by simp [List.getD_eq_getElem?_getD, List.getElem?_eq_getElem hp]]
  obtain ⟨y, hy⟩ : ∃ y, y = st[p] := ⟨_, rfl⟩
  rw [← hy] at h3 h0 ⊢
  clear hy
  have i4 : IntKind.i64.wrap (q - 1) = q - 1 := IntWalk.i64_in _ (by omega)
  have i5 : IntKind.i64.wrap (y + x) = y + x := IntWalk.i64_in _ (by omega)
  have i6 : (y + x).tmod q = (y + x) % q := Int.tmod_eq_emod_of_nonneg (by omega)
  have i8 : 0 ≤ (y + x) % q ∧ (y + x) % q < q := ⟨Int.emod_nonneg _ (by omega), Int.emod_lt_of_pos _ (by omega)⟩
  obtain ⟨m, hm⟩ : ∃ m, m = (y + x) % q := ⟨_, rfl⟩
  rw [← hm] at i6 i8 ⊢
  clear hm
  have i7 : IntKind.i64.wrap m = m := IntWalk.i64_in _ (by omega)
  have i9 : ¬ q = 0 := by omega
  have j0 : (0 : Int) ≤ (p : Int) := by omega
  have j1 : (p : Int) < (st.length : Int) := by omega
  have j2 : ((p : Int)).toNat = p := by omega
  have hbw : b < w.heap.size := by omega
  have hbn : b ≠ w.heap.size := by omega
  have HX := Lib.hid hx
  clear hx
  go_enter Try.func103, Try.ntmps103
  go_wp2_with (go_at_call 76; refine (l1In_any _ _ _ _).mono ?_; rintro e w' ⟨rfl, rfl⟩; rw [HX.out])
  go_quiet (fail)
  go_wp2
  go_ret
  exact ⟨rfl, drewB (below1 _ _) _⟩


end Go.Proofs.Ytmhffdgfkgdmlaa

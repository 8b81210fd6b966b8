/-
  Tracks: hasMove, trCan.
-/
import Derived.Test.YtmhffdgfkgdmlaaC7u
import Derived.Test.YtmhffdgfkgdmlaaC7o
import Derived.Deep.RegionHeld3
namespace Go.Proofs.Ytmhffdgfkgdmlaa
open Go.RowKit

set_option maxHeartbeats 1000000 in
theorem hasMove_any (g : Nat) (q f k : Int) (A : Option Addr) (n c : Nat) (S : Nat → Bool) (w : World) (hR : RA w g 75 q f k A n c S) (p t x : Int) (hn : n ≤ 1048576) (hk : 0 ≤ k) (hk4 : k ≤ 4) : Calls Try.prog 128 #[.pointer (some ⟨g, 0, none⟩), .agg #[.int .i64 p, .int .i64 t, .int .i64 x]] w fun e w' => e = .returned (.bool (mvB f k n p t x)) ∧ Below w.heap.size w w' := by
  obtain ⟨r1, h1⟩ : ∃ r, r = (inB p 0 ((n : Int) - 1) && inB t 0 (k - 1)) := ⟨_, rfl⟩
  rw [mvB, ← h1]
  have H1 := Lib.hid h1
  clear h1
  have R1 := hR.alloc (.cells #[.int .i64 p, .int .i64 t, .int .i64 x] 166)
  go_enter Try.func128, Try.ntmps128
  go_wp2_with fail
  refine (hasPawn_any _ _ _ _ _ _ _ _ _ R1 p t hn hk hk4).mono ?_
  rintro e w2 ⟨rfl, hx⟩
  rw [← H1.out]
  have R2 := R1.go hx
  have hb := box_on (Below.refl _ _) hx (by simp)
  have qq := boxcells hb
  cases r1
  · go_wp2
    go_ret
    exact ⟨rfl, (below1 _ _).trans (hb.mono (by omega))⟩
  · go_wp2_with (go_at_call 139; refine (hasFace_any _ _ _ _ _ _ _ _ _ R2 x).mono ?_; rintro e w' ⟨rfl, rfl⟩)
    go_ret
    exact ⟨by rw [Bool.true_and]; rfl, (below1 _ _).trans (hb.mono (by omega))⟩

set_option maxHeartbeats 400000 in
theorem trCan_any (q f k : Int) (A1 A2 : Option Addr) (n1 c1 n2 c2 : Nat) (x y : Int) (w : World) (hx1 : x ≤ q) (hq : q ≤ 60) (hy : 1 ≤ y) (hy8 : y ≤ 8) :
    Calls Try.prog 81 #[.agg #[.int .i64 q, .int .i64 f, .int .i64 k, .slice A1 n1 c1, .slice A2 n2 c2], .int .i64 x, .int .i64 y] w fun e w' => e = .returned (.bool (canB q f x y)) ∧ Below w.heap.size w w' := by
  by_cases h0 : x < 0
  · rw [canB, if_pos h0]
    go_enter Try.func81, Try.ntmps81
    go_wp2
    go_ret
    exact ⟨rfl, below1 _ _⟩
  · rw [canB, if_neg h0]
    have i5 : IntKind.i64.wrap (x + y) = x + y := IntWalk.i64_in _ (by omega)
    by_cases h : x < q
    · obtain ⟨r, hr⟩ : ∃ r, r = (decide (x < q) && decide (x + y ≤ q)) := ⟨_, rfl⟩
      have hr' : decide (x + y ≤ q) = r := by rw [hr, decide_eq_true h, Bool.true_and]
      rw [← hr]
      have HR := Lib.hid hr'
      clear hr hr'
      go_enter Try.func81, Try.ntmps81
      go_wp2
      go_ret
      exact ⟨ret_bool HR.out, below1 _ _⟩
    · rw [decide_eq_false h, Bool.false_and]
      go_enter Try.func81, Try.ntmps81
      go_wp2
      go_ret
      exact ⟨rfl, below1 _ _⟩
end Go.Proofs.Ytmhffdgfkgdmlaa

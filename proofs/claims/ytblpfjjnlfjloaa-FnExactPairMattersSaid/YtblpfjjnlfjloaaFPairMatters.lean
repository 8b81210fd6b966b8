/-
  The law FnExactPairMatters, walked.
-/
import Derived.Test.YtblpfjjnlfjloaaC5zp
import Derived.Test.YtblpfjjnlfjloaaL8
namespace Go.Proofs.Ytblpfjjnlfjloaa
open Go.RowKit

set_option maxRecDepth 100000 in
set_option maxHeartbeats 1000000 in
theorem lawPairMatters (s f a b : Int) (w : World) :
    Calls Try.prog 9 #[.int .i64 s, .int .i64 f, .int .i64 a, .int .i64 b] w fun e w' => e = .returned (.bool true) ∧ Below w.heap.size w w' := by
  obtain ⟨R, hlen, hS, hI⟩ := pairMatters_both s f a b
  obtain ⟨xs, ok⟩ := R
  have hS := Lib.hid hS
  have hI := Lib.hid hI
  have hxx : (xs == xs) = true := by simp
  have hxl : xs.length ≤ 1048576 := hlen
  clear hlen
  go_enter Try.func9, Try.ntmps9
  go_wp2_with fail
  refine (hS.out _).mono ?_
  rintro e w1 ⟨A0, c0, rfl, ho0, hx1⟩
  have R0 := ho0.ri hxl
  go_wp2_with fail
  refine (hI.out _).mono ?_
  rintro e w2 ⟨A1, c1, rfl, ho1, hx2⟩
  go_wp2_with fail
  refine (eqIntS_any _ _ _ _ xs xs _ (ho1.ri hxl) ((R0.below hx2).more hx2.size)).mono ?_
  rintro e w3 ⟨rfl, hx3⟩
  have R3 := (R0.below hx2).below (hx3.mono hx2.size)
  have O3 := ho1.below hx3 (Nat.le_refl _)
  have b3 := hx1.trans ((hx2.trans (hx3.mono hx2.size)).mono hx1.size)
  have z1 := hx1.size
  have z2 := hx2.size
  have z3 := hx3.size
  go_wp2_with fail
  -- marks on what was handed back
  refine (markIntS_any _ _ _ _ _ 1 _ O3 hxl (by omega) (by omega)).mono ?_
  rintro e w4 ⟨rfl, O4, d4, s4⟩
  have n4 : ¬ (1 + (xs.length : Int)) < 0 := by omega
  have R4 := R3.below (d4 _ (Nat.le_refl _))
  have b4 := b3.trans (d4 _ z1)
  clear d4 O3 R3
  go_wp2_with fail
  refine (heldIntS_any _ _ _ _ 1 _ O4 hxl (by omega) (by omega)).mono ?_
  rintro e w5 ⟨rfl, rfl⟩
  go_wp2_with fail
  -- the call once more
  refine (hI.out _).mono ?_
  rintro e w6 ⟨A3, c3, rfl, ho3, hx6⟩
  have z6 := hx6.size
  have R6 := (R4.below (hx6.mono (by omega))).more (show w1.heap.size ≤ w6.heap.size by omega)
  go_wp2_with fail
  refine (eqIntS_any _ _ _ _ xs xs _ (ho3.ri hxl) R6).mono ?_
  rintro e w7 ⟨rfl, hx7⟩
  have O7 := (O4.below hx6 (Nat.le_refl _)).below hx7 (Nat.le_refl _)
  go_wp2_with fail
  refine (heldIntS_any _ _ _ _ 1 _ O7 hxl (by omega) (by omega)).mono ?_
  rintro e w8 ⟨rfl, rfl⟩
  go_wp2
  go_ret
  exact ⟨rfl, b4.trans ((hx6.trans (hx7.mono hx6.size)).mono (by omega))⟩
end Go.Proofs.Ytblpfjjnlfjloaa

/-
  The law FnExactPairStates, walked.
-/
import Derived.Test.YtknclgfjoajldabC5i
import Derived.Test.YtknclgfjoajldabL9
namespace Go.Proofs.Ytknclgfjoajldab
open Go.RowKit

set_option maxRecDepth 100000 in
set_option maxHeartbeats 1000000 in
theorem lawPairStates (s f a b : Int) (w : World) :
    Calls Try.prog 7 #[.int .i64 s, .int .i64 f, .int .i64 a, .int .i64 b] w fun e w' => e = .returned (.bool true) ∧ Below w.heap.size w w' := by
  obtain ⟨n, len, F, ok, hn, hl, hS, hI⟩ := pairStates_both s f a b
  have hS := Lib.hid hS
  have hI := Lib.hid hI
  go_enter Try.func7, Try.ntmps7
  go_wp2_with fail
  refine (hS.out _).mono ?_
  rintro e w1 ⟨A0, c0, Bk0, C0, rfl, hg0, hx1⟩
  have R0 := hg0.rgL hn hl
  go_wp2_with fail
  refine (hI.out _).mono ?_
  rintro e w2 ⟨A1, c1, Bk1, C1, rfl, hg1, hx2⟩
  go_wp2_with fail
  refine (eqGrid_any _ _ _ _ _ _ _ _ (hg1.rgL hn hl) ((R0.below hx2).more hx2.size)).mono ?_
  rintro e w3 ⟨rfl, hx3⟩
  have R3 := (R0.below hx2).below (hx3.mono hx2.size)
  have G3 := hg1.below hx3
  have b3 := hx1.trans ((hx2.trans (hx3.mono hx2.size)).mono hx1.size)
  have z1 := hx1.size
  have z2 := hx2.size
  have z3 := hx3.size
  go_wp2_with fail
  -- marks on what was handed back
  refine (markIntSS_any _ _ _ _ _ _ _ _ _ G3 hn (fun y _ => hl y)).mono ?_
  rintro e w4 ⟨rfl, G4, d4, s4⟩
  obtain ⟨m, hm⟩ : ∃ m, m = cumL len n := ⟨_, rfl⟩
  have HM := Lib.hid hm
  have n4 : ¬ (1 + (m : Int)) < 0 := by omega
  have R4 := R3.below (d4 _ (Nat.le_refl _) (by omega))
  have b4 := b3.trans (d4 _ z1 (by omega))
  rw [← hm]
  clear d4 G3 R3 hm
  go_wp2_with fail
  refine (heldIntSS_any _ _ _ _ _ _ _ _ G4 hn (fun y _ => hl y)).mono ?_
  rintro e w5 ⟨rfl, rfl⟩
  rw [← HM.out]
  go_wp2_with fail
  -- the call once more
  refine (hI.out _).mono ?_
  rintro e w6 ⟨A3, c3, Bk3, C3, rfl, hg3, hx6⟩
  have z6 := hx6.size
  have R6 := (R4.below (hx6.mono (by omega))).more (show w1.heap.size ≤ w6.heap.size by omega)
  go_wp2_with fail
  refine (eqGrid_any _ _ _ _ _ _ _ _ (hg3.rgL hn hl) R6).mono ?_
  rintro e w7 ⟨rfl, hx7⟩
  have G7 := (G4.below hx6).below hx7
  go_wp2_with fail
  refine (heldIntSS_any _ _ _ _ _ _ _ _ G7 hn (fun y _ => hl y)).mono ?_
  rintro e w8 ⟨rfl, rfl⟩
  rw [← HM.out]
  go_wp2
  go_ret
  exact ⟨rfl, b4.trans ((hx6.trans (hx7.mono hx6.size)).mono (by omega))⟩
end Go.Proofs.Ytknclgfjoajldab

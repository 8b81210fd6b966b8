/-
  The law FnExactJumpsOfGame, walked.
-/
import Derived.Test.YtdjnfggcenkbfaaC8c
import Derived.Test.YtdjnfggcenkbfaaL2
import Derived.Deep.RegionHeld3
namespace Go.Proofs.Ytdjnfggcenkbfaa
open Go.RowKit

set_option maxRecDepth 100000 in
theorem lawJumpsOfGame_big (s f o : Int) (A : Option Addr) (n c : Nat) (A' : Option Addr) (m c' : Nat) (w : World) (hn : n ≤ maxLen) (h : 1048576 < n ∨ 1048576 < m) :
    Calls Try.prog 4 #[.agg #[.int .i64 s, .int .i64 f, .int .i64 o, .slice A n c], .slice A' m c'] w fun e w' => e = .returned (.bool true) ∧ Below w.heap.size w w' := by
  by_cases h2 : 1048576 < m
  · have h3 : (1048576 : Int) < m := by omega
    go_enter Try.func4, Try.ntmps4
    go_wp2
    go_ret
    exact ⟨rfl, below1 _ _⟩
  have h1 : (1048576 : Int) < n := by omega
  have h3 : ¬ (1048576 : Int) < m := by omega
  go_enter Try.func4, Try.ntmps4
  go_wp2_with (go_at_call 12; refine (szBoard_any _ _ _ _ _ _ _ _ hn (by omega) (by omega)).mono ?_; rintro e w1 ⟨rfl, hx⟩)
  go_ret
  exact ⟨rfl, (below1 _ _).trans (hx.mono (by simp))⟩

set_option maxHeartbeats 1000000 in
set_option maxRecDepth 100000 in
theorem lawJumpsOfGame_small (s f o : Int) (A : Option Addr) (c : Nat) (A' : Option Addr) (c' : Nat) (xs : List Int) (js : List (Int × Int)) (w : World) (hj : RJ w w.heap.size A js) (hxs : RI w w.heap.size A' xs) :
    Calls Try.prog 4 #[.agg #[.int .i64 s, .int .i64 f, .int .i64 o, .slice A js.length c], .slice A' xs.length c'] w fun e w' => e = .returned (.bool true) ∧ Below w.heap.size w w' := by
  have hl := hj.1
  have hl' := hxs.1
  have h0 : ¬ (1048576 : Int) < xs.length := by omega
  obtain ⟨x, ok, hS, hI⟩ := jumpsOfGame_both s f o js xs
  have hS := Lib.hid hS
  have hI := Lib.hid hI
  go_enter Try.func4, Try.ntmps4
  go_wp2_with fail
  refine (szBoard_any _ _ _ _ _ _ _ _ (by unfold maxLen; omega) (by omega) (by omega)).mono ?_
  rintro e w1 ⟨rfl, hx⟩
  have hb := box_on (Below.refl _ _) hx (by simp)
  have q := boxcells hb
  have h1 : ¬ (1048576 : Int) < js.length := by omega
  have h2 : ¬ (1048576 : Int) - js.length < 0 := by omega
  go_wp2_with fail
  -- a copy for the model
  have hj1 := hj.go ((below1 _ _).trans (hb.mono (by omega)))
  refine (toBoard_any _ _ _ _ _ _ _ hj1).mono ?_
  rintro e w2 ⟨g, rfl, hg, hrow, hx⟩
  replace hb := box_on hb hx (by have := hb.size; simpa using this)
  replace q := boxcells hb
  go_wp2_with fail
  refine (toIntS_any _ _ _ _ (hxs.go ((below1 _ _).trans (hb.mono (by omega))))).mono ?_
  rintro e w2b ⟨rfl, hri, hx⟩
  have hrow' := hrow.below hx hrow.lt
  replace hb := box_on hb hx (by have := hb.size; simpa using this)
  replace q := boxcells hb
  clear hrow
  go_wp2_with fail
  refine (hS.out _ _ _ _ _ (hrow'.rj rfl hl hj.2.1) (OI.ri (.inr ⟨_, rfl, Nat.le_refl _, hri⟩) hl')).mono ?_
  rintro e w3 ⟨rfl, hx⟩
  replace hb := box_on hb hx (by have := hb.size; simpa using this)
  replace q := boxcells hb
  clear hrow' hri hg
  go_wp2_with fail
  -- a copy for the program
  have hj1 := hj.go ((below1 _ _).trans (hb.mono (by omega)))
  refine (toBoard_any _ _ _ _ _ _ _ hj1).mono ?_
  rintro e w4 ⟨g1, rfl, hg1, hrow, hx⟩
  replace hb := box_on hb hx (by have := hb.size; simpa using this)
  replace q := boxcells hb
  go_wp2_with fail
  have hbB := (below1 w (.cells #[.int .i64 s, .int .i64 f, .int .i64 o, .slice A js.length c] 24)).trans (hb.mono (by omega))
  have hz5 := hrow.lt
  refine (toIntS_any _ _ _ _ (hxs.go (hbB.alloc (by have := hbB.size; exact this) _))).mono ?_
  rintro e w4b ⟨rfl, hri, hx4⟩
  simp only [World.size_alloc] at hri
  have hrow4 := (hrow.alloc (.cells #[.int .i64 s, .int .i64 f, .int .i64 o, .slice (some ⟨g1, 0, none⟩) js.length js.length] 31)).below hx4 (hrow.alloc _).lt
  have hb4 := box_on (hb.alloc (by have := hb.size; simpa using this) (.cells #[.int .i64 s, .int .i64 f, .int .i64 o, .slice (some ⟨g1, 0, none⟩) js.length js.length] 31)) hx4 (by have := hb.size; simp at *; omega)
  have q := boxcells hb4
  have hb2 : Below (w4.heap.size + 1) (w4.alloc (.cells #[.int .i64 s, .int .i64 f, .int .i64 o, .slice (some ⟨g1, 0, none⟩) js.length js.length] 31)) w4b := box_on (Below.refl _ _) hx4 (by simp)
  have q2 := boxcells hb2
  have hg4 := hrow.lt
  clear hb hrow hbB
  go_wp2_with fail
  refine (hI.out _ _ _ _ _ (hrow4.rj rfl hl hj.2.1) (OI.ri (.inr ⟨_, rfl, Nat.le_refl _, hri⟩) hl')).mono ?_
  rintro e w5 ⟨rfl, hx⟩
  replace hb2 := box_on hb2 hx (by have := hb2.size; simpa using this)
  replace q2 := boxcells hb2
  have hb := box_on hb4 hx (by have := hb4.size; simpa using this)
  replace q := boxcells hb
  have hrow := hrow4.below hx hrow4.lt
  have hri5 := hri.below hx hri.lt
  clear hrow4 hb4 hri
  go_wp2_with fail
  -- the program's copy reads as before
  have hb5 := hb.drew
  have hb25 := hb2.drew
  go_region_held3 (fun w' => Below (w.heap.size + 1) (w.alloc (.cells #[.int .i64 s, .int .i64 f, .int .i64 o, .slice A js.length c] 24)) w' ∧ Below (w4.heap.size + 1) (w4.alloc (.cells #[.int .i64 s, .int .i64 f, .int .i64 o, .slice (some ⟨g1, 0, none⟩) js.length js.length] 31)) w' ∧ (∀ i, w'.cell? ⟨w.heap.size, i, none⟩ = #[.int .i64 s, .int .i64 f, .int .i64 o, .slice A js.length c][i]?) ∧ (∀ i, w'.cell? ⟨w4.heap.size, i, none⟩ = #[.int .i64 s, .int .i64 f, .int .i64 o, .slice (some ⟨g1, 0, none⟩) js.length js.length][i]?)) (go_keep)
    (first | (go_at_call 14; refine (toBoard_any _ _ _ _ _ _ _ (hj.go ((below1 _ _).trans (hb5.mono (by omega))))).mono ?_; rintro e w6 ⟨g2, rfl, hg2, hrow2, hx⟩; have k1 := box_on hb5 hx (by have := hb5.size; simpa using this); have k2 := box_on hb25 hx (by have := hb25.size; simpa using this); have k3 := boxcells k1; have k4 := boxcells k2) | (go_at_call 17; refine (eqBoard_any _ _ _ _ _ _ _ _ _ _ _ _ _ ((hrow.drew.below hx hrow.lt).rj rfl hl hj.2.1) (hrow2.rj rfl hl hj.2.1)).mono ?_; rintro e w7 ⟨rfl, hx7⟩; have m1 := box_on k1 hx7 (by have := k1.size; simpa using this); have m2 := box_on k2 hx7 (by have := k2.size; simpa using this); have m3 := boxcells m1; have m4 := boxcells m2))
  have he : (s == s && f == f && o == o && js == js) = true := by simp
  have hxx : (xs == xs) = true := by simp
  have e57 : Below w5.heap.size w5 w7 := (Below.refl _ w5).drew.trans (hx.trans (hx7.mono hx.size))
  have hri7 := hri5.below e57 hri5.lt
  clear k1 k2 k3 k4 q q2 hb hb2 hb5 hb25
  go_wp2_with fail
  refine (toIntS_any _ _ _ _ (hxs.go ((below1 _ _).trans (m1.mono (by omega))))).mono ?_
  rintro e w8 ⟨rfl, hri8, hx8⟩
  have M8 := box_on m1 hx8 (by have := m1.size; simpa using this)
  have hri78 := hri7.below hx8 hri7.lt
  go_wp2_with fail
  refine (eqIntS_any _ _ _ _ xs xs _ (OI.ri (.inr ⟨_, rfl, Nat.le_refl _, hri78⟩) hl') (OI.ri (.inr ⟨_, rfl, Nat.le_refl _, hri8⟩) hl')).mono ?_
  rintro e w9 ⟨rfl, hx9⟩
  have M9 := box_on M8 hx9 (by have := M8.size; simpa using this)
  go_wp2
  go_ret
  exact ⟨rfl, (below1 _ _).trans (M9.mono (by omega))⟩
end Go.Proofs.Ytdjnfggcenkbfaa

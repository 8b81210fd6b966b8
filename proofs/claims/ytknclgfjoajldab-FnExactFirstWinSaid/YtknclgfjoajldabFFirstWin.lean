/-
  The law FnExactFirstWin, walked.
-/
import Derived.Test.YtknclgfjoajldabC4w
import Derived.Test.YtknclgfjoajldabL2
import Derived.Test.YtknclgfjoajldabL5
import Derived.Test.YtknclgfjoajldabL6
import Derived.Deep.RegionHeld3
namespace Go.Proofs.Ytknclgfjoajldab
open Go.RowKit

set_option maxRecDepth 100000 in
theorem lawFirstWin_big (s f o me fi ot : Int) (A : Option Addr) (n c : Nat) (who : Int) (w : World) (hn : n ≤ maxLen) (h : 1048576 < n) :
    Calls Try.prog 9 #[.agg #[.int .i64 s, .int .i64 f, .int .i64 o, .slice A n c, .int .i64 me, .int .i64 fi, .int .i64 ot], .int .i64 who] w fun e w' => e = .returned (.bool true) ∧ Below w.heap.size w w' := by
  have h1 : (1048576 : Int) < n := by omega
  go_enter Try.func9, Try.ntmps9
  go_wp2_with (go_at_call 28; refine (szRace_any _ _ _ _ _ _ _ _ _ _ _ hn (by omega) (by omega)).mono ?_; rintro e w1 ⟨rfl, hx⟩)
  go_ret
  exact ⟨rfl, (below1 _ _).trans (hx.mono (by simp))⟩

set_option maxHeartbeats 1000000 in
set_option maxRecDepth 100000 in
theorem lawFirstWin_small (s f o me fi ot : Int) (A : Option Addr) (c : Nat) (who : Int) (js : List (Int × Int)) (w : World) (hj : RJ w w.heap.size A js) :
    Calls Try.prog 9 #[.agg #[.int .i64 s, .int .i64 f, .int .i64 o, .slice A js.length c, .int .i64 me, .int .i64 fi, .int .i64 ot], .int .i64 who] w fun e w' => e = .returned (.bool true) ∧ Below w.heap.size w w' := by
  have hl := hj.1
  obtain ⟨R, hlen, hS, hI⟩ := firstWin_both s f o me fi ot js who
  obtain ⟨xs, ok⟩ := R
  have hS := Lib.hid hS
  have hI := Lib.hid hI
  have hxx : (xs == xs) = true := by simp
  have hxl : xs.length ≤ 1048576 := hlen
  clear hlen
  go_enter Try.func9, Try.ntmps9
  go_wp2_with fail
  refine (szRace_any _ _ _ _ _ _ _ _ _ _ _ (by unfold maxLen; omega) (by omega) (by omega)).mono ?_
  rintro e w1 ⟨rfl, hx⟩
  have hb := box_on (Below.refl _ _) hx (by simp)
  have q := boxcells hb
  have h1 : ¬ (1048576 : Int) < js.length := by omega
  have h2 : ¬ (1048576 : Int) - js.length < 0 := by omega
  go_wp2_with fail
  -- a copy for the model
  have hj1 := hj.go ((below1 _ _).trans (hb.mono (by omega)))
  refine (toRace_any _ _ _ _ _ _ _ _ _ _ hj1).mono ?_
  rintro e w2 ⟨g, rfl, hg, hrow, hx⟩
  replace hb := box_on hb hx (by have := hb.size; simpa using this)
  replace q := boxcells hb
  go_wp2_with fail
  refine (hS.out _ _ _ (hrow.rj rfl hl hj.2.1)).mono ?_
  rintro e w3 ⟨A0, c0, rfl, ho0, hx⟩
  have R0 := ho0.ri hxl
  have hw3 : w.heap.size + 1 ≤ w3.heap.size := by have := hb.size; have := hx.size; simp at *; omega
  replace hb := box_on hb hx (by have := hb.size; simpa using this)
  replace q := boxcells hb
  clear hrow hg
  go_wp2_with fail
  -- a copy for the program
  have hj1 := hj.go ((below1 _ _).trans (hb.mono (by omega)))
  refine (toRace_any _ _ _ _ _ _ _ _ _ _ hj1).mono ?_
  rintro e w4 ⟨g1, rfl, hg1, hrow, hx⟩
  have hx34 := hx
  replace hb := box_on hb hx (by have := hb.size; simpa using this)
  replace q := boxcells hb
  go_wp2_with fail
  have hrow4 := hrow.alloc (.cells #[.int .i64 s, .int .i64 f, .int .i64 o, .slice (some ⟨g1, 0, none⟩) js.length js.length, .int .i64 me, .int .i64 fi, .int .i64 ot] 48)
  have hb4 := hb.alloc (by have := hb.size; simpa using this) (.cells #[.int .i64 s, .int .i64 f, .int .i64 o, .slice (some ⟨g1, 0, none⟩) js.length js.length, .int .i64 me, .int .i64 fi, .int .i64 ot] 48)
  have hg4 := hrow.lt
  clear hb hrow
  refine (hI.out _ _ _ (hrow4.rj rfl hl hj.2.1)).mono ?_
  rintro e w5 ⟨A1, c1, rfl, ho1, hx⟩
  simp only [World.size_alloc] at ho1
  have hb2 : Below (w4.heap.size + 1) (w4.alloc _) w5 := box_on (Below.refl _ _) hx (by simp)
  have q2 := boxcells hb2
  have hb := box_on hb4 hx (by have := hb4.size; simpa using this)
  replace q := boxcells hb
  have hrow := hrow4.below hb2 (by omega)
  have R5 : RI w5 w5.heap.size A0 xs := ((R0.below hx34).below (((Below.refl _ w4).alloc (Nat.le_refl _) _).trans (hb2.mono (by omega)) |>.mono hx34.size)).more (by have := hb2.size; have := hx34.size; simp at *; omega)
  have R51 := ho1.ri hxl
  have d35 : Below w3.heap.size w3 w5 := hx34.trans ((((Below.refl _ w4).alloc (Nat.le_refl _) _).trans (hb2.mono (by omega))).mono hx34.size)
  clear hrow4 hb4
  go_wp2_with fail
  refine (eqIntS_any _ _ _ _ xs xs _ R51 R5).mono ?_
  rintro e w5b ⟨rfl, hx5b⟩
  replace hb := box_on hb hx5b (by have := hb.size; simpa using this)
  replace hb2 := box_on hb2 hx5b (by have := hb2.size; simpa using this)
  replace q := boxcells hb
  replace q2 := boxcells hb2
  replace hrow := hrow.below hx5b hrow.lt
  clear R51 R5
  go_wp2_with fail
  -- the program's copy reads as before
  have hb5 := hb.drew
  have hb25 := hb2.drew
  go_region_held3 (fun w' => Below (w.heap.size + 1) (w.alloc (.cells #[.int .i64 s, .int .i64 f, .int .i64 o, .slice A js.length c, .int .i64 me, .int .i64 fi, .int .i64 ot] 41)) w' ∧ Below (w4.heap.size + 1) (w4.alloc (.cells #[.int .i64 s, .int .i64 f, .int .i64 o, .slice (some ⟨g1, 0, none⟩) js.length js.length, .int .i64 me, .int .i64 fi, .int .i64 ot] 48)) w' ∧ (∀ i, w'.cell? ⟨w.heap.size, i, none⟩ = #[.int .i64 s, .int .i64 f, .int .i64 o, .slice A js.length c, .int .i64 me, .int .i64 fi, .int .i64 ot][i]?) ∧ (∀ i, w'.cell? ⟨w4.heap.size, i, none⟩ = #[.int .i64 s, .int .i64 f, .int .i64 o, .slice (some ⟨g1, 0, none⟩) js.length js.length, .int .i64 me, .int .i64 fi, .int .i64 ot][i]?)) (go_keep)
    (first | (go_at_call 30; refine (toRace_any _ _ _ _ _ _ _ _ _ _ (hj.go ((below1 _ _).trans (hb5.mono (by omega))))).mono ?_; rintro e w6 ⟨g2, rfl, hg2, hrow2, hx⟩; have k1 := box_on hb5 hx (by have := hb5.size; simpa using this); have k2 := box_on hb25 hx (by have := hb25.size; simpa using this); have k3 := boxcells k1; have k4 := boxcells k2) | (go_at_call 32; refine (eqRace_any _ _ _ _ _ _ _ _ _ _ _ _ _ _ _ _ _ _ _ ((hrow.drew.below hx hrow.lt).rj rfl hl hj.2.1) (hrow2.rj rfl hl hj.2.1)).mono ?_; rintro e w7 ⟨rfl, hx7⟩; have m1 := box_on k1 hx7 (by have := k1.size; simpa using this); have m2 := box_on k2 hx7 (by have := k2.size; simpa using this); have m3 := boxcells m1; have m4 := boxcells m2))
  have he : ((s == s && f == f && o == o && js == js) && (me == me && (fi == fi && ot == ot))) = true := by simp
  go_wp2_with fail
  -- marks on the program's copy
  have e57 : Below w5b.heap.size w5b w7 := (Below.refl _ w5b).drew.trans (hx.trans (hx7.mono hx.size))
  have d37 : Below w3.heap.size w3 w7 := d35.trans ((hx5b.trans (e57.mono hx5b.size)).mono d35.size)
  have z3 := d35.size
  have z5 := hx5b.size
  have z7 := e57.size
  have z1 : w.heap.size + 1 ≤ w7.heap.size := by have := m1.size; simpa using this
  refine (markRace_any s f o me fi ot (some ⟨g1, 0, none⟩) js.length js.length 0 _ 1 _ (.inr ⟨g1, rfl, Nat.zero_le _, hrow.below e57 hrow.lt⟩) hl (by omega) (by omega)).mono ?_
  rintro e w8 ⟨rfl, _, hg8⟩
  have hg8' : w7.grownBy w8 (some g1) := hg8
  have d8 : ∀ B, B ≤ g1 → B ≤ w7.heap.size → Below B w7 w8 := fun B h1 h2 => grown_below hg8' h2 (fun k h => by cases h; exact h1)
  have n8 : ¬ (1 + 2 * (js.length : Int)) < 0 := by omega
  have O8 := ((ho1.below hx5b (Nat.le_refl _)).below e57 (Nat.le_refl _)).grown hg8' (fun g h => by cases h; omega)
  have d38 := d37.trans (d8 _ hg1 d37.size)
  have M8 := m1.trans (d8 _ (by omega) z1)
  have z8 := hg8'.size
  clear m1 m2 m3 m4 k1 k2 k3 k4 q q2 hg8 d8 hb hb2 hb5 hb25 hrow hrow2
  go_wp2_with fail
  refine (eqIntS_any _ _ _ _ xs xs _ (O8.ri hxl) ((R0.below d38).more d38.size)).mono ?_
  rintro e w9 ⟨rfl, hx9⟩
  have O9 := O8.below hx9 (Nat.le_refl _)
  have M9 := box_on M8 hx9 (by omega)
  have d39 := d38.trans (hx9.mono d38.size)
  clear O8 M8
  go_wp2_with fail
  -- marks on what was handed back
  refine (markIntS_any _ _ _ _ _ 1 _ O9 hxl (by omega) (by omega)).mono ?_
  rintro e w10 ⟨rfl, O10, d10, s10⟩
  have n10 : ¬ (1 + (xs.length : Int)) < 0 := by omega
  have M10 := M9.trans (d10 _ (by omega))
  have d310 := d39.trans (d10 _ (by omega))
  have q10 := boxcells M10
  have z10 : w.heap.size + 1 ≤ w10.heap.size := by have := M10.size; simpa using this
  clear O9 M9 d10 s10
  go_wp2_with fail
  refine (heldIntS_any _ _ _ _ 1 _ O10 hxl (by omega) (by omega)).mono ?_
  rintro e w11 ⟨rfl, rfl⟩
  go_wp2_with fail
  -- the call once more
  refine (toRace_any _ _ _ _ _ _ _ _ _ _ (hj.go ((below1 _ _).trans (M10.mono (by omega))))).mono ?_
  rintro e w12 ⟨g3, rfl, hg3, hrow3, hx12⟩
  clear q10
  go_wp2_with fail
  refine (hI.out _ _ _ (hrow3.rj rfl hl hj.2.1)).mono ?_
  rintro e w13 ⟨A3, c3, rfl, ho3, hx13⟩
  have d313 := (d310.trans (hx12.mono d310.size)).trans (hx13.mono (Nat.le_trans d310.size hx12.size))
  go_wp2_with fail
  refine (eqIntS_any _ _ _ _ xs xs _ (ho3.ri hxl) ((R0.below d313).more d313.size)).mono ?_
  rintro e w14 ⟨rfl, hx14⟩
  have z12 := hx12.size
  have z13 := hx13.size
  have M14 := box_on (box_on (box_on M10 hx12 z10) hx13 (by omega)) hx14 (by omega)
  have O14 := ((O10.below hx12 (Nat.le_refl _)).below hx13 (Nat.le_refl _)).below hx14 (Nat.le_refl _)
  go_wp2_with fail
  refine (heldIntS_any _ _ _ _ 1 _ O14 hxl (by omega) (by omega)).mono ?_
  rintro e w15 ⟨rfl, rfl⟩
  go_wp2
  go_ret
  exact ⟨rfl, (below1 _ _).trans (M14.mono (by omega))⟩
end Go.Proofs.Ytknclgfjoajldab

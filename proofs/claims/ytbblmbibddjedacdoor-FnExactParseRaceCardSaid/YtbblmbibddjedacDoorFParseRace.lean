/-
  The law FnExactParseRace, walked.
-/
import Derived.Test.YtbblmbibddjedacDoorC4h
import Derived.Test.YtbblmbibddjedacDoorL6
namespace Go.Proofs.YtbblmbibddjedacDoor
open Go.RowKit

set_option maxRecDepth 100000 in
theorem lawParseRace_big (s : List UInt8) (w : World) (h : 1048576 < s.length) :
    Calls Tryd.prog 4 #[strV s] w fun e w' => e = .returned (.bool true) ∧ Below w.heap.size w w' := by
  have h1 : (1048576 : Int) < s.length := by omega
  go_enter Tryd.func4, Tryd.ntmps4
  go_wp2_with fail
  go_ret
  exact ⟨rfl, Below.refl _ _⟩

set_option maxHeartbeats 2000000 in
set_option maxRecDepth 100000 in
theorem lawParseRace_small (s : List UInt8) (w : World) (ht : Texts w) (hs : s.length ≤ 1048576) :
    Calls Tryd.prog 4 #[strV s] w fun e w' => e = .returned (.bool true) ∧ Below w.heap.size w w' := by
  have h1 : ¬ (1048576 : Int) < s.length := by omega
  obtain ⟨b1, b2, b3, bl, me, fi, ot, ok, hl, hw, hS, hI⟩ := parseRace_both s hs
  have HS := Lib.hid hS
  have HI := Lib.hid hI
  have HT := Lib.hid ht
  clear hS hI ht
  have hee : ((b1 == b1 && b2 == b2 && b3 == b3 && bl == bl) && (me == me && (fi == fi && ot == ot))) = true := by simp
  have hmk : ¬ (1 + 2 * (bl.length : Int)) < 0 := by omega
  go_enter Tryd.func4, Tryd.ntmps4
  go_wp2_with fail
  refine (HS.out _).mono ?_
  rintro e w1 ⟨A0, c0, rfl, ho0, D⟩
  have k0 := Box.made w1 #[.int .i64 b1, .int .i64 b2, .int .i64 b3, .slice A0 bl.length c0, .int .i64 me, .int .i64 fi, .int .i64 ot] 34
  have R0 := (ho0.rj hl hw).go (below1 w1 (.cells #[.int .i64 b1, .int .i64 b2, .int .i64 b3, .slice A0 bl.length c0, .int .i64 me, .int .i64 fi, .int .i64 ot] 34))
  replace D := D.alloc D.size (.cells #[.int .i64 b1, .int .i64 b2, .int .i64 b3, .slice A0 bl.length c0, .int .i64 me, .int .i64 fi, .int .i64 ot] 34)
  clear ho0
  go_wp2_with fail
  obtain ⟨V, hV⟩ : ∃ V, V = w1.alloc (.cells #[.int .i64 b1, .int .i64 b2, .int .i64 b3, .slice A0 bl.length c0, .int .i64 me, .int .i64 fi, .int .i64 ot] 34) := ⟨_, rfl⟩
  rw [← hV] at k0 R0 D ⊢
  clear hV
  have z0 := k0.lt
  have zV := D.size
  refine (HI.out _ (HT.out.on D)).mono ?_
  rintro e w5 ⟨A1, c1, rfl, ho1, d⟩
  have k9 := Box.made w5 #[.int .i64 b1, .int .i64 b2, .int .i64 b3, .slice A1 bl.length c1, .int .i64 me, .int .i64 fi, .int .i64 ot] 34
  have hs5 := d.size
  replace ho1 := ho1.below (below1 w5 (.cells #[.int .i64 b1, .int .i64 b2, .int .i64 b3, .slice A1 bl.length c1, .int .i64 me, .int .i64 fi, .int .i64 ot] 34)) (Nat.le_refl _)
  replace d := d.alloc d.size (.cells #[.int .i64 b1, .int .i64 b2, .int .i64 b3, .slice A1 bl.length c1, .int .i64 me, .int .i64 fi, .int .i64 ot] 34)
  have qk9 := k9.cell; have qk0 := (k0.below d z0).cell
  go_wp2_with fail
  obtain ⟨Y, hY⟩ : ∃ Y, Y = w5.alloc (.cells #[.int .i64 b1, .int .i64 b2, .int .i64 b3, .slice A1 bl.length c1, .int .i64 me, .int .i64 fi, .int .i64 ot] 34) := ⟨_, rfl⟩
  rw [← hY] at k9 ho1 d ⊢
  clear hY qk9 qk0
  refine (eqRace_any _ _ _ _ _ _ _ _ _ _ _ _ _ _ _ _ bl bl _ (ho1.rj hl hw) (R0.later d d.size)).mono ?_
  rintro e w6 ⟨rfl, hx⟩
  replace k9 := k9.go hx; replace ho1 := ho1.below hx (Nat.le_refl _); replace d := d.trans (hx.mono d.size)
  have qk9 := k9.cell
  go_wp2_with fail
  -- marks on what was handed back
  clear qk9
  refine (markRaceK_any b1 b2 b3 me fi ot A1 bl.length c1 V.heap.size _ 1 _ ho1 d.size hl (by omega) (by omega)).mono ?_
  rintro e w11 ⟨rfl, om, hbm, row, hgr, hrw⟩
  replace k9 := k9.marked hgr (fun g e => (hrw g e).2) (by decide); replace d := d.trans hbm
  clear ho1 hgr hrw hbm
  have qk9 := k9.cell
  go_wp2_with fail
  clear qk9
  refine (heldRace_any _ _ _ _ _ _ _ _ _ _ 1 _ om hl (by omega) (by omega)).mono ?_
  rintro e w12 ⟨rfl, hx⟩
  replace k9 := k9.go hx; replace om := om.below hx (Nat.le_refl _); replace d := d.trans (hx.mono d.size)
  go_wp2_with fail
  -- the call once more
  refine (HI.out _ (HT.out.on (D.trans (d.mono D.size)))).mono ?_
  rintro e w14 ⟨A3, c3, rfl, ho3, hx⟩
  replace k9 := k9.go hx; replace om := om.below hx (Nat.le_refl _); replace d := d.trans (hx.mono d.size)
  replace k9 := k9.alloc (.cells #[.int .i64 b1, .int .i64 b2, .int .i64 b3, .slice A3 bl.length c3, .int .i64 me, .int .i64 fi, .int .i64 ot] 34); replace om := om.below (below1 w14 (.cells #[.int .i64 b1, .int .i64 b2, .int .i64 b3, .slice A3 bl.length c3, .int .i64 me, .int .i64 fi, .int .i64 ot] 34)) (Nat.le_refl _); replace ho3 := ho3.below (below1 w14 (.cells #[.int .i64 b1, .int .i64 b2, .int .i64 b3, .slice A3 bl.length c3, .int .i64 me, .int .i64 fi, .int .i64 ot] 34)) (Nat.le_refl _); replace d := d.alloc d.size (.cells #[.int .i64 b1, .int .i64 b2, .int .i64 b3, .slice A3 bl.length c3, .int .i64 me, .int .i64 fi, .int .i64 ot] 34)
  have k14 := Box.made w14 #[.int .i64 b1, .int .i64 b2, .int .i64 b3, .slice A3 bl.length c3, .int .i64 me, .int .i64 fi, .int .i64 ot] 34
  have qk14 := k14.cell; have qk0 := (k0.below d z0).cell
  go_wp2_with fail
  obtain ⟨U, hU⟩ : ∃ U, U = w14.alloc (.cells #[.int .i64 b1, .int .i64 b2, .int .i64 b3, .slice A3 bl.length c3, .int .i64 me, .int .i64 fi, .int .i64 ot] 34) := ⟨_, rfl⟩
  rw [← hU] at k9 om ho3 d ⊢
  clear hU qk14 qk0 k14
  refine (eqRace_any _ _ _ _ _ _ _ _ _ _ _ _ _ _ _ _ bl bl _ (ho3.rj hl hw) (R0.later d d.size)).mono ?_
  rintro e w15 ⟨rfl, hx⟩
  replace k9 := k9.go hx; replace om := om.below hx (Nat.le_refl _); replace d := d.trans (hx.mono d.size)
  have qk9 := k9.cell
  go_wp2_with fail
  clear qk9
  refine (heldRace_any _ _ _ _ _ _ _ _ _ _ 1 _ om hl (by omega) (by omega)).mono ?_
  rintro e w16 ⟨rfl, hx⟩
  replace d := d.trans (hx.mono d.size)
  go_wp2
  go_ret
  exact ⟨rfl, D.trans (d.mono D.size)⟩
end Go.Proofs.YtbblmbibddjedacDoor

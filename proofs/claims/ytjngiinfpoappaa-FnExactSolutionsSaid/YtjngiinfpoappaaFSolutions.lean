/-
  The law FnExactSolutions, walked.
-/
import Derived.Test.YtjngiinfpoappaaC9ze
import Derived.Test.YtjngiinfpoappaaL80
import Derived.Deep.RegionHeld3
namespace Go.Proofs.Ytjngiinfpoappaa
open Go.RowKit

set_option maxRecDepth 100000 in
theorem lawSolutions_big (q f : Int) (A : Option Addr) (n c : Nat) (w : World) (hn : n ≤ maxLen) (h : 1048576 < n) :
    Calls Try.prog 4 #[.agg #[.int .i64 q, .int .i64 f, .slice A n c]] w fun e w' => e = .returned (.bool true) ∧ Below w.heap.size w w' := by
  have h1 : (1048576 : Int) < n := by omega
  go_enter Try.func4, Try.ntmps4
  go_wp2_with (go_at_call 17; refine (szPuzzle_any _ _ _ _ _ _ _ hn (by omega) (by omega)).mono ?_; rintro e w1 ⟨rfl, hx⟩)
  go_ret
  exact ⟨rfl, (below1 _ _).trans (hx.mono (by simp))⟩

set_option maxHeartbeats 2000000 in
set_option maxRecDepth 100000 in
theorem lawSolutions_small (q f : Int) (A : Option Addr) (c : Nat) (L : List Qd) (w : World) (h1 : RQ w w.heap.size A L) :
    Calls Try.prog 4 #[.agg #[.int .i64 q, .int .i64 f, .slice A L.length c]] w fun e w' => e = .returned (.bool true) ∧ Below w.heap.size w w' := by
  have hl := h1.1
  obtain ⟨K, ok, hK, hwl, hS, hI⟩ := solutions_both q f L
  have hS := Lib.hid hS
  have hI := Lib.hid hI
  have hc1 : ¬ (1048576 : Int) < (L.length : Int) := by omega
  have hc2 : ¬ (1048576 : Int) - (L.length : Int) < 0 := by omega
  go_enter Try.func4, Try.ntmps4
  go_wp2_with fail
  refine (szPuzzle_any _ _ _ _ _ _ _ (by unfold maxLen; omega) (by omega) (by omega)).mono ?_
  rintro e w1 ⟨rfl, hx⟩
  have hb := box_on (Below.refl _ _) hx (by simp)
  have qq := boxcells hb
  go_wp2_with fail
  -- a copy for the model
  refine (toPuzzle_any _ _ _ _ _ _ (h1.go ((below1 _ _).trans (hb.mono (by omega))))).mono ?_
  rintro e w2 ⟨g1, rfl, hg1, r1, hx⟩
  replace hb := box_on hb hx (by have := hb.size; simpa using this)
  replace qq := boxcells hb
  go_wp2_with fail
  refine (hS.out _ _ _ (r1.rq rfl hl)).mono ?_
  rintro e w3 ⟨A0, c0, rfl, ho0, hx⟩
  have R0 := ho0.rb hK
  replace hb := box_on hb hx (by have := hb.size; simpa using this)
  replace qq := boxcells hb
  clear r1 hg1
  have s3 : w.heap.size + 1 ≤ w3.heap.size := by have := hb.size; simpa using this
  go_wp2_with fail
  -- a copy for the program
  refine (toPuzzle_any _ _ _ _ _ _ (h1.go ((below1 _ _).trans (hb.mono (by omega))))).mono ?_
  rintro e w4 ⟨g3, rfl, hg3, r3, hx⟩
  replace hb := box_on hb hx (by have := hb.size; simpa using this)
  replace qq := boxcells hb
  have d := hx
  have s4 := hx.size
  have l3 := r3.lt
  go_wp2_with fail
  have r3 := r3.alloc (.cells #[.int .i64 q, .int .i64 f, .slice (some ⟨g3, 0, none⟩) L.length L.length] 34)
  have hb := hb.alloc (by have := hb.size; simpa using this) (.cells #[.int .i64 q, .int .i64 f, .slice (some ⟨g3, 0, none⟩) L.length L.length] 34)
  have d := d.alloc d.size (.cells #[.int .i64 q, .int .i64 f, .slice (some ⟨g3, 0, none⟩) L.length L.length] 34)
  have hb2 : Below (w4.heap.size + 1) (w4.alloc (.cells #[.int .i64 q, .int .i64 f, .slice (some ⟨g3, 0, none⟩) L.length L.length] 34)) (w4.alloc (.cells #[.int .i64 q, .int .i64 f, .slice (some ⟨g3, 0, none⟩) L.length L.length] 34)) := Below.refl _ _
  refine (hI.out _ _ _ (r3.rq rfl hl)).mono ?_
  rintro e w5 ⟨A9, c9, rfl, O, hx⟩
  simp only [World.size_alloc] at hx O
  have r3 := r3.below hx (by omega)
  have hb := box_on hb hx (by omega)
  have hb2 := box_on hb2 hx (Nat.le_refl _)
  have d := d.trans (hx.mono (by omega))
  have qq := boxcells hb
  have qq2 := boxcells hb2
  have s5 : (w4.heap.size + 1) ≤ w5.heap.size := by have := hx.size; (try simp at this); omega
  go_wp2_with fail
  refine (eqBoardS_same _ _ _ _ K _ (O.own.rb hK) ((R0.below d).more d.size)).mono ?_
  rintro e w5b ⟨rfl, hx⟩
  replace hb := box_on hb hx (by have := hb.size; simpa using this)
  replace hb2 := box_on hb2 hx (by have := hb2.size; simpa using this)
  replace r3 := r3.below hx r3.lt
  replace d := d.trans (hx.mono d.size)
  replace O := O.go hx
  replace qq := boxcells hb
  replace qq2 := boxcells hb2
  have s5 := Nat.le_trans s5 hx.size
  go_wp2_with fail
  -- the program's copy reads as before
  have hb5 := hb.drew
  have hb25 := hb2.drew
  go_region_held3 (fun w' => Below (w.heap.size + 1) (w.alloc (.cells #[.int .i64 q, .int .i64 f, .slice A L.length c] 27)) w' ∧ Below (w4.heap.size + 1) (w4.alloc (.cells #[.int .i64 q, .int .i64 f, .slice (some ⟨g3, 0, none⟩) L.length L.length] 34)) w' ∧ (∀ i, w'.cell? ⟨w.heap.size, i, none⟩ = #[.int .i64 q, .int .i64 f, .slice A L.length c][i]?) ∧ (∀ i, w'.cell? ⟨w4.heap.size, i, none⟩ = #[.int .i64 q, .int .i64 f, .slice (some ⟨g3, 0, none⟩) L.length L.length][i]?)) (go_keep)
    (first | (go_at_call 19; refine (toPuzzle_any _ _ _ _ _ _ (h1.go ((below1 _ _).trans (hb5.mono (by omega))))).mono ?_; rintro e w6 ⟨g5, rfl, hg5, r5, hx⟩; have k1 := box_on hb5 hx (by have := hb5.size; simpa using this); have k2 := box_on hb25 hx (by have := hb25.size; simpa using this); have k3 := boxcells k1; have k4 := boxcells k2) | (go_at_call 22; refine (eqPuzzle_any _ _ _ _ _ _ _ _ _ _ _ ((r3.drew.below hx r3.lt).rq rfl hl) (r5.rq rfl hl)).mono ?_; rintro e w7 ⟨rfl, hx7⟩; have m1 := box_on k1 hx7 (by have := k1.size; simpa using this); have m2 := box_on k2 hx7 (by have := k2.size; simpa using this); have m3 := boxcells m1; have m4 := boxcells m2))
  have e57 : Below w5b.heap.size w5b w7 := (Below.refl _ w5b).drew.trans (hx.trans (hx7.mono hx.size))
  clear k1 k2 k3 k4 qq qq2 hb5 hb25 r5 hg5 hx hx7 m1 m2
  replace hb := box_on hb e57 (by have := hb.size; simpa using this)
  replace hb2 := box_on hb2 e57 (by have := hb2.size; simpa using this)
  replace r3 := r3.below e57 r3.lt
  replace d := d.trans (e57.mono d.size)
  replace O := O.go e57
  have s5 := Nat.le_trans s5 e57.size
  have qq := m3
  have qq2 := m4
  clear m3 m4
  go_wp2_with fail
  -- marks on the program's copies
  refine (markPuzzle_any q f (some ⟨g3, 0, none⟩) L.length L.length w3.heap.size _ 1 _ (.inr ⟨g3, rfl, hg3, r3⟩) hl (by omega) (by omega)).mono ?_
  rintro e wa ⟨rfl, _, hm⟩
  have hm : w7.grownBy wa (some g3) := hm
  have na : ¬ (1 + 4 * (L.length : Int)) < 0 := by omega
  have sa := Nat.le_trans s5 hm.size
  replace hb := hb.trans (grown_below hm (by have := hb.size; simpa using this) (fun k h => by cases h; omega))
  replace d := d.trans (grown_below hm d.size (fun k h => by cases h; exact hg3))
  have O := O.grown hm (fun g h => by cases h; omega)
  have qq := boxcells hb
  clear r3 hb2 qq2
  go_wp2_with fail
  refine (eqBoardS_same _ _ _ _ K _ (O.own.rb hK) ((R0.below d).more d.size)).mono ?_
  rintro e wc ⟨rfl, hx⟩
  replace hb := box_on hb hx (by have := hb.size; simpa using this)
  replace d := d.trans (hx.mono d.size)
  replace O := O.go hx
  replace qq := boxcells hb
  go_wp2_with fail
  -- marks on what was handed back
  refine (markBoardS_any _ _ _ _ K 1 _ O rfl (by have := hK.1; omega) (fun x hx => by have := (hK.2 x hx).1; omega) (by omega) (by omega)).mono ?_
  rintro e wd ⟨rfl, O, dd, sd⟩
  have nd : ¬ (1 + (wts K : Int)) < 0 := by omega
  have lo : w3.heap.size ≤ (w4.heap.size + 1) := by omega
  have hb := hb.trans (dd _ (by omega))
  have d := d.trans (dd _ (by omega))
  clear dd
  have qq := boxcells hb
  go_wp2_with fail
  refine (heldBoardS_any _ _ _ _ K 1 _ O rfl (by have := hK.1; omega) (fun x hx => by have := (hK.2 x hx).1; omega) (by omega) (by omega)).mono ?_
  rintro e we ⟨rfl, rfl⟩
  go_wp2_with fail
  -- the call once more
  refine (toPuzzle_any _ _ _ _ _ _ (h1.go ((below1 _ _).trans (hb.mono (by omega))))).mono ?_
  rintro e wf ⟨g7, rfl, hg7, r7, hx⟩
  replace hb := box_on hb hx (by have := hb.size; simpa using this)
  replace d := d.trans (hx.mono d.size)
  replace O := O.go hx
  replace qq := boxcells hb
  go_wp2_with fail
  refine (hI.out _ _ _ (r7.rq rfl hl)).mono ?_
  rintro e wh ⟨A8, c8, rfl, P8, hx⟩
  replace hb := box_on hb hx (by have := hb.size; simpa using this)
  replace d := d.trans (hx.mono d.size)
  replace O := O.go hx
  replace qq := boxcells hb
  go_wp2_with fail
  refine (eqBoardS_same _ _ _ _ K _ (P8.own.rb hK) ((R0.below d).more d.size)).mono ?_
  rintro e wi ⟨rfl, hx⟩
  replace hb := box_on hb hx (by have := hb.size; simpa using this)
  replace d := d.trans (hx.mono d.size)
  replace O := O.go hx
  replace qq := boxcells hb
  go_wp2_with fail
  refine (heldBoardS_any _ _ _ _ K 1 _ O rfl (by have := hK.1; omega) (fun x hx => by have := (hK.2 x hx).1; omega) (by omega) (by omega)).mono ?_
  rintro e wj ⟨rfl, rfl⟩
  go_wp2
  go_ret
  exact ⟨rfl, (below1 _ _).trans (hb.mono (by omega))⟩
end Go.Proofs.Ytjngiinfpoappaa

/-
  The law FnExactIsDesk, walked.
-/
import Derived.Test.YtjngiinfpoappaaC10a
import Derived.Test.YtjngiinfpoappaaL11
import Derived.Deep.RegionHeld3
namespace Go.Proofs.Ytjngiinfpoappaa
open Go.RowKit

set_option maxRecDepth 100000 in
theorem lawIsDesk_big (s f o sq : Int) (A : Option Addr) (n c : Nat) (w : World) (hn : n ≤ maxLen) (h : 1048576 < n) :
    Calls Try.prog 13 #[.agg #[.int .i64 s, .int .i64 f, .int .i64 o, .slice A n c, .int .i64 sq]] w fun e w' => e = .returned (.bool true) ∧ Below w.heap.size w w' := by
  have h1 : (1048576 : Int) < n := by omega
  go_enter Try.func13, Try.ntmps13
  go_wp2_with (go_at_call 49; refine (szDesk_any _ _ _ _ _ _ _ _ _ hn (by omega) (by omega)).mono ?_; rintro e w1 ⟨rfl, hx⟩)
  go_ret
  exact ⟨rfl, (below1 _ _).trans (hx.mono (by simp))⟩

set_option maxHeartbeats 1000000 in
set_option maxRecDepth 100000 in
theorem lawIsDesk_small (s f o sq : Int) (A : Option Addr) (c : Nat) (js : List (Int × Int)) (w : World) (hj : RJ w w.heap.size A js) :
    Calls Try.prog 13 #[.agg #[.int .i64 s, .int .i64 f, .int .i64 o, .slice A js.length c, .int .i64 sq]] w fun e w' => e = .returned (.bool true) ∧ Below w.heap.size w w' := by
  have hl := hj.1
  obtain ⟨ok, hS, hI⟩ := isDesk_both s f o sq js 
  have hS := Lib.hid hS
  have hI := Lib.hid hI
  go_enter Try.func13, Try.ntmps13
  go_wp2_with fail
  refine (szDesk_any _ _ _ _ _ _ _ _ _ (by unfold maxLen; omega) (by omega) (by omega)).mono ?_
  rintro e w1 ⟨rfl, hx⟩
  have hb := box_on (Below.refl _ _) hx (by simp)
  have q := boxcells hb
  have h1 : ¬ (1048576 : Int) < js.length := by omega
  have h2 : ¬ (1048576 : Int) - js.length < 0 := by omega
  go_wp2_with fail
  -- a copy for the model
  have hj1 := hj.go ((below1 _ _).trans (hb.mono (by omega)))
  refine (toDesk_any _ _ _ _ _ _ _ _ hj1).mono ?_
  rintro e w2 ⟨g, rfl, hg, hrow, hx⟩
  replace hb := box_on hb hx (by have := hb.size; simpa using this)
  replace q := boxcells hb
  go_wp2_with fail
  refine (hS.out _ _ _ (hrow.rj rfl hl hj.2.1)).mono ?_
  rintro e w3 ⟨rfl, hx⟩
  replace hb := box_on hb hx (by have := hb.size; simpa using this)
  replace q := boxcells hb
  clear hrow hg
  go_wp2_with fail
  -- a copy for the program
  have hj1 := hj.go ((below1 _ _).trans (hb.mono (by omega)))
  refine (toDesk_any _ _ _ _ _ _ _ _ hj1).mono ?_
  rintro e w4 ⟨g1, rfl, hg1, hrow, hx⟩
  replace hb := box_on hb hx (by have := hb.size; simpa using this)
  replace q := boxcells hb
  go_wp2_with fail
  have hrow4 := hrow.alloc (.cells #[.int .i64 s, .int .i64 f, .int .i64 o, .slice (some ⟨g1, 0, none⟩) js.length js.length, .int .i64 sq] 66)
  have hb4 := hb.alloc (by have := hb.size; simpa using this) (.cells #[.int .i64 s, .int .i64 f, .int .i64 o, .slice (some ⟨g1, 0, none⟩) js.length js.length, .int .i64 sq] 66)
  have hg4 := hrow.lt
  clear hb hrow
  refine (hI.out _ _ _ (hrow4.rj rfl hl hj.2.1)).mono ?_
  rintro e w5 ⟨rfl, hx⟩
  have hb2 : Below (w4.heap.size + 1) (w4.alloc _) w5 := box_on (Below.refl _ _) hx (by simp)
  have q2 := boxcells hb2
  have hb := box_on hb4 hx (by have := hb4.size; simpa using this)
  replace q := boxcells hb
  have hrow := hrow4.below hb2 (by omega)
  clear hrow4 hb4
  go_wp2_with fail
  -- the program's copy reads as before
  have hb5 := hb.drew
  have hb25 := hb2.drew
  go_region_held3 (fun w' => Below (w.heap.size + 1) (w.alloc (.cells #[.int .i64 s, .int .i64 f, .int .i64 o, .slice A js.length c, .int .i64 sq] 62)) w' ∧ Below (w4.heap.size + 1) (w4.alloc (.cells #[.int .i64 s, .int .i64 f, .int .i64 o, .slice (some ⟨g1, 0, none⟩) js.length js.length, .int .i64 sq] 66)) w' ∧ (∀ i, w'.cell? ⟨w.heap.size, i, none⟩ = #[.int .i64 s, .int .i64 f, .int .i64 o, .slice A js.length c, .int .i64 sq][i]?) ∧ (∀ i, w'.cell? ⟨w4.heap.size, i, none⟩ = #[.int .i64 s, .int .i64 f, .int .i64 o, .slice (some ⟨g1, 0, none⟩) js.length js.length, .int .i64 sq][i]?)) (go_keep)
    (first | (go_at_call 51; refine (toDesk_any _ _ _ _ _ _ _ _ (hj.go ((below1 _ _).trans (hb5.mono (by omega))))).mono ?_; rintro e w6 ⟨g2, rfl, hg2, hrow2, hx⟩; have k1 := box_on hb5 hx (by have := hb5.size; simpa using this); have k2 := box_on hb25 hx (by have := hb25.size; simpa using this); have k3 := boxcells k1; have k4 := boxcells k2) | (go_at_call 53; refine (eqDesk_any _ _ _ _ _ _ _ _ _ _ _ _ _ _ _ ((hrow.drew.below hx hrow.lt).rj rfl hl hj.2.1) (hrow2.rj rfl hl hj.2.1)).mono ?_; rintro e w7 ⟨rfl, hx7⟩; have m1 := box_on k1 hx7 (by have := k1.size; simpa using this); have m2 := box_on k2 hx7 (by have := k2.size; simpa using this); have m3 := boxcells m1; have m4 := boxcells m2))
  have he : ((s == s && f == f && o == o && js == js) && sq == sq) = true := by simp
  go_wp2
  go_ret
  exact ⟨rfl, (below1 _ _).trans (m1.mono (by omega))⟩
end Go.Proofs.Ytjngiinfpoappaa

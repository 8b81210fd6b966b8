/-
  Races: the model's raGood, the program's contestOf; IsRace on both sides.
-/
import Derived.Test.YtknclgfjoajldabC1d
import Derived.Test.YtknclgfjoajldabC1e
namespace Go.Proofs.Ytknclgfjoajldab
open Go.RowKit

/-- It is a race. -/
def raceOk (s f o : Int) (js : List (Int × Int)) (me fi ot : Int) : Bool :=
  good ⟨s, f, o, js⟩ && (decide (s ≤ 40) && (inB me 0 1 && (onSq s js fi && (onSq s js ot && (decide (fi < s) || decide (ot < s))))))

set_option maxHeartbeats 800000 in
theorem raGood_any (s f o me fi ot : Int) (A : Option Addr) (c : Nat) (js : List (Int × Int)) (w : World) (hj : RJ w w.heap.size A js) :
    Calls Try.prog 64 #[.agg #[.int .i64 s, .int .i64 f, .int .i64 o, .slice A js.length c, .int .i64 me, .int .i64 fi, .int .i64 ot]] w fun e w' => e = .returned (.bool (raceOk s f o js me fi ot)) ∧ Below w.heap.size w w' := by
  have hl := hj.1
  cases hg : good ⟨s, f, o, js⟩
  · go_enter Try.func64, Try.ntmps64
    go_wp2_with (go_at_call 79; refine (sqGood_any _ _ _ _ _ _ _ (hj.go (below1 _ _))).mono ?_; rintro e w1 ⟨rfl, hz⟩)
    go_ret
    exact ⟨ret_bool (by rw [raceOk, hg, Bool.false_and]), (below1 _ _).trans (hz.mono (by simp))⟩
  · by_cases h40 : s ≤ 40
    · have d40 : decide (s ≤ 40) = true := by simpa using h40
      cases hm : inB me 0 1
      · go_enter Try.func64, Try.ntmps64
        go_wp2_with (first | (go_at_call 79; refine (sqGood_any _ _ _ _ _ _ _ (hj.go (below1 _ _))).mono ?_; rintro e w1 ⟨rfl, hz⟩; have hb := box_on (Below.refl _ _) hz (by simp); have q := boxcells hb) | (go_at_call 35; refine (l1In_any _ _ _ _).mono ?_; rintro e w' ⟨rfl, rfl⟩))
        go_ret
        exact ⟨ret_bool (by rw [raceOk, hm, Bool.false_and, Bool.and_false, Bool.and_false]), (below1 _ _).trans (hz.mono (by simp))⟩
      · have K : ∀ (r : Bool) (W : World), (onSq s js fi && (onSq s js ot && (decide (fi < s) || decide (ot < s)))) = r → Below (w.heap.size + 1) (w.alloc (.cells #[.int .i64 s, .int .i64 f, .int .i64 o, .slice A js.length c, .int .i64 me, .int .i64 fi, .int .i64 ot] 48)) W → Ending.returned (.bool r) = .returned (.bool (raceOk s f o js me fi ot)) ∧ Below w.heap.size w W := fun r W e hB => ⟨ret_bool (by rw [raceOk, hg, d40, hm, e]; rfl), (below1 _ _).trans (hB.mono (by omega))⟩
        have HK := Lib.hid K; clear K
        cases hx : onSq s js fi <;> cases hy : onSq s js ot <;> by_cases h1 : fi < s <;> by_cases h2 : ot < s
        all_goals
          go_enter Try.func64, Try.ntmps64
          go_wp2_with (first | (go_at_call 79; refine (sqGood_any _ _ _ _ _ _ _ (hj.go (below1 _ _))).mono ?_; rintro e w1 ⟨rfl, hz⟩; have hb := box_on (Below.refl _ _) hz (by simp); have q := boxcells hb) | (go_at_call 35; refine (l1In_any _ _ _ _).mono ?_; rintro e w' ⟨rfl, rfl⟩) | (go_at_call 80; refine (sqSquare_any _ _ _ _ _ _ _ _ (hj.go ((below1 _ _).trans (hb.mono (by omega))))).mono ?_; rintro e w2 ⟨rfl, hz2⟩; replace hb := box_on hb hz2 (by have := hb.size; simpa using this); replace q := boxcells hb))
          go_ret
          exact HK.out _ _ (by simp [hx, hy, h1, h2]) hb
    · have d40 : decide (s ≤ 40) = false := by simpa using h40
      go_enter Try.func64, Try.ntmps64
      go_wp2_with (first | (go_at_call 79; refine (sqGood_any _ _ _ _ _ _ _ (hj.go (below1 _ _))).mono ?_; rintro e w1 ⟨rfl, hz⟩; have hb := box_on (Below.refl _ _) hz (by simp); have q := boxcells hb))
      go_ret
      exact ⟨ret_bool (by rw [raceOk, d40, Bool.false_and, Bool.and_false]), (below1 _ _).trans (hz.mono (by simp))⟩
end Go.Proofs.Ytknclgfjoajldab

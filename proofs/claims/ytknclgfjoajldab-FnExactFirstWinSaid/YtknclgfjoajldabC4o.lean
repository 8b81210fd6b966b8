/-
  Races: the model's CanWin and ShortestWin.
-/
import Derived.Test.YtknclgfjoajldabC4n
namespace Go.Proofs.Ytknclgfjoajldab
open Go.RowKit

set_option maxRecDepth 100000 in
theorem raStart_any (s f o me : Int) (x y : Nat) (A : Option Addr) (n c : Nat) (w : World) (h1 : 1 ≤ s) (h40 : s ≤ 40) (hx : (x : Int) ≤ s) (hy : (y : Int) ≤ s) :
    Calls Try.prog 49 #[.agg #[.int .i64 s, .int .i64 f, .int .i64 o, .slice A n c, .int .i64 me, .int .i64 x, .int .i64 y]] w fun e w' => e = .returned (.int .i64 (cd (s.toNat + 1) x y 0 : Nat)) ∧ Below w.heap.size w w' := by
  obtain ⟨W, hW⟩ : ∃ W : Nat, W = s.toNat + 1 := ⟨_, rfl⟩
  have hsW : s + 1 = (W : Int) := by omega
  have hW41 : W ≤ 41 := by omega
  have hWW : x * W ≤ 40 * 41 := Nat.mul_le_mul (by omega) hW41
  obtain ⟨q, hq⟩ : ∃ q, q = cd W x y 0 := ⟨_, rfl⟩
  rw [← hW, ← hq]
  obtain ⟨p0, hp0⟩ : ∃ p : Nat, p = x * W := ⟨_, rfl⟩
  obtain ⟨p1, hp1⟩ : ∃ p : Nat, p = p0 + y := ⟨_, rfl⟩
  have hp2 : q = p1 * 2 := by rw [hq, hp1, hp0]; unfold cd; omega
  have iwA : IntKind.i64.wrap (s + 1) = (W : Int) := by rw [IntWalk.i64_in _ (by omega)]; exact hsW
  have iwB : IntKind.i64.wrap ((x : Int) * (W : Int)) = (p0 : Int) := by
    have e : (x : Int) * (W : Int) = (p0 : Int) := by rw [hp0]; simp
    rw [e, IntWalk.i64_in _ (by omega)]
  have iwC : IntKind.i64.wrap ((p0 : Int) + (y : Int)) = (p1 : Int) := by rw [IntWalk.i64_in _ (by omega)]; omega
  have iwD : IntKind.i64.wrap ((p1 : Int) * 2) = (q : Int) := by rw [IntWalk.i64_in _ (by omega)]; omega
  clear hW hsW hq hp0 hp1 hp2 hWW
  go_enter Try.func49, Try.ntmps49
  go_wp2_with fail
  go_ret
  exact ⟨rfl, below1 _ _⟩

/-- Asked about a race, a number of throws and a token. -/
def askedR (s f o : Int) (js : List (Int × Int)) (me fi ot th who : Int) : Bool := raceOk s f o js me fi ot && (inB th 0 14 && inB who 1 2)
set_option maxRecDepth 100000 in
theorem raAsked_any (s f o me fi ot th who : Int) (A : Option Addr) (c : Nat) (js : List (Int × Int)) (w : World) (hj : RJ w w.heap.size A js) :
    Calls Try.prog 47 #[.agg #[.int .i64 s, .int .i64 f, .int .i64 o, .slice A js.length c, .int .i64 me, .int .i64 fi, .int .i64 ot], .int .i64 th, .int .i64 who] w fun e w' => e = .returned (.bool (askedR s f o js me fi ot th who)) ∧ Below w.heap.size w w' := by
  have hl := hj.1
  unfold askedR
  cases hr : raceOk s f o js me fi ot
  · go_enter Try.func47, Try.ntmps47
    go_wp2_with (go_at_call 64; refine (raGood_any _ _ _ _ _ _ _ _ _ _ (hj.go (below1 _ _))).mono ?_; rintro e w1 ⟨rfl, hx⟩; rw [hr])
    go_ret
    exact ⟨rfl, (below1 _ _).trans (hx.mono (by simp))⟩
  · cases hi : inB th 0 14
    · go_enter Try.func47, Try.ntmps47
      go_wp2_with (first | (go_at_call 64; refine (raGood_any _ _ _ _ _ _ _ _ _ _ (hj.go (below1 _ _))).mono ?_; rintro e w1 ⟨rfl, hx⟩; rw [hr]) | (go_at_call 35; refine (l1In_any _ _ _ _).mono ?_; rintro e w' ⟨rfl, rfl⟩; rw [hi]))
      go_ret
      exact ⟨rfl, (below1 _ _).trans (hx.mono (by simp))⟩
    · cases hq : inB who 1 2
      all_goals
        go_enter Try.func47, Try.ntmps47
        go_wp2_with (first | (go_at_call 64; refine (raGood_any _ _ _ _ _ _ _ _ _ _ (hj.go (below1 _ _))).mono ?_; rintro e w1 ⟨rfl, hx⟩; rw [hr]) | (go_at_call 35; refine (l1In_any _ _ _ _).mono ?_; rintro e w' ⟨rfl, rfl⟩; first | rw [hi] | rw [hq]))
        go_ret
        exact ⟨rfl, (below1 _ _).trans (hx.mono (by simp))⟩
end Go.Proofs.Ytknclgfjoajldab

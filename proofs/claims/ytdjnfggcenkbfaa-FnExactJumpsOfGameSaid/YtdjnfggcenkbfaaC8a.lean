/-
  Games as lists of throws; whether a throw goes by a jump, the program's.
-/
import Derived.Test.YtdjnfggcenkbfaaC1d
import Derived.Test.YtdjnfggcenkbfaaM1t
import Derived.Test.YtdjnfggcenkbfaaM2
namespace Go.Proofs.Ytdjnfggcenkbfaa
open Go.RowKit

/-- A throw goes by a jump. -/
def jmp (s o : Int) (js : List (Int × Int)) (sq face : Int) : Int := if jumpOf js (landed s o sq face) = landed s o sq face then 0 else 1
theorem jmp_01 (s o : Int) (js : List (Int × Int)) (sq face : Int) : jmp s o js sq face = 0 ∨ jmp s o js sq face = 1 := by unfold jmp; split <;> simp
/-- The model's: a token that stays goes by none. -/
def jmpS (s o : Int) (js : List (Int × Int)) (sq face : Int) : Int := if landed s o sq face = sq then 0 else jmp s o js sq face
theorem jmpS_01 (s o : Int) (js : List (Int × Int)) (sq face : Int) : jmpS s o js sq face = 0 ∨ jmpS s o js sq face = 1 := by
  unfold jmpS
  split
  · exact .inl rfl
  · exact jmp_01 _ _ _ _ _
theorem jmp_eq {s o : Int} {js : List (Int × Int)} {sq face : Int} (hq : jumpOf js sq = sq) : jmp s o js sq face = jmpS s o js sq face := by
  unfold jmpS
  split
  · rename_i h
    unfold jmp
    rw [h, if_pos hq]
  · rfl
/-- A list of throws is a game. -/
def gameB (s o : Int) (js : List (Int × Int)) (xs : List Int) : Bool := decide (0 < xs.length) && (walkTo s o js 0 xs xs.length == s) && !(walkTo s o js 0 xs (xs.length - 1) == s)
theorem walkTo_stay {s o : Int} {js : List (Int × Int)} {sq : Int} {xs : List Int} {k : Nat} (h : walkTo s o js sq xs k = s) : ∀ j, k ≤ j → j ≤ xs.length → walkTo s o js sq xs j = s := by
  intro j hkj
  induction j with
  | zero => intro _; obtain rfl : k = 0 := by omega
            exact h
  | succ j ih =>
    intro hj
    rcases Nat.lt_or_ge j k with h1 | h1
    · obtain rfl : k = j + 1 := by omega
      exact h
    · rw [walkTo_succ _ _ _ _ _ _ (by omega), ih h1 (by omega)]
      unfold thrown
      rw [if_pos rfl]
theorem gameB_over {s o : Int} {js : List (Int × Int)} {xs : List Int} {k : Nat} (hk : k < xs.length) (h : walkTo s o js 0 xs k = s) : gameB s o js xs = false := by
  unfold gameB
  rw [walkTo_stay h (xs.length - 1) (by omega) (by omega)]
  simp
theorem gameB_end {s o : Int} {js : List (Int × Int)} {xs : List Int} (hs : 1 ≤ s) (h : ∀ i, i < xs.length → ¬ walkTo s o js 0 xs i = s) : gameB s o js xs = (walkTo s o js 0 xs xs.length == s) := by
  unfold gameB
  by_cases h0 : 0 < xs.length
  · have h1 := h (xs.length - 1) (by omega)
    have h2 : (walkTo s o js 0 xs (xs.length - 1) == s) = false := by simpa using h1
    rw [h2]
    simp [h0]
  · have e : xs.length = 0 := by omega
    have h2 : ¬ (0 : Int) = s := by omega
    simp [e, walkTo_zero, h2]
/-- The jumps of the first k throws. -/
def jumpsN (s o : Int) (js : List (Int × Int)) (xs : List Int) (k : Nat) : Int := sumTo (fun i => jmpS s o js (walkTo s o js 0 xs i) (xs.getD i 0)) k
theorem jumpsN_le (s o : Int) (js : List (Int × Int)) (xs : List Int) : ∀ k : Nat, 0 ≤ jumpsN s o js xs k ∧ jumpsN s o js xs k ≤ k
  | 0 => by simp [jumpsN, sumTo]
  | k + 1 => by
    have h1 := jumpsN_le s o js xs k
    have h2 := jmpS_01 s o js (walkTo s o js 0 xs k) (xs.getD k 0)
    unfold jumpsN at h1 ⊢
    rw [sumTo]
    omega
theorem jumpsN_succ (s o : Int) (js : List (Int × Int)) (xs : List Int) {k : Nat} (hk : k < xs.length) : jumpsN s o js xs (k + 1) = jumpsN s o js xs k + jmpS s o js (walkTo s o js 0 xs k) xs[k] := by
  unfold jumpsN
  rw [sumTo, List.getD_eq_getElem?_getD, List.getElem?_eq_getElem hk]; rfl

theorem jumpsBy_any (g : Nat) (s f o : Int) (js : List (Int × Int)) (sq face : Int) (w : World) (hC : CV w g s f o (fun i => jumpOf js i)) (hs0 : 1 ≤ s) (hs : s ≤ 100) (ho0 : 0 ≤ o) (ho : o ≤ 2) (h0 : 0 ≤ sq) (h1 : sq ≤ s) (hf0 : 1 ≤ face) (hf : face ≤ 8) :
    Calls Try.prog 48 #[.pointer (some ⟨g, 0, none⟩), .int .i64 sq, .int .i64 face] w fun e w' => e = .returned (.int .i64 (jmp s o js sq face)) ∧ w = w' := by
  have hL := landed_in (o := o) h0 h1 hf0
  have c1 := hC.at_ (i := (landed s o sq face).toNat) (by omega)
  have ec : (((landed s o sq face).toNat : Nat) : Int) = landed s o sq face := by omega
  have i0 : 0 ≤ landed s o sq face := hL.1
  have i1 : landed s o sq face < 101 := by omega
  cases hj : (jumpOf js (landed s o sq face) == landed s o sq face)
  · have hv : jmp s o js sq face = 1 := by unfold jmp; rw [if_neg (by simpa using hj)]
    have hj' : (jumpOf js (landed s o sq face) != landed s o sq face) = true := by simpa using hj
    rw [hv]; clear hv
    go_enter Try.func48, Try.ntmps48
    go_wp2_with (first | (go_at_call 70; refine ((lands_any _ _ _ _ _ _ _ _ hC hs0 hs ho0 ho h0 h1 hf0 hf)).mono ?_; rintro e w' ⟨rfl, rfl⟩))
    go_ret
    exact ⟨rfl, rfl⟩
  · have hv : jmp s o js sq face = 0 := by unfold jmp; rw [if_pos (by simpa using hj)]
    have hj' : (jumpOf js (landed s o sq face) != landed s o sq face) = false := by simpa using hj
    rw [hv]; clear hv
    go_enter Try.func48, Try.ntmps48
    go_wp2_with (first | (go_at_call 70; refine ((lands_any _ _ _ _ _ _ _ _ hC hs0 hs ho0 ho h0 h1 hf0 hf)).mono ?_; rintro e w' ⟨rfl, rfl⟩))
    go_ret
    exact ⟨rfl, rfl⟩
end Go.Proofs.Ytdjnfggcenkbfaa

/-
  Fractions are compared: guesses, math.Abs, cmp.Compare, compare.
-/
import Derived.Test.YtblpfjjnlfjloaaC5p
import Derived.WalkLawsBesides
import Derived.Laws.FloatArith
import Derived.BigQuiet
import Derived.Deep.QuietTactic
namespace Go.Proofs.Ytblpfjjnlfjloaa
open Go.RowKit

def nearF (n : Nat) : Nat := floatOfInt FloatKind.f64 (n : Int)
def u64M : Nat := 18446744073709551616
def guessF (p : Fr) : Option Nat := FloatKind.f64.format.div (nearF p.1) (nearF p.2)
def absB (b : Nat) : Nat := b % 9223372036854775808
def farF (g o : Nat) : Option Bool := do
  let d ← FloatKind.f64.format.sub g o
  let s ← FloatKind.f64.format.add g o
  let m ← FloatKind.f64.format.mul 4517329193108106637 s
  pure (FloatKind.f64.format.order (absB d) m == some .gt)

set_option maxRecDepth 100000 in
theorem guess_any (p : Fr) (g : Nat) (w : World) (hg : guessF p = some g) :
    Calls Try.prog 79 #[.agg #[.int .i64 (p.1 : Nat), .int .i64 (p.2 : Nat)]] w fun e w' => e = .returned (.float .f64 g) ∧ Below w.heap.size w w' := by
  have hq := fun w => run_float_arith (P := Try.prog) w .quo 114 .f64 (nearF p.1) (nearF p.2) g hg
  unfold nearF at hq
  clear hg
  go_enter Try.func79, Try.ntmps79
  go_wp2
  go_ret
  exact ⟨rfl, below1 _ _⟩
theorem run_bits (b : Nat) (w : World) : (callFunc 93 #[.float .f64 b]).run Try.prog w = .ok (.value (.int .u64 b)) w := by kernel_rfl
theorem run_frombits (b : Nat) (w : World) : (callFunc 92 #[.int .u64 b]).run Try.prog w = .ok (.value (.float .f64 b)) w := by kernel_rfl
theorem absB_bv (b : Nat) (hb : b < u64M) : ((BitVec.ofInt 64 (b : Int)) &&& ~~~(BitVec.ofInt 64 9223372036854775808)).toNat = absB b := by
  have e : ~~~(BitVec.ofInt 64 9223372036854775808) = BitVec.ofNat 64 (2 ^ 63 - 1) := by decide
  have e2 : (BitVec.ofInt 64 (b : Int)).toNat = b := by unfold u64M at hb; simp; omega
  have e3 : (BitVec.ofNat 64 (2 ^ 63 - 1)).toNat = 2 ^ 63 - 1 := by decide
  rw [e, BitVec.toNat_and, e2, e3, Nat.and_two_pow_sub_one_eq_mod]
  rfl
theorem absB_lt (b : Nat) : absB b < u64M := by unfold absB u64M; omega
theorem wrap_u64 (n : Nat) (h : n < u64M) : IntKind.u64.wrap (n : Int) = n := by
  unfold IntKind.wrap
  rw [if_neg (by simp [IntKind.signed])]
  show (n : Int) % (18446744073709551616 : Int) = n
  unfold u64M at h
  omega
theorem bits_abs (b : Nat) (hb : b < u64M) : bits .andNot .u64 (b : Int) 9223372036854775808 = ((absB b : Nat) : Int) := by
  show IntKind.u64.wrap (((BitVec.ofInt 64 (b : Int)) &&& ~~~(BitVec.ofInt 64 9223372036854775808)).toNat : Int) = _
  rw [absB_bv b hb]
  exact wrap_u64 _ (absB_lt b)
set_option maxRecDepth 100000 in
theorem abs_any (b : Nat) (w : World) (hb : b < u64M) :
    Calls Try.prog 80 #[.float .f64 b] w fun e w' => e = .returned (.float .f64 (absB b)) ∧ w = w' := by
  have h1 := fun w => run_bits b w
  have h2 := fun w => run_frombits (absB b) w
  have h3 := bits_abs b hb
  clear hb
  go_enter Try.func80, Try.ntmps80
  go_wp2_with fail
  go_ret
  exact ⟨rfl, rfl⟩

theorem isNaN_any (g : Nat) (w : World) (h : (FloatKind.f64.format.order g g != some .eq) = false) :
    Calls Try.prog 94 #[.float .f64 g] w fun e w' => e = .returned (.bool false) ∧ w = w' := by
  go_enter Try.func94, Try.ntmps94
  go_wp2
  go_ret
  exact ⟨rfl, rfl⟩
/-- What cmp.Compare tells of two floats that are numbers. -/
def ordC (g o : Nat) : Int := if FloatKind.f64.format.order g o == some .lt then -1 else if FloatKind.f64.format.order g o == some .gt then 1 else 0
theorem cmpFloat_any (g o : Nat) (w : World) (hg : (FloatKind.f64.format.order g g != some .eq) = false) (ho : (FloatKind.f64.format.order o o != some .eq) = false) :
    Calls Try.prog 81 #[.float .f64 g, .float .f64 o] w fun e w' => e = .returned (.int .i64 (ordC g o)) ∧ w = w' := by
  have hc : ordC g o = if FloatKind.f64.format.order g o == some .lt then -1 else if FloatKind.f64.format.order g o == some .gt then 1 else 0 := rfl
  have HC := Lib.hid hc
  clear hc
  have H1 := Lib.hid (fun w => isNaN_any g w hg)
  have H2 := Lib.hid (fun w => isNaN_any o w ho)
  clear hg ho
  cases h1 : (FloatKind.f64.format.order g o == some .lt) <;> cases h2 : (FloatKind.f64.format.order g o == some .gt)
  all_goals
    go_enter Try.func81, Try.ntmps81
    go_wp2_with fail
    refine (H1.out _).mono ?_
    rintro e w1 ⟨rfl, rfl⟩
    go_wp2_with fail
    refine (H2.out _).mono ?_
    rintro e w1 ⟨rfl, rfl⟩
    go_wp2
    go_ret
    exact ⟨ret_int (by rw [HC.out, h1, h2]; rfl), rfl⟩
def intC (a b : Int) : Int := if a < b then -1 else if b < a then 1 else 0
theorem isNaNInt_any (g : Int) (w : World) :
    Calls Try.prog 95 #[.int .i64 g] w fun e w' => e = .returned (.bool false) ∧ w = w' := by
  go_enter Try.func95, Try.ntmps95
  go_wp2
  go_ret
  exact ⟨ret_bool (by simp), rfl⟩
theorem cmpInt_any (a b : Int) (w : World) :
    Calls Try.prog 82 #[.int .i64 a, .int .i64 b] w fun e w' => e = .returned (.int .i64 (intC a b)) ∧ w = w' := by
  have hc : intC a b = if a < b then -1 else if b < a then 1 else 0 := rfl
  have HC := Lib.hid hc
  clear hc
  by_cases h1 : a < b
  · go_enter Try.func82, Try.ntmps82
    go_wp2_with (go_at_call 95; refine (isNaNInt_any _ _).mono ?_; rintro e w1 ⟨rfl, rfl⟩)
    go_ret
    exact ⟨ret_int (by rw [HC.out, if_pos h1]), rfl⟩
  · by_cases h2 : b < a
    · go_enter Try.func82, Try.ntmps82
      go_wp2_with (go_at_call 95; refine (isNaNInt_any _ _).mono ?_; rintro e w1 ⟨rfl, rfl⟩)
      go_ret
      exact ⟨ret_int (by rw [HC.out, if_neg (by omega), if_pos (by omega)]), rfl⟩
    · go_enter Try.func82, Try.ntmps82
      go_wp2_with (go_at_call 95; refine (isNaNInt_any _ _).mono ?_; rintro e w1 ⟨rfl, rfl⟩)
      go_ret
      exact ⟨ret_int (by rw [HC.out, if_neg (by omega), if_neg (by omega)]), rfl⟩

/-- What compare tells of two fractions, where all floats on the way are numbers. -/
def cmpP (p q : Fr) : Option Int :=
  match guessF p, guessF q with
  | some g, some o => match FloatKind.f64.format.sub g o, FloatKind.f64.format.add g o with
    | some d, some s => match FloatKind.f64.format.mul 4517329193108106637 s with
      | some m => if (FloatKind.f64.format.order g g != some .eq) || (FloatKind.f64.format.order o o != some .eq) || decide (u64M ≤ d) then none
          else if FloatKind.f64.format.order (absB d) m == some .gt then some (ordC g o) else some (intC (p.1 * q.2 : Nat) (q.1 * p.2 : Nat))
      | none => none
    | _, _ => none
  | _, _ => none
theorem cmpP_some {p q : Fr} {c : Int} (h : cmpP p q = some c) : ∃ g o d s m, guessF p = some g ∧ guessF q = some o ∧ FloatKind.f64.format.sub g o = some d ∧ FloatKind.f64.format.add g o = some s ∧ FloatKind.f64.format.mul 4517329193108106637 s = some m ∧
    (FloatKind.f64.format.order g g != some .eq) = false ∧ (FloatKind.f64.format.order o o != some .eq) = false ∧ d < u64M ∧
    (((FloatKind.f64.format.order (absB d) m == some .gt) = true ∧ c = ordC g o) ∨ ((FloatKind.f64.format.order (absB d) m == some .gt) = false ∧ c = intC (p.1 * q.2 : Nat) (q.1 * p.2 : Nat))) := by
  unfold cmpP at h
  cases hg : guessF p with
  | none => simp [hg] at h
  | some g =>
    cases ho : guessF q with
    | none => simp [hg, ho] at h
    | some o =>
      simp only [hg, ho] at h
      cases hd : FloatKind.f64.format.sub g o with
      | none => simp [hd] at h
      | some d =>
        cases hs : FloatKind.f64.format.add g o with
        | none => simp [hd, hs] at h
        | some s =>
          simp only [hd, hs] at h
          cases hm : FloatKind.f64.format.mul 4517329193108106637 s with
          | none => simp [hm] at h
          | some m =>
            simp only [hm] at h
            cases h1 : (FloatKind.f64.format.order g g != some .eq) with
            | true => simp [h1] at h
            | false =>
              cases h2 : (FloatKind.f64.format.order o o != some .eq) with
              | true => simp [h2] at h
              | false =>
                by_cases h3 : u64M ≤ d
                · simp [h3] at h
                · rw [h1, h2, decide_eq_false h3] at h
                  simp only [Bool.or_self, Bool.false_eq_true, if_false] at h
                  refine ⟨g, o, d, s, m, rfl, rfl, hd, hs, hm, h1, h2, by omega, ?_⟩
                  cases h4 : (FloatKind.f64.format.order (absB d) m == some .gt) with
                  | true => rw [h4] at h; simp only [if_true] at h; injection h with h; exact .inl ⟨rfl, h.symm⟩
                  | false => rw [h4] at h; simp only [Bool.false_eq_true, if_false] at h; injection h with h; exact .inr ⟨rfl, h.symm⟩
end Go.Proofs.Ytblpfjjnlfjloaa

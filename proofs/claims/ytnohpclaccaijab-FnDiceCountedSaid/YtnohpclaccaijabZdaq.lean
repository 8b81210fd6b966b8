/- Several texts, one behind the other: M90 D3 Head R8 R18. -/
import Derived.Test.YtnohpclaccaijabRows
import Derived.JoinedOf
import Derived.KernelRfl
import Derived.WalkKit
import Derived.ProofKit
import Derived.OpenShut
import Derived.Lib.SmallJoins
import Derived.Deep.Slices
import Derived.Deep.Fields
import Derived.ChangeSame
import Derived.Carry
import Derived.ChangeSlices
import Derived.Test.YtnohpclaccaijabZdaj
import Derived.Test.YtnohpclaccaijabZdao
import Derived.Test.YtnohpclaccaijabZdan
import Derived.Test.YtnohpclaccaijabZdaa
import Derived.Test.YtnohpclaccaijabZdap

namespace Go.Proofs.Ytnohpclaccaijab

theorem pow_gaps : ∀ d, d ≤ 8 → ∀ f, f ≤ 12 → ∀ a, a ≤ f → a ^ d + (f - 1) ^ d ≤ f ^ d + (a - 1) ^ d := by decide +kernel
theorem pow_less {d f : Nat} (hd : 1 ≤ d) (hf : 1 ≤ f) : (f - 1) ^ d < f ^ d := Nat.pow_lt_pow_left (by omega) (by omega)
/-- All throws are counted where no face can be more often than that. -/
theorem mq_full {d f m : Nat} (h : d ≤ m) : mq d f m = f ^ d := by
  rw [mq, ← W_all d f]
  refine W_same d f _ _ fun t ht => ?_
  have h1 := mostN_le t f
  have h2 := ups_len d f t ht
  rw [decide_eq_true (show mostN t f ≤ m by omega)]
  rfl
theorem mostN_ge (t : List Nat) (a : Nat) : ∀ n, 1 ≤ a → a ≤ n → t.count a ≤ mostN t n
  | 0, h1, h2 => by omega
  | n + 1, h1, h2 => by
    show _ ≤ max _ _
    by_cases e : a = n + 1
    · subst e; exact Nat.le_max_right _ _
    · exact Nat.le_trans (mostN_ge t a n h1 (by omega)) (Nat.le_max_left _ _)
theorem head_count {d f : Nat} {t : List Nat} (hd : 1 ≤ d) (ht : t ∈ ups d f) : ∃ a, 1 ≤ a ∧ a ≤ f ∧ 0 < t.count a := by
  have hl := ups_len d f t ht
  match t, ht, hl with
  | [], _, hl => simp at hl; omega
  | a :: r, ht, _ =>
    have := ups_in d f (a :: r) ht a (by simp)
    exact ⟨a, this.1, this.2, by simp⟩
theorem mq_none {d f : Nat} (hd : 1 ≤ d) : mq d f 0 = 0 := by
  refine (W_same d f _ (fun _ => 0) fun t ht => ?_).trans (W_null d f)
  obtain ⟨a, h1, h2, h3⟩ := head_count hd ht
  have := mostN_ge t a f h1 h2
  rw [decide_eq_false (show ¬ mostN t f ≤ 0 by omega)]
  rfl
/-- Just so many throws as faces have all dice alike. -/
theorem mq_alike {d : Nat} (hd : 1 ≤ d) : ∀ f, mq d f (d - 1) + f = f ^ d
  | 0 => by
    rw [mq_zero, if_neg (by omega), Nat.zero_pow (by omega)]
  | f + 1 => by
    have ih := mq_alike hd f
    obtain ⟨e, rfl⟩ : ∃ e, d = e + 1 := ⟨d - 1, by omega⟩
    have h1 := mq_peel (e + 1) f e
    have h2 := mq_peel (e + 1) f (e + 1)
    rw [mq_full (Nat.le_refl _)] at h2
    rw [sumD_head] at h1 h2
    rw [show e + 1 - 1 = e by omega] at ih ⊢
    rw [h1]
    rw [h2]
    simp only [bin_zero, Nat.sub_zero, Nat.one_mul, Nat.zero_le, if_true] at *
    have e1 : sumD (fun i => if i + 1 ≤ e then bin (e + 1) (i + 1) * mq (e + 1 - (i + 1)) f e else 0) (e + 1) + 1 = sumD (fun i => if i + 1 ≤ e + 1 then bin (e + 1) (i + 1) * mq (e + 1 - (i + 1)) f (e + 1) else 0) (e + 1) := by
      show sumD _ e + _ + 1 = sumD _ e + _
      dsimp only
      rw [if_neg (show ¬ e + 1 ≤ e by omega), if_pos (Nat.le_refl _), bin_self, Nat.sub_self, mq_full (Nat.zero_le _), Nat.pow_zero]
      rw [sumD_same _ (fun i => if i + 1 ≤ e + 1 then bin (e + 1) (i + 1) * mq (e + 1 - (i + 1)) f (e + 1) else 0) e (fun i hi => by
        rw [if_pos (show i + 1 ≤ e by omega), if_pos (show i + 1 ≤ e + 1 by omega), mq_full (show e + 1 - (i + 1) ≤ e by omega), mq_full (show e + 1 - (i + 1) ≤ e + 1 by omega)])]
    rw [mq_full (show e + 1 ≤ e + 1 by omega)]
    omega
/-- Longer runs are rarer. -/
theorem rq_mono {d f a : Nat} (h : W d f (fun t => is (decide (a + 1 ≤ lonN t f))) = rq d f 0 (a + 1)) (h' : W d f (fun t => is (decide (a ≤ lonN t f))) = rq d f 0 a) : rq d f 0 (a + 1) ≤ rq d f 0 a := by
  rw [← h, ← h']
  refine W_le d f _ _ fun t _ => ?_
  by_cases e : a + 1 ≤ lonN t f
  · rw [decide_eq_true e, decide_eq_true (show a ≤ lonN t f by omega)]; exact Nat.le_refl _
  · rw [decide_eq_false e]; exact Nat.zero_le _
theorem rq_short {d f : Nat} (hd : 1 ≤ d) (h : W d f (fun t => is (decide (1 ≤ lonN t f))) = rq d f 0 1) : rq d f 0 1 = f ^ d := by
  rw [← h, ← W_all d f]
  refine W_same d f _ _ fun t ht => ?_
  obtain ⟨a, h1, h2, h3⟩ := head_count hd ht
  have : 1 ≤ lonN t f := (lonN_win t 1 (Nat.le_refl _) f).2 ⟨a, h2, h1, fun i hi => by
    obtain rfl : i = 0 := by omega
    exact h3⟩
  rw [decide_eq_true this]
  rfl
/-- A run needs as many dice and faces. -/
theorem rq_dice (run : Nat) : ∀ (f d b : Nat), b < run → d < run - b → rq d f b run = 0
  | 0, d, b, hb, _ => rq_zero d b run (by omega)
  | f + 1, d, b, hb, hd => by
    rw [rq_peel d f b run (by omega), rq_dice run f d 0 (by omega) (by omega), Nat.zero_add]
    have : ∀ n, n ≤ d → sumD (fun k => bin d (k + 1) * rq (d - (k + 1)) f (b + 1) run) n = 0 := by
      intro n
      induction n with
      | zero => intro _; rfl
      | succ n ih =>
        intro hn
        show sumD _ n + _ = 0
        dsimp only
        rw [ih (by omega), rq_dice run f (d - (n + 1)) (b + 1) (by omega) (by omega), Nat.mul_zero]
    exact this d (Nat.le_refl _)
theorem rq_faces {d f a : Nat} (h : f < a) (hw : W d f (fun t => is (decide (a ≤ lonN t f))) = rq d f 0 a) : rq d f 0 a = 0 := by
  rw [← hw]
  refine (W_same d f _ (fun _ => 0) fun t _ => ?_).trans (W_null d f)
  have := lonN_le t f
  rw [decide_eq_false (show ¬ a ≤ lonN t f by omega)]
  rfl
theorem sumD_ge (g : Nat → Nat) : ∀ (n k : Nat), k < n → g k ≤ sumD g n
  | n + 1, k, h => by
    show _ ≤ sumD g n + g n
    by_cases e : k = n
    · subst e; omega
    · have := sumD_ge g n k (by omega); omega
theorem rq_some (run : Nat) : ∀ (n f d b : Nat), b + n = run → 1 ≤ n → n ≤ d → n ≤ f → 1 ≤ rq d f b run
  | 0, _, _, _, _, h, _, _ => by omega
  | n + 1, 0, _, _, _, _, _, h => by omega
  | n + 1, f + 1, d, b, hr, _, hd, hf => by
    rw [rq_peel d f b run (by omega)]
    by_cases hn : n = 0
    · subst hn
      have h1 : bin d (d - 1 + 1) * rq (d - (d - 1 + 1)) f (b + 1) run ≤ sumD (fun k => bin d (k + 1) * rq (d - (k + 1)) f (b + 1) run) d := sumD_ge (fun k => bin d (k + 1) * rq (d - (k + 1)) f (b + 1) run) d (d - 1) (by omega)
      have e1 : rq 0 f (b + 1) run = 1 := by
        rw [show b + 1 = run by omega, rq_done, Nat.pow_zero]
      rw [show d - 1 + 1 = d by omega, bin_self, Nat.sub_self, e1] at h1
      omega
    · have ih := rq_some run n f (d - 1) (b + 1) (by omega) (by omega) (by omega) (by omega)
      have h1 : bin d (0 + 1) * rq (d - 1) f (b + 1) run ≤ sumD (fun k => bin d (k + 1) * rq (d - (k + 1)) f (b + 1) run) d := sumD_ge (fun k => bin d (k + 1) * rq (d - (k + 1)) f (b + 1) run) d 0 (by omega)
      have hb : 1 ≤ bin d (0 + 1) := by
        have := bin_up (d - 1) 0
        rw [show d - 1 + 1 = d by omega, bin_zero] at this
        omega
      have := Nat.mul_le_mul hb ih
      omega
theorem rq_pos_iff {d f a : Nat} (ha : 1 ≤ a) (hw : W d f (fun t => is (decide (a ≤ lonN t f))) = rq d f 0 a) : 0 < rq d f 0 a ↔ a ≤ d ∧ a ≤ f := by
  constructor
  · intro h
    constructor
    · rcases Nat.lt_or_ge d a with h1 | h1
      · rw [rq_dice a f d 0 (by omega) (by omega)] at h; omega
      · exact h1
    · rcases Nat.lt_or_ge f a with h1 | h1
      · rw [rq_faces h1 hw] at h; omega
      · exact h1
  · rintro ⟨h1, h2⟩
    exact rq_some a a f d 0 (by omega) ha h1 h2
theorem sj_pos : ∀ d, d ≤ 8 → ∀ f, f ≤ 12 → 1 ≤ f → 1 ≤ d → (0 < sj f d ↔ f ≤ d) := by decide +kernel
/-- The average until each face has come goes on from that of one face less. -/
theorem sF_step : ∀ f, f ≤ 12 → 2 ≤ f → (sF f f).1 * (f - 1) * (sF (f - 1) (f - 1)).2 = (sF f f).2 * (f * (sF (f - 1) (f - 1)).1 + (f - 1) * (sF (f - 1) (f - 1)).2) := by decide +kernel
theorem sF_one : (sF 1 1).1 = (sF 1 1).2 := by decide +kernel
theorem sF_small : ∀ f, f ≤ 12 → (sF f f).1 ≤ 1000000 ∧ (sF f f).2 ≤ 1000000 := by decide +kernel
end Go.Proofs.Ytnohpclaccaijab

namespace Go.Proofs.Ytnohpclaccaijab
open Go.RowKit

theorem each_told (d f : Int) : ∃ (x : Int) (ok : Bool),
    ((∀ w, Calls Try.prog 40 #[.int .i64 d, .int .i64 f] w fun e w' => e = .returned (.tuple #[.int .i64 x, .bool ok]) ∧ Below w.heap.size w w') ∧
    (∀ w, Calls Try.prog 39 #[.int .i64 d, .int .i64 f] w fun e w' => e = .returned (.tuple #[.int .i64 x, .bool ok]) ∧ Below w.heap.size w w')) ∧
    (ok = true → ∃ m n X : Nat, d = m ∧ f = n ∧ x = X ∧ 1 ≤ m ∧ m ≤ 8 ∧ 1 ≤ n ∧ n ≤ 12 ∧ (0 < X ↔ n ≤ m) ∧
      (∀ w, Calls Try.prog 45 #[.int .i64 m, .int .i64 n, .int .i64 n] w fun e w' => e = .returned (.tuple #[.int .i64 X, .bool true]) ∧ Below w.heap.size w w')) := by
  cases hc : cupB d f
  · exact ⟨0, false, ⟨fun w => specEach_no d f w hc, fun w => implEach_no d f w hc⟩, by simp⟩
  · obtain ⟨m, n, rfl, rfl, h1, h2, h3, h4⟩ := cupB_nat hc
    exact ⟨_, _, ⟨fun w => specEach_yes m n w h1 h2 h3 h4, fun w => implEach_yes m n w h1 h2 h3 h4⟩, fun _ => ⟨m, n, _, rfl, rfl, rfl, h1, h2, h3, h4, sj_pos m h2 n h4 h3 h1, fun w => by rw [← each_math m n h3]; exact implCountRuns_yes m n n w h1 h2 h3 h4 h3 h4⟩⟩

theorem same_told (d f a : Int) : ∃ (x : Int) (ok : Bool),
    ((∀ w, Calls Try.prog 43 #[.int .i64 d, .int .i64 f, .int .i64 a] w fun e w' => e = .returned (.tuple #[.int .i64 x, .bool ok]) ∧ Below w.heap.size w w') ∧
    (∀ w, Calls Try.prog 42 #[.int .i64 d, .int .i64 f, .int .i64 a] w fun e w' => e = .returned (.tuple #[.int .i64 x, .bool ok]) ∧ Below w.heap.size w w')) ∧
    (ok = true → ∃ m n q X : Nat, d = m ∧ f = n ∧ a = q ∧ x = X ∧ 1 ≤ m ∧ m ≤ 8 ∧ 1 ≤ n ∧ n ≤ 12 ∧ 1 ≤ q ∧ q ≤ 8 ∧ (q = m → X = n)) := by
  by_cases h : cupB d f = true ∧ (1 ≤ a ∧ a ≤ 8)
  · obtain ⟨hc, h5⟩ := h
    obtain ⟨m, n, rfl, rfl, h1, h2, h3, h4⟩ := cupB_nat hc
    obtain ⟨q, rfl⟩ : ∃ q : Nat, a = q := ⟨a.toNat, by omega⟩
    have sm := same_math m n q (by omega)
    refine ⟨_, _, ⟨fun w => specCountSame_yes m n q w h1 h2 h3 h4 (by omega) (by omega) _ sm, fun w => implCountSame_yes m n q w h1 h2 h3 h4 (by omega) (by omega)⟩, fun _ => ⟨m, n, q, _, rfl, rfl, rfl, rfl, h1, h2, h3, h4, by omega, by omega, fun e => ?_⟩⟩
    subst e
    have e1 := mq_alike h1 n
    have e2 := mq_full (d := q) (f := n) (m := q) (Nat.le_refl _)
    omega
  · have h' : cupB d f = false ∨ (a < 1 ∨ 8 < a) := by
      cases h1 : cupB d f
      · exact .inl rfl
      · right
        have : ¬ (1 ≤ a ∧ a ≤ 8) := fun e => h ⟨h1, e⟩
        omega
    exact ⟨0, false, ⟨fun w => specCountSame_no d f a w h', fun w => implCountSame_no d f a w h'⟩, by simp⟩

theorem rq_all (m n q : Nat) (h : 1 ≤ q) : rq m n 0 q ≤ n ^ m := by rw [← runs_math m n q h]; exact W_is_le m n _

theorem runs_told (d f a : Int) : ∃ (x : Int) (ok : Bool),
    ((∀ w, Calls Try.prog 46 #[.int .i64 d, .int .i64 f, .int .i64 a] w fun e w' => e = .returned (.tuple #[.int .i64 x, .bool ok]) ∧ Below w.heap.size w w') ∧
    (∀ w, Calls Try.prog 45 #[.int .i64 d, .int .i64 f, .int .i64 a] w fun e w' => e = .returned (.tuple #[.int .i64 x, .bool ok]) ∧ Below w.heap.size w w')) ∧
    (ok = true → ∃ m n q X : Nat, d = m ∧ f = n ∧ a = q ∧ x = X ∧ 1 ≤ m ∧ m ≤ 8 ∧ 1 ≤ n ∧ n ≤ 12 ∧ 1 ≤ q ∧ q ≤ 12 ∧ X ≤ n ^ m ∧ (0 < X ↔ q ≤ m ∧ q ≤ n) ∧ (q = 1 → X = n ^ m) ∧
      (1 < q → ∃ Y : Nat, X ≤ Y ∧ ∀ w, Calls Try.prog 45 #[.int .i64 m, .int .i64 n, .int .i64 (q - 1 : Nat)] w fun e w' => e = .returned (.tuple #[.int .i64 Y, .bool true]) ∧ Below w.heap.size w w')) := by
  by_cases h : cupB d f = true ∧ (1 ≤ a ∧ a ≤ 12)
  · obtain ⟨hc, h5⟩ := h
    obtain ⟨m, n, rfl, rfl, h1, h2, h3, h4⟩ := cupB_nat hc
    obtain ⟨q, rfl⟩ : ∃ q : Nat, a = q := ⟨a.toNat, by omega⟩
    have hq : 1 ≤ q := by omega
    have sm := runs_math m n q hq
    refine ⟨_, _, ⟨fun w => specCountRuns_yes m n q w h1 h2 h3 h4 (by omega) (by omega) _ sm, fun w => implCountRuns_yes m n q w h1 h2 h3 h4 (by omega) (by omega)⟩, fun _ => ⟨m, n, q, _, rfl, rfl, rfl, rfl, h1, h2, h3, h4, by omega, by omega, ?_, ?_, ?_, ?_⟩⟩
    · rw [sm]; exact rq_all m n q hq
    · rw [sm]; exact rq_pos_iff hq sm
    · intro e; subst e; rw [sm]; exact rq_short h1 sm
    · intro e
      obtain ⟨p, rfl⟩ : ∃ p, q = p + 1 := ⟨q - 1, by omega⟩
      have sp := runs_math m n p (by omega)
      exact ⟨_, by rw [sm, sp]; exact rq_mono sm sp, fun w => implCountRuns_yes m n p w h1 h2 h3 h4 (by omega) (by omega)⟩
  · have h' : cupB d f = false ∨ (a < 1 ∨ 12 < a) := by
      cases h1 : cupB d f
      · exact .inl rfl
      · right
        have : ¬ (1 ≤ a ∧ a ≤ 12) := fun e => h ⟨h1, e⟩
        omega
    exact ⟨0, false, ⟨fun w => specCountRuns_no d f a w h', fun w => implCountRuns_no d f a w h'⟩, by simp⟩

theorem implThrows_sF (n : Nat) (w : World) (h1 : 1 ≤ n) (h2 : n ≤ 12) : Calls Try.prog 48 #[.int .i64 n] w fun e w' => e = .returned (.tuple #[.int .i64 ((sF n n).1 : Nat), .int .i64 ((sF n n).2 : Nat), .bool true]) ∧ Below w.heap.size w w' := by
  rw [← throws_same n h2 h1]; exact implThrows_yes n w h1 h2

theorem throws_told (f : Int) : ∃ (x y : Int) (ok : Bool),
    ((∀ w, Calls Try.prog 49 #[.int .i64 f] w fun e w' => e = .returned (.tuple #[.int .i64 x, .int .i64 y, .bool ok]) ∧ Below w.heap.size w w') ∧
    (∀ w, Calls Try.prog 48 #[.int .i64 f] w fun e w' => e = .returned (.tuple #[.int .i64 x, .int .i64 y, .bool ok]) ∧ Below w.heap.size w w')) ∧
    (ok = true → ∃ n X Y : Nat, f = n ∧ x = X ∧ y = Y ∧ 1 ≤ n ∧ n ≤ 12 ∧ X ≤ 1000000 ∧ Y ≤ 1000000 ∧ (n = 1 → X = Y) ∧
      (1 < n → ∃ L U : Nat, L ≤ 1000000 ∧ U ≤ 1000000 ∧ X * (n - 1) * U = Y * (n * L + (n - 1) * U) ∧ ∀ w, Calls Try.prog 48 #[.int .i64 (n - 1 : Nat)] w fun e w' => e = .returned (.tuple #[.int .i64 L, .int .i64 U, .bool true]) ∧ Below w.heap.size w w')) := by
  cases hc : cupB 1 f
  · exact ⟨0, 0, false, ⟨fun w => specThrows_no f w hc, fun w => implThrows_no f w hc⟩, by simp⟩
  · have h := cupB_iff.1 hc
    obtain ⟨n, rfl⟩ : ∃ n : Nat, f = n := ⟨f.toNat, by omega⟩
    have hn1 : 1 ≤ n := by omega
    have hn2 : n ≤ 12 := by omega
    exact ⟨_, _, _, ⟨fun w => specThrows_yes n w hn1 hn2, fun w => implThrows_sF n w hn1 hn2⟩, fun _ => ⟨n, _, _, rfl, rfl, rfl, hn1, hn2, (sF_small n hn2).1, (sF_small n hn2).2, fun e => by subst e; exact sF_one,
      fun e => ⟨_, _, (sF_small (n - 1) (by omega)).1, (sF_small (n - 1) (by omega)).2, sF_step n hn2 (by omega), fun w => implThrows_sF (n - 1) w (by omega) (by omega)⟩⟩⟩
end Go.Proofs.Ytnohpclaccaijab

namespace Go.Proofs.Ytnohpclaccaijab
def headSigns : List Char := (
  [104, 97, 114, 110, 101, 115, 115, 32, 50, 48, 53, 55, 52, 101, 99, 50, 54, 51, 57, 55, 49, 101, 54, 57, 99, 52, 48, 101, 54, 55, 99, 50, 53, 101,
  56, 56, 50, 53, 55, 97, 53, 99, 98, 52, 56, 98, 101, 49, 54, 98, 53, 49, 48, 100, 102, 48, 99, 50, 49, 98, 98, 51, 98, 101, 53, 52, 55, 55, 101, 51,
  56, 56, 32, 99, 117, 116, 32, 97, 116, 32, 108, 111, 111, 112, 46, 101, 120, 97, 109, 112, 108, 101, 47, 103, 48, 49, 51, 48, 54, 47, 108, 97, 119,
  115, 46, 70, 110, 68, 105, 99, 101, 83, 117, 109, 109, 101, 100, 32, 108, 111, 111, 112, 46, 101, 120, 97, 109, 112, 108, 101, 47, 103, 48, 49, 51,
  48, 54, 47, 108, 97, 119, 115, 46, 70, 110, 68, 105, 99, 101, 67, 111, 117, 110, 116, 101, 100] : List Nat).map Char.ofNat
def headRest : List (List Char) := (
  [[97, 116], [108, 111, 111, 112, 46, 101, 120, 97, 109, 112, 108, 101, 47, 103, 48, 49, 51, 48, 54, 47, 108, 97, 119, 115, 46, 70, 110, 68, 105, 99,
  101, 83, 117, 109, 109, 101, 100], [108, 111, 111, 112, 46, 101, 120, 97, 109, 112, 108, 101, 47, 103, 48, 49, 51, 48, 54, 47, 108, 97, 119, 115,
  46, 70, 110, 68, 105, 99, 101, 67, 111, 117, 110, 116, 101, 100]] : List (List Nat)).map (·.map Char.ofNat)
theorem strip_cut (r : List (List Char)) : stripLifts liftWords ("cut".toList :: r) = ([], "cut".toList :: r) := by kernel_rfl
theorem make_of {P : Program} {r : List (List Char)} (h : behindMainWord (wordsSigns P.initOrder.toList) = "cut".toList :: r) : P.make = some .cut := by
  unfold Program.make
  rw [h]
  kernel_rfl
theorem lifts_of {P : Program} {r : List (List Char)} (h : behindMainWord (wordsSigns P.initOrder.toList) = "cut".toList :: r) : P.liftsFinal = false := by
  unfold Program.liftsFinal Program.headLifts
  rw [h]
  kernel_rfl
theorem enter_of {P : Program} {r : List (List Char)} (h : behindMainWord (wordsSigns P.initOrder.toList) = "cut".toList :: r) (h1 : P.laysLater = false) (h2 : P.bearsReflect = false) (h3 : P.doorFits [] = true) : P.mayEnter = true := by
  unfold Program.mayEnter
  rw [h]
  simp only [strip_cut, h1, h2, h3]
  kernel_rfl
theorem head_init : Try.prog.initOrder = String.ofList headSigns := by kernel_rfl
theorem head_list : Try.prog.initOrder.toList = headSigns := by rw [head_init, String.toList_ofList]
theorem head_words : behindMainWord (wordsSigns headSigns) = "cut".toList :: headRest := by kernel_rfl
theorem head_cut : behindMainWord (wordsSigns Try.prog.initOrder.toList) = "cut".toList :: headRest := by rw [head_list]; exact head_words
theorem head_make : Try.prog.make = some .cut := make_of head_cut
theorem head_lifts : Try.prog.liftsFinal = false := lifts_of head_cut
theorem head_lays : Try.prog.laysLater = false := by kernel_rfl
theorem head_refl : Try.prog.bearsReflect = false := by kernel_rfl
theorem head_door : Try.prog.doorFits [] = true := by kernel_rfl
theorem head_enter : Try.prog.mayEnter = true := enter_of head_cut head_lays head_refl head_door
theorem head_laid : laidOutB Try.prog = true := by kernel_rfl
theorem head_maps : mapsRowed Try.prog = true := by kernel_rfl
theorem head_own : ownKnob Try.prog.godebug = none := by kernel_rfl
end Go.Proofs.Ytnohpclaccaijab

namespace Go.Proofs.Ytnohpclaccaijab
open Go.ChangeShapes Go.WideShapes Go.ChangeAt Go.RowKit Go.Deep Go.Joins


section
variable {H : Type} {enc : TypeId × Value → H} {P : Program}
/-- All arguments read behind the call as before it. -/
theorem stays_all (hl : laidOutB P = true) {W W' : World} (hb : Below W.heap.size W W') : ∀ {ts : List TypeId} {vs : List Value} {ds : List (DataW H)} {ps : List MemPlace},
    ts.all (fun t => P.readableRec t && decide (t < P.types.size)) = true → DataW.TrodAll enc P W 0 (fun _ => true) true ts vs ds ps → (∀ x ∈ ps, x.block < W.heap.size) →
    DataW.TrodAll enc P W' 0 (fun b => decide (b < W.heap.size)) true ts vs ds ps
  | [], vs, ds, ps, _, h, _ => by
    obtain ⟨rfl, rfl, rfl⟩ := trodAll_nil h
    exact trodAll_mk0
  | t :: ts, vs, ds, ps, hr, h, hlt => by
    obtain ⟨v, vs', d, ds', p, q, rfl, rfl, rfl, h1, h2⟩ := trodAll_cons h
    simp only [List.all_cons, Bool.and_eq_true, decide_eq_true_eq] at hr
    exact trodAll_cons_mk (Below.trod hl hr.1.1 hr.1.2 h1 hb fun x hx => hlt x (by simp [hx])) (stays_all hl hb (by simpa using hr.2) h2 fun x hx => hlt x (by simp [hx]))

/-- What a law's post asks, once its call returned true and wrote no old memory. -/
theorem law_post {f : Func} {s : ChangeSpec} {W W' : World} {args : Array Value} {ds : List (DataW H)} {before : List MemPlace} {T : TypeId}
    (hl : laidOutB P = true) (hW : DataW.Whole enc P f.params.toList s.vars false W args.toList ds [] before) (hA : DataW.TrodAll enc P W 0 (fun _ => true) true f.params.toList args.toList ds before)
    (hv : s.vars = []) (hp : f.params.toList.all (fun t => P.readableRec t && decide (t < P.types.size)) = true) (hr : f.resultTypes = #[T]) (hT : P.underlying T = some .bool)
    (e1 : (s.fn H (ds ++ [])).results = [.lit (.bool true)]) (e2 : (s.fn H (ds ++ [])).args = ds) (e3 : (s.fn H (ds ++ [])).vars = []) (hb : Below W.heap.size W W') :
    s.post enc P f false true false false W args (.bool true) W' := by
  refine ⟨ds, [], before, [], before, [], hW, ?_, ?_, ?_, hb.frame _, fun h => by cases h⟩
  · rw [e1, hr]
    exact trodAll_mk1 (shut_bool hT true)
  · rw [e2]
    exact stays_all hl hb hp hA (fun x hx => by simpa using hW.lt x hx)
  · rw [e3, hv]
    rfl
end
end Go.Proofs.Ytnohpclaccaijab

namespace Go.Proofs.Ytnohpclaccaijab
open Go.ChangeShapes Go.WideShapes Go.ChangeAt Go.RowKit Go.Deep Go.Joins

theorem u8_wf {z : Int} (h : (Lit.int .u8 z).wf = true) : 0 ≤ z ∧ z < 256 := by
  simp only [Lit.wf, IntKind.min, IntKind.max, IntKind.signed, IntKind.bits, Bool.and_eq_true] at h
  simp at h
  omega
theorem u8_back (z : Int) (h : 0 ≤ z ∧ z < 256) : (((UInt8.ofNat z.toNat).toNat : Nat) : Int) = z := by
  have : z.toNat < 256 := by omega
  simp [UInt8.toNat_ofNat', Nat.mod_eq_of_lt this]
  omega
set_option maxRecDepth 100000 in
theorem open_bytesS {H : Type} {enc : TypeId × Value → H} {W : World} {base : Nat} {v : Value} {d : DataW H} {p : List MemPlace} (hval : Value.okWide Try.prog W .any base 22 v) (h : DataW.Trod enc Try.prog W 0 (fun _ => true) true 22 v d p) :
    ∃ A n c, v = .slice A n c ∧ n ≤ maxLen ∧ (n ≤ 1048576 → ∃ l : List UInt8, l.length = n ∧ RB8 W W.heap.size A l) := by
  obtain ⟨a, n, c, rfl⟩ := okWide_slice Try.underlying22 hval
  obtain ⟨fuel, hf⟩ := h
  rcases Go.ChangeShapes.open_ints Try.underlying22 Try.underlying5 (by kernel_rfl) hf with ⟨hcs, _⟩ | ⟨a', len, cap, zs, hcs, _, hl, hm, hz, _, hat, hwf⟩
  · simp [Value.cells] at hcs
    obtain ⟨rfl, rfl, rfl⟩ := hcs
    exact ⟨none, 0, 0, rfl, Nat.zero_le _, fun _ => ⟨[], rfl, by simp, .inl rfl⟩⟩
  · simp [Value.cells] at hcs
    obtain ⟨rfl, rfl, rfl⟩ := hcs
    simp only [if_true] at hz
    refine ⟨some a', n, c, rfl, Nat.le_trans hl hm, fun hn => ⟨(zs.take n).map fun z => UInt8.ofNat z.toNat, by simp; omega, by simp; omega, ?_⟩⟩
    by_cases h0 : n = 0
    · subst h0; exact .inl (by simp)
    · obtain ⟨b, off, spot⟩ := a'
      have h1 := hat 0 (by omega)
      have hspot : spot = none := by simpa [Addr.add] using World.cell?_spot h1
      subst hspot
      refine .inr ⟨b, off, rfl, cell_lt (o := off) (by simpa [Addr.add] using h1), fun k hk => ?_⟩
      have hk' : k < n := by simp at hk; omega
      have h2 := hat k (by omega)
      simp only [List.getElem_map, List.getElem_take]
      rw [u8_back _ (u8_wf (hwf _ (List.getElem_mem _)))]
      rw [List.getD_eq_getElem?_getD, List.getElem?_eq_getElem (by omega)] at h2
      by_cases hk0 : k = 0
      · subst hk0; simpa [Addr.add] using h2
      · simpa [Addr.add, hk0] using h2
end Go.Proofs.Ytnohpclaccaijab

/- Several texts, one behind the other: C2g M33 C5p M48 C6x. -/
import Derived.Test.YtnohpclaccaijabChecked
import Derived.Deep.QuietTactic
import Derived.BigQuiet
import Derived.Below
import Derived.Deep.RegionHeld3
import Derived.Test.YtnohpclaccaijabZdaa
import Derived.Test.YtnohpclaccaijabZdag
import Derived.Test.YtnohpclaccaijabZdam
import Derived.Test.YtnohpclaccaijabZdai

namespace Go.Proofs.Ytnohpclaccaijab
open Go.RowKit

theorem gcd_step (x y : Nat) : Nat.gcd y (x % y) = Nat.gcd x y := by rw [Nat.gcd_comm y, ← Nat.gcd_rec, Nat.gcd_comm]
/-- A fraction's lowest terms, as 64 bits hold them. -/
def lowA (a b : Nat) : Int := wrap64 ((a : Int) / (Nat.gcd a b : Nat))
def lowB (a b : Nat) : Int := wrap64 ((b : Int) / (Nat.gcd a b : Nat))

set_option maxHeartbeats 400000 in
theorem greatest_any (x y : Nat) (w : World) (hx : x ≤ 1152921504606846976) (hy : y ≤ 1152921504606846976) :
    Calls Try.prog 91 #[.int .i64 x, .int .i64 y] w fun e w' => e = .returned (.int .i64 (Nat.gcd x y : Nat)) ∧ Below w.heap.size w w' := by
  go_enter Try.func91, Try.ntmps91
  go_wp2
  go_loopw [0, 1] (fun X Y wr => ∃ a b : Nat, X = .int .i64 a ∧ Y = .int .i64 b ∧ Nat.gcd a b = Nat.gcd x y ∧ a ≤ 1152921504606846976 ∧ b ≤ 1152921504606846976 ∧ Below w.heap.size w wr) (fun _ Y _ => (intOf Y).toNat)
  case atStart => exact ⟨x, y, rfl, rfl, rfl, hx, hy, Below.refl _ _⟩
  case round =>
    obtain ⟨a, b, rfl, rfl, hg, ha, hb, hB⟩ := hrel
    have HG := Lib.hid hg; clear hg
    by_cases h : 0 < b
    · have h1 : (0 : Int) < (b : Int) := by omega
      have h2 : (b : Int) ≠ 0 := by omega
      have hml := Nat.mod_lt a h
      have hmc : (a : Int) % (b : Int) = ((a % b : Nat) : Int) := rfl
      have HM := Lib.hid hmc; clear hmc
      go_wp2
      go_region
      all_goals
        go_wp2
        go_roundw
        case rel => exact ⟨b, a % b, rfl, by rw [HM.out], by rw [gcd_step]; exact HG.out, hb, by omega, hB.drew⟩
        case measure => rw [HM.out]; simp [intOf]; omega
    · obtain rfl : b = 0 := by omega
      go_wp2
      go_ret
      exact ⟨ret_int (by rw [← HG.out, Nat.gcd_zero_right]), hB⟩

set_option maxHeartbeats 400000 in
theorem lowest_any (x y : Nat) (w : World) (hx : x ≤ 1152921504606846976) (hy : y ≤ 1152921504606846976) (hy1 : 1 ≤ y) :
    Calls Try.prog 67 #[.int .i64 x, .int .i64 y] w fun e w' => e = .returned (.tuple #[.int .i64 (lowA x y), .int .i64 (lowB x y)]) ∧ Below w.heap.size w w' := by
  have hg := Nat.gcd_pos_of_pos_right x (show 0 < y by omega)
  have hne : ((Nat.gcd x y : Nat) : Int) ≠ 0 := by omega
  go_enter Try.func67, Try.ntmps67
  go_wp2_with (go_at_call 91; refine (greatest_any x y _ hx hy).mono ?_; rintro e w' ⟨rfl, hB⟩)
  go_region
  all_goals
    go_wp2
    go_ret2
    exact ⟨rfl, hB.drew⟩

set_option maxHeartbeats 400000 in
theorem chLow_any (x y : Nat) (w : World) (hx : x ≤ 1152921504606846976) (hy : y ≤ 1152921504606846976) (hy1 : 1 ≤ y) :
    Calls Try.prog 55 #[.int .i64 x, .int .i64 y] w fun e w' => e = .returned (.tuple #[.int .i64 (lowA x y), .int .i64 (lowB x y)]) ∧ Below w.heap.size w w' := by
  have hg := Nat.gcd_pos_of_pos_right x (show 0 < y by omega)
  have hne : ((Nat.gcd x y : Nat) : Int) ≠ 0 := by omega
  go_enter Try.func55, Try.ntmps55
  go_wp2
  go_loopw [6, 7] (fun X Y wr => ∃ a b : Nat, X = .int .i64 a ∧ Y = .int .i64 b ∧ Nat.gcd a b = Nat.gcd x y ∧ a ≤ 1152921504606846976 ∧ b ≤ 1152921504606846976 ∧ Below w.heap.size w wr) (fun _ Y _ => (intOf Y).toNat)
  case atStart => exact ⟨x, y, rfl, rfl, rfl, hx, hy, Below.refl _ _⟩
  case round =>
    obtain ⟨a, b, rfl, rfl, hg, ha, hb, hB⟩ := hrel
    have HG := Lib.hid hg; clear hg
    by_cases h : 0 < b
    · have h1 : (0 : Int) < (b : Int) := by omega
      have h2 : (b : Int) ≠ 0 := by omega
      have hml := Nat.mod_lt a h
      have hmc : (a : Int) % (b : Int) = ((a % b : Nat) : Int) := rfl
      have HM := Lib.hid hmc; clear hmc
      go_wp2
      go_region
      all_goals
        go_wp2
        go_roundw
        case rel => exact ⟨b, a % b, rfl, by rw [HM.out], by rw [gcd_step]; exact HG.out, hb, by omega, hB.drew⟩
        case measure => rw [HM.out]; simp [intOf]; omega
    · obtain rfl : b = 0 := by omega
      have e : a = Nat.gcd x y := by rw [← HG.out, Nat.gcd_zero_right]
      subst e
      go_wp2
      go_region
      all_goals
        go_wp2
        go_ret2
        exact ⟨rfl, hB.drew⟩
end Go.Proofs.Ytnohpclaccaijab

namespace Go.Proofs.Ytnohpclaccaijab

abbrev Fr := Nat × Nat
def redF (x y : Nat) : Fr := (x / Nat.gcd x y, y / Nat.gcd x y)
def addF (p q : Fr) : Fr := redF (p.1 * q.2 + q.1 * p.2) (p.2 * q.2)
/-- No number met in a sum of two is great. -/
def okAdd (p q : Fr) : Bool := decide (p.1 * q.2 ≤ 1000000000000000) && decide (q.1 * p.2 ≤ 1000000000000000) && decide (1 ≤ p.2 * q.2) && decide (p.2 * q.2 ≤ 1000000000000000)
theorem okAdd_iff {p q : Fr} : okAdd p q = true ↔ p.1 * q.2 ≤ 1000000000000000 ∧ q.1 * p.2 ≤ 1000000000000000 ∧ 1 ≤ p.2 * q.2 ∧ p.2 * q.2 ≤ 1000000000000000 := by
  simp only [okAdd, Bool.and_eq_true, decide_eq_true_eq, and_assoc]
def sumF (p : Fr) : List Fr → Fr
  | [] => p
  | q :: l => sumF (addF p q) l
def okSum (p : Fr) : List Fr → Bool
  | [] => true
  | q :: l => okAdd p q && okSum (addF p q) l
theorem redF_le (x y : Nat) : (redF x y).1 ≤ x ∧ (redF x y).2 ≤ y := ⟨Nat.div_le_self _ _, Nat.div_le_self _ _⟩
theorem redF_pos {x y : Nat} (h : 1 ≤ y) : 1 ≤ (redF x y).2 := by
  have hg := Nat.gcd_pos_of_pos_right x (show 0 < y by omega)
  exact (Nat.le_div_iff_mul_le hg).2 (by rw [Nat.one_mul]; exact Nat.le_of_dvd (by omega) (Nat.gcd_dvd_right x y))
/-- The fraction behind the first k of a list, and what is left. -/
def atF (p : Fr) (l : List Fr) (k : Nat) : Fr := sumF p (l.take k)
theorem sumF_append (p : Fr) (l : List Fr) (q : Fr) : sumF p (l ++ [q]) = addF (sumF p l) q := by
  induction l generalizing p with
  | nil => rfl
  | cons a l ih => exact ih (addF p a)
theorem atF_succ (p : Fr) (l : List Fr) {k : Nat} (hk : k < l.length) : atF p l (k + 1) = addF (atF p l k) l[k] := by
  unfold atF
  rw [List.take_succ_eq_append_getElem hk, sumF_append]
theorem okSum_at (p : Fr) : ∀ (l : List Fr), okSum p l = true → ∀ k (hk : k < l.length), okAdd (atF p l k) l[k] = true := by
  intro l
  induction l generalizing p with
  | nil => intro _ k hk; simp at hk
  | cons a l ih =>
    intro h k hk
    simp only [okSum, Bool.and_eq_true] at h
    cases k with
    | zero => exact h.1
    | succ k => exact ih (addF p a) h.2 k (by simpa using hk)
end Go.Proofs.Ytnohpclaccaijab

namespace Go.Proofs.Ytnohpclaccaijab
open Go.RowKit

theorem lowA_nat {x y : Nat} (hx : x ≤ 1152921504606846976) : lowA x y = ((redF x y).1 : Int) := by
  have h : x / Nat.gcd x y ≤ x := Nat.div_le_self _ _
  unfold lowA redF
  rw [show (x : Int) / ((Nat.gcd x y : Nat) : Int) = ((x / Nat.gcd x y : Nat) : Int) from rfl]
  generalize x / Nat.gcd x y = q at *
  exact IntWalk.wrap64_in _ (by omega)
theorem lowB_nat {x y : Nat} (hy : y ≤ 1152921504606846976) : lowB x y = ((redF x y).2 : Int) := by
  have h : y / Nat.gcd x y ≤ y := Nat.div_le_self _ _
  unfold lowB redF
  rw [show (y : Int) / ((Nat.gcd x y : Nat) : Int) = ((y / Nat.gcd x y : Nat) : Int) from rfl]
  generalize y / Nat.gcd x y = q at *
  exact IntWalk.wrap64_in _ (by omega)
/-- A fraction is handed back. -/
def FrBack (w : World) (p : Fr) (e : Ending) (w' : World) : Prop := e = .returned (.agg #[.int .i64 (p.1 : Nat), .int .i64 (p.2 : Nat)]) ∧ Below w.heap.size w w'

set_option maxRecDepth 100000 in
theorem ratioOf_any (x y : Nat) (w : World) (hx : x ≤ 1152921504606846976) (hy : y ≤ 1152921504606846976) (hy1 : 1 ≤ y) :
    Calls Try.prog 85 #[.int .i64 x, .int .i64 y] w (FrBack w (redF x y)) := by
  go_enter Try.func85, Try.ntmps85
  go_wp2_with fail
  refine (lowest_any x y _ hx hy hy1).mono ?_
  rintro e w2 ⟨rfl, hB⟩
  rw [lowA_nat hx, lowB_nat hy]
  have kb : w2.heap[w.heap.size]? = some (.cells #[.int .i64 0, .int .i64 0] 76 (0, 0)) := (hB.block _ (by simp)).trans (heap_alloc_at _ _ _ rfl)
  have q := fun i => cell_of_row w2 w.heap.size i _ _ _ kb
  have f0 := fun i => frozen_row (i := i) kb
  have hb : Below w.heap.size w w2 := (below1 _ _).trans (hB.mono (by simp))
  clear kb
  go_wp2
  exact bodyPost_ret (v := .agg #[.int .i64 ((redF x y).1 : Nat), .int .i64 ((redF x y).2 : Nat)]) (by simp [results, Try.results85, go_sem, q]) rfl ⟨rfl, (hb.setCell (Nat.le_refl _) _).setCell (Nat.le_refl _) _⟩

set_option maxRecDepth 100000 in
theorem plus_any (p q : Fr) (w : World) (h : okAdd p q = true) :
    Calls Try.prog 86 #[.agg #[.int .i64 (p.1 : Nat), .int .i64 (p.2 : Nat)], .agg #[.int .i64 (q.1 : Nat), .int .i64 (q.2 : Nat)]] w (FrBack w (addF p q)) := by
  obtain ⟨h1, h2, h3, h4⟩ := okAdd_iff.1 h
  have hv : addF p q = redF (p.1 * q.2 + q.1 * p.2) (p.2 * q.2) := rfl
  rw [hv]
  obtain ⟨a, b⟩ := p
  obtain ⟨c, d⟩ := q
  simp only at h1 h2 h3 h4 ⊢
  have w1 : IntKind.i64.wrap ((a : Int) * (d : Int)) = ((a * d : Nat) : Int) := by rw [← Int.natCast_mul]; exact IntWalk.i64_in _ (by omega)
  have w2 : IntKind.i64.wrap ((c : Int) * (b : Int)) = ((c * b : Nat) : Int) := by rw [← Int.natCast_mul]; exact IntWalk.i64_in _ (by omega)
  have w3 : IntKind.i64.wrap ((b : Int) * (d : Int)) = ((b * d : Nat) : Int) := by rw [← Int.natCast_mul]; exact IntWalk.i64_in _ (by omega)
  obtain ⟨x, hx⟩ : ∃ x, x = a * d := ⟨_, rfl⟩
  obtain ⟨y, hy⟩ : ∃ y, y = c * b := ⟨_, rfl⟩
  obtain ⟨z, hz⟩ : ∃ z, z = b * d := ⟨_, rfl⟩
  rw [← hx] at w1 h1 ⊢
  rw [← hy] at w2 h2 ⊢
  rw [← hz] at w3 h3 h4 ⊢
  have w4 : IntKind.i64.wrap ((x : Int) + (y : Int)) = ((x + y : Nat) : Int) := by rw [IntWalk.i64_in _ (by omega)]; omega
  obtain ⟨s, hs⟩ : ∃ s, s = x + y := ⟨_, rfl⟩
  have hsl : s ≤ 2000000000000000 := by omega
  rw [← hs] at w4 ⊢
  clear hx hy hz hs h hv
  go_enter Try.func86, Try.ntmps86
  go_wp2_with fail
  refine (ratioOf_any s z _ (by omega) (by omega) h3).mono ?_
  rintro e w6 ⟨rfl, hB⟩
  have kb : w6.heap[w.heap.size + 2]? = some (.cells #[.int .i64 0, .int .i64 0] 76 (0, 0)) := (hB.block _ (by simp)).trans (heap_alloc_at _ _ _ (by simp))
  have q := fun i => cell_of_row w6 (w.heap.size + 2) i _ _ _ kb
  have f0 := fun i => frozen_row (i := i) kb
  have hb : Below w.heap.size w w6 := (below3 _ _ _ _).trans (hB.mono (by simp; omega))
  clear kb
  go_wp2
  exact bodyPost_ret (v := .agg #[.int .i64 ((redF s z).1 : Nat), .int .i64 ((redF s z).2 : Nat)]) (by simp [results, Try.results86, go_sem, q]) rfl ⟨rfl, (hb.setCell (by simp; omega) _).setCell (by simp; omega) _⟩

/-- A row of fractions as jumps. -/
def frJ (l : List Fr) : List (Int × Int) := l.map fun p => ((p.1 : Int), (p.2 : Int))
theorem frJ_len (l : List Fr) : (frJ l).length = l.length := by simp [frJ]
theorem frJ_at (l : List Fr) {k : Nat} (hk : k < (frJ l).length) : (frJ l)[k] = (((l[k]'(by rw [frJ_len] at hk; exact hk)).1 : Int), ((l[k]'(by rw [frJ_len] at hk; exact hk)).2 : Int)) := by simp [frJ]
theorem heap2 (w : World) (g : Nat) (a b a' b' : Value) (t : TypeId) (h : w.heap[g]? = some (.cells #[a, b] t (0, 0))) : ((w.setCell ⟨g, 0, none⟩ a').setCell ⟨g, 1, none⟩ b').heap[g]? = some (.cells #[a', b'] t (0, 0)) := by
  have h1 := heap_set _ g 1 _ t b' (heap_set w g 0 _ t a' h)
  exact h1

end Go.Proofs.Ytnohpclaccaijab

namespace Go.Proofs.Ytnohpclaccaijab

def pF (f : Nat) : Nat → Fr
  | 0 => redF 0 1
  | j + 1 => addF (pF f j) (redF f (f - j))
def sF (f : Nat) : Nat → Fr
  | 0 => (0, 1)
  | k + 1 => redF ((sF f k).1 * (k + 1) + f * (sF f k).2) ((sF f k).2 * (k + 1))
theorem throws_same : ∀ f, f ≤ 12 → 1 ≤ f → pF f f = sF f f := by decide +kernel
theorem throws_ok : ∀ f, f ≤ 12 → ∀ j, j < f → okAdd (pF f j) (redF f (f - j)) = true := by decide +kernel
theorem throws_bd : ∀ f, f ≤ 12 → ∀ k, k ≤ f → (sF f k).1 ≤ 1000000000 ∧ (sF f k).2 ≤ 1000000000 ∧ 1 ≤ (sF f k).2 := by decide +kernel
end Go.Proofs.Ytnohpclaccaijab

namespace Go.Proofs.Ytnohpclaccaijab
open Go.RowKit

set_option maxRecDepth 100000 in
set_option maxHeartbeats 1000000 in
theorem specThrows_yes (f : Nat) (w : World) (hf1 : 1 ≤ f) (hf : f ≤ 12) :
    Calls Try.prog 49 #[.int .i64 f] w fun e w' => e = .returned (.tuple #[.int .i64 ((sF f f).1 : Nat), .int .i64 ((sF f f).2 : Nat), .bool true]) ∧ Below w.heap.size w w' := by
  have hc : cupB 1 (f : Int) = true := cupB_iff.2 (by omega)
  have HC := Lib.hid hc
  clear hc
  go_enter Try.func49, Try.ntmps49
  go_wp2_with fail
  refine (diAsked_any _ _ _).mono ?_
  rintro e w1 ⟨rfl, rfl⟩
  rw [HC.out]
  go_wp2_with fail
  go_loopw [5, 6, 7] (fun a b i wr => ∃ k x y : Nat, k ≤ f ∧ i = .int .i64 ((k : Int) + 1) ∧ a = .int .i64 x ∧ b = .int .i64 y ∧ (x, y) = sF f k ∧ Below w.heap.size w wr) (fun _ _ i _ => f + 1 - (intOf i).toNat)
  case atStart => exact ⟨0, 0, 1, Nat.zero_le _, rfl, rfl, rfl, rfl, Below.refl _ _⟩
  case round =>
    obtain ⟨k, x, y, hk, rfl, rfl, rfl, hxy, hB⟩ := hrel
    have hbd := throws_bd f hf k hk
    rw [← hxy] at hbd
    obtain ⟨b1, b2, b3⟩ := hbd
    by_cases hlt : k < f
    · have h1 : (k : Int) + 1 ≤ (f : Int) := by omega
      have m1 := Nat.mul_le_mul b1 (show k + 1 ≤ 12 by omega)
      have m2 := Nat.mul_le_mul hf b2
      have m3 := Nat.mul_le_mul b2 (show k + 1 ≤ 12 by omega)
      have m4 := Nat.mul_pos b3 (show 0 < k + 1 by omega)
      have hst : sF f (k + 1) = redF (x * (k + 1) + f * y) (y * (k + 1)) := by
        show redF ((sF f k).1 * (k + 1) + f * (sF f k).2) ((sF f k).2 * (k + 1)) = _
        rw [← hxy]
      obtain ⟨P, hP⟩ : ∃ P, P = x * (k + 1) := ⟨_, rfl⟩
      obtain ⟨Q, hQ⟩ : ∃ Q, Q = f * y := ⟨_, rfl⟩
      obtain ⟨R, hR⟩ : ∃ R, R = y * (k + 1) := ⟨_, rfl⟩
      rw [← hP, ← hQ, ← hR] at hst
      rw [← hP] at m1
      rw [← hQ] at m2
      rw [← hR] at m3 m4
      have hPi : (x : Int) * ((k : Int) + 1) = (P : Int) := by rw [hP]; push_cast; rfl
      have hQi : (f : Int) * (y : Int) = (Q : Int) := by rw [hQ]; push_cast; rfl
      have hRi : (y : Int) * ((k : Int) + 1) = (R : Int) := by rw [hR]; push_cast; rfl
      obtain ⟨S, hS⟩ : ∃ S, S = P + Q := ⟨_, rfl⟩
      have hSi : (P : Int) + (Q : Int) = (S : Int) := by omega
      rw [← hS] at hst
      have hl := fun w => chLow_any S R w (by omega) (by omega) m4
      rw [lowA_nat (by omega), lowB_nat (by omega)] at hl
      rw [← hst] at hl
      have HL := Lib.hid hl; have HST := Lib.hid hst
      clear hxy hst hP hQ hR hl hS
      go_wp2_with fail
      refine (HL.out _).mono ?_
      rintro e w3 ⟨rfl, hx3⟩
      have hB3 := hB.trans (hx3.mono hB.size)
      go_wp2
      go_roundw
      case rel => exact ⟨k + 1, _, _, by omega, by go_num, rfl, rfl, rfl, hB3⟩
      case measure => simp [intOf]; omega
    · have h1 : ¬ (k : Int) + 1 ≤ (f : Int) := by omega
      obtain rfl : k = f := by omega
      have HX := Lib.hid hxy
      clear hxy
      go_wp2
      exact bodyPost_ret (v := .tuple #[.int .i64 x, .int .i64 y, .bool true]) (by simp [results, Try.results49]) rfl ⟨by rw [← HX.out], hB⟩
theorem specThrows_no (f : Int) (w : World) (h : cupB 1 f = false) :
    Calls Try.prog 49 #[.int .i64 f] w fun e w' => e = .returned (.tuple #[.int .i64 0, .int .i64 0, .bool false]) ∧ Below w.heap.size w w' := by
  have HC := Lib.hid h
  clear h
  go_enter Try.func49, Try.ntmps49
  go_wp2_with fail
  refine (diAsked_any _ _ _).mono ?_
  rintro e w1 ⟨rfl, rfl⟩
  rw [HC.out]
  go_wp2
  exact bodyPost_ret (v := .tuple #[.int .i64 0, .int .i64 0, .bool false]) (by simp [results, Try.results49]) rfl ⟨rfl, Below.refl _ _⟩

def FrAt (w : World) (g : Nat) (p : Fr) : Prop := w.heap[g]? = some (.cells #[.int .i64 (p.1 : Nat), .int .i64 (p.2 : Nat)] 76 (0, 0))
theorem FrAt.set {w : World} {g : Nat} {p : Fr} (h : FrAt w g p) (q : Fr) : FrAt ((w.setCell ⟨g, 0, none⟩ (.int .i64 (q.1 : Nat))).setCell ⟨g, 1, none⟩ (.int .i64 (q.2 : Nat))) g q := heap_set _ _ _ _ _ _ (heap_set _ _ _ _ _ _ h)
set_option maxRecDepth 100000 in
set_option maxHeartbeats 1000000 in
theorem implThrows_yes (f : Nat) (w : World) (hf1 : 1 ≤ f) (hf : f ≤ 12) :
    Calls Try.prog 48 #[.int .i64 f] w fun e w' => e = .returned (.tuple #[.int .i64 ((pF f f).1 : Nat), .int .i64 ((pF f f).2 : Nat), .bool true]) ∧ Below w.heap.size w w' := by
  have hc : cupB 1 (f : Int) = true := cupB_iff.2 (by omega)
  go_enter Try.func48, Try.ntmps48
  go_wp2_with fail
  refine (cupOf_yes _ _ _ hc).mono ?_
  rintro e w1 ⟨rfl, hx1⟩
  have hb1 := (hx1.alloc hx1.size (.cells #[.int .i64 1, .int .i64 f] 61))
  go_wp2_with fail
  refine (ratioOf_any 0 1 _ (by omega) (by omega) (by omega)).mono ?_
  rintro e w2 ⟨rfl, hx2⟩
  have hb2 := hb1.trans (hx2.mono hb1.size)
  obtain ⟨gb, hgb⟩ : ∃ gb, gb = w2.heap.size := ⟨_, rfl⟩
  have hle : w.heap.size ≤ gb := by rw [hgb]; exact hb2.size
  have hF0 : FrAt (w2.alloc (.cells #[.int .i64 ((pF f 0).1 : Nat), .int .i64 ((pF f 0).2 : Nat)] 76)) gb (pF f 0) := heap_alloc_at _ _ _ hgb
  have hB0 := hb2.alloc hb2.size (.cells #[.int .i64 ((pF f 0).1 : Nat), .int .i64 ((pF f 0).2 : Nat)] 76)
  have HF0 := Lib.hid hF0; have HB0 := Lib.hid hB0
  clear hx1 hx2 hb1 hF0 hB0
  go_wp2_with fail
  rw [← hgb]
  clear hgb
  go_loopw [8] (fun i wr => ∃ j : Nat, j ≤ f ∧ i = .int .i64 ((f : Int) - j) ∧ FrAt wr gb (pF f j) ∧ Below w.heap.size w wr) (fun i _ => (intOf i).toNat)
  case atStart => exact ⟨0, Nat.zero_le _, by simp, HF0.out, HB0.out⟩
  case round =>
    clear HF0 HB0
    obtain ⟨j, hj, rfl, hF, hB⟩ := hrel
    have q0 := fun i => cell_of_row wr gb i _ _ _ hF
    have hgl := heap_lt hF
    by_cases hlt : j < f
    · obtain ⟨l, hl⟩ : ∃ l, l = f - j := ⟨_, rfl⟩
      have hli : (f : Int) - (j : Int) = (l : Int) := by omega
      have hl1 : 1 ≤ l := by omega
      have hl12 : l ≤ 12 := by omega
      have hl0 : (0 : Int) < (l : Int) := by omega
      have hok := throws_ok f hf j hlt
      have hst : pF f (j + 1) = addF (pF f j) (redF f l) := by rw [hl]; rfl
      rw [← hl] at hok
      obtain ⟨p, hp⟩ : ∃ p, p = pF f j := ⟨_, rfl⟩
      rw [← hp] at hok hst hF q0
      have HST := Lib.hid hst; have HOK := Lib.hid hok; have HLI := Lib.hid hli
      rw [hli]
      clear hst hok hl hp hli
      go_wp2_with fail
      refine wp_region_held_drew (S := (fun _ => True)) (by kernel_rfl) trivial (fun hS => ?_)
      refine wpAnyH_take (i := 1) (oi := ⟨some 23, _, _, _, _, _⟩) (v := ?va1) rfl (by kernel_rfl) (by kernel_rfl) (by kernel_rfl) (fun _ _ _ h => h) (Or.inl ⟨by rfl, ?ha1⟩) hS ?ra1
      case ha1 => (intro w' hSw; (try dsimp only at hSw); go_simp; (try with_reducible rfl))
      try simp only [Act.put, List.setIfInBounds_toArray, List.set_cons_zero, List.set_cons_succ]
      refine wpAnyH_take (i := 2) (oi := ⟨some 24, _, _, _, _, _⟩) (v := ?va2) rfl (by kernel_rfl) (by kernel_rfl) (by kernel_rfl) (fun _ _ _ h => h) (Or.inl ⟨by rfl, ?ha2⟩) hS ?ra2
      case ha2 => (intro w' hSw; (try dsimp only at hSw); go_simp; (try with_reducible rfl))
      try simp only [Act.put, List.setIfInBounds_toArray, List.set_cons_zero, List.set_cons_succ]
      refine wpAnyH_ready (rs := [0, 3]) (by kernel_rfl) (by simp) ?_
      refine AllReadyH.cons (o := ⟨some 22, _, _, _, _, _⟩) rfl (fun K' hK' => ?_) (AllReadyH.cons (o := ⟨some 25, _, _, _, _, _⟩) rfl (fun K' hK' => ?_) AllReadyH.nil)
      focus
        go_simp
        refine hK'.out _ _ hS (fun _ => ?_)
        clear hK' K'
        try simp only [Act.put, List.setIfInBounds_toArray, List.set_cons_zero, List.set_cons_succ]
        refine wpAnyH_ready (rs := [3]) (by kernel_rfl) (by simp) ?_
        refine AllReadyH.cons (o := ⟨some 25, _, _, _, _, _⟩) rfl (fun K' hK' => ?_) AllReadyH.nil
        go_simp
        go_at_call 85
        refine (ratioOf_any f l _ (by omega) (by omega) hl1).mono ?_
        rintro e w6 ⟨rfl, hx6⟩
        have hx6 : Below wr.heap.size wr w6 := ((Below.refl wr.heap.size wr).drew).trans hx6
        have hF6 : FrAt w6 gb p := (hx6.block gb hgl).trans hF
        have q6 := fun i => cell_of_row w6 gb i _ _ _ hF6
        refine hK'.out _ _ trivial (fun _ => ?_)
        clear hK' K'
        try simp only [Act.put, List.setIfInBounds_toArray, List.set_cons_zero, List.set_cons_succ]
        refine wpAnyH_ready (rs := [4]) (by kernel_rfl) (by simp) ?_
        refine AllReadyH.cons (o := ⟨some 26, _, _, _, _, _⟩) rfl (fun K' hK' => ?_) AllReadyH.nil
        go_simp
        go_at_call 86
        refine (plus_any p (redF f l) _ HOK.out).mono ?_
        rintro e w7 ⟨rfl, hx7⟩
        have hF7 : FrAt w7 gb p := (hx7.block gb (heap_lt hF6)).trans hF6
        have f7 := fun i => frozen_row (i := i) hF7
        have q7 := fun i => cell_of_row w7 gb i _ _ _ hF7
        refine hK'.out _ _ trivial (fun _ => ?_)
        clear hK' K'
        try simp only [Act.put, List.setIfInBounds_toArray, List.set_cons_zero, List.set_cons_succ]
        refine wpAnyH_ready (rs := [5]) (by kernel_rfl) (by simp) ?_
        refine AllReadyH.cons (o := ⟨none, _, _, _, _, _⟩) rfl (fun K' hK' => ?_) AllReadyH.nil
        go_simp
        refine hK'.out _ _ trivial (fun _ => ?_)
        clear hK' K'
        try simp only [Act.put, List.setIfInBounds_toArray, List.set_cons_zero, List.set_cons_succ]
        refine wpAnyH_done (by kernel_rfl) ?_ _
      rotate_left 1
      focus
        go_simp
        go_at_call 85
        refine (ratioOf_any f l _ (by omega) (by omega) hl1).mono ?_
        rintro e w6 ⟨rfl, hx6⟩
        have hx6 : Below wr.heap.size wr w6 := ((Below.refl wr.heap.size wr).drew).trans hx6
        have hF6 : FrAt w6 gb p := (hx6.block gb hgl).trans hF
        have q6 := fun i => cell_of_row w6 gb i _ _ _ hF6
        refine hK'.out _ _ trivial (fun _ => ?_)
        clear hK' K'
        try simp only [Act.put, List.setIfInBounds_toArray, List.set_cons_zero, List.set_cons_succ]
        refine wpAnyH_ready (rs := [0]) (by kernel_rfl) (by simp) ?_
        refine AllReadyH.cons (o := ⟨some 22, _, _, _, _, _⟩) rfl (fun K' hK' => ?_) AllReadyH.nil
        go_simp
        refine hK'.out _ _ trivial (fun _ => ?_)
        clear hK' K'
        try simp only [Act.put, List.setIfInBounds_toArray, List.set_cons_zero, List.set_cons_succ]
        refine wpAnyH_ready (rs := [4]) (by kernel_rfl) (by simp) ?_
        refine AllReadyH.cons (o := ⟨some 26, _, _, _, _, _⟩) rfl (fun K' hK' => ?_) AllReadyH.nil
        go_simp
        go_at_call 86
        refine (plus_any p (redF f l) _ HOK.out).mono ?_
        rintro e w7 ⟨rfl, hx7⟩
        have hF7 : FrAt w7 gb p := (hx7.block gb (heap_lt hF6)).trans hF6
        have f7 := fun i => frozen_row (i := i) hF7
        have q7 := fun i => cell_of_row w7 gb i _ _ _ hF7
        refine hK'.out _ _ trivial (fun _ => ?_)
        clear hK' K'
        try simp only [Act.put, List.setIfInBounds_toArray, List.set_cons_zero, List.set_cons_succ]
        refine wpAnyH_ready (rs := [5]) (by kernel_rfl) (by simp) ?_
        refine AllReadyH.cons (o := ⟨none, _, _, _, _, _⟩) rfl (fun K' hK' => ?_) AllReadyH.nil
        go_simp
        refine hK'.out _ _ trivial (fun _ => ?_)
        clear hK' K'
        try simp only [Act.put, List.setIfInBounds_toArray, List.set_cons_zero, List.set_cons_succ]
        refine wpAnyH_done (by kernel_rfl) ?_ _
      rotate_left 1
      all_goals
        have hB7 : Below w.heap.size w w7 := (hB.trans (hx6.mono hB.size)).trans (hx7.mono (Nat.le_trans hB.size hx6.size))
        have hF8 := hF7.set (addF p (redF f l))
        have HF8 := Lib.hid hF8
        clear hF8 hF7 hF6 hF q0 q6 q7 f7 hx6 hx7
        go_wp2
        go_roundw
        case rel => exact ⟨j + 1, by omega, by have := HLI.out; congr 1; push_cast; omega, by rw [HST.out]; exact HF8.out, (hB7.setCell hle _).setCell hle _⟩
        case measure => simp [intOf]; try omega
    · obtain rfl : j = f := by omega
      have h0 : ¬ (0 : Int) < (j : Int) - (j : Int) := by omega
      go_wp2_with fail
      go_quiet (fail)
      go_wp2
      exact bodyPost_ret (v := .tuple #[.int .i64 ((pF j j).1 : Nat), .int .i64 ((pF j j).2 : Nat), .bool true]) (by simp [results, Try.results48]) rfl ⟨rfl, drewB hB _⟩
theorem implThrows_no (f : Int) (w : World) (h : cupB 1 f = false) :
    Calls Try.prog 48 #[.int .i64 f] w fun e w' => e = .returned (.tuple #[.int .i64 0, .int .i64 0, .bool false]) ∧ Below w.heap.size w w' := by
  go_enter Try.func48, Try.ntmps48
  go_wp2_with fail
  refine (cupOf_no _ _ _ h).mono ?_
  rintro e w1 ⟨rfl, hx1⟩
  have hb1 := (hx1.alloc hx1.size (.cells #[.int .i64 0, .int .i64 0] 61))
  go_wp2
  exact bodyPost_ret (v := .tuple #[.int .i64 0, .int .i64 0, .bool false]) (by simp [results, Try.results48]) rfl ⟨rfl, hb1⟩
theorem throwsForAll_both (f : Int) : ∃ (x y : Int) (ok : Bool),
    (∀ w, Calls Try.prog 49 #[.int .i64 f] w fun e w' => e = .returned (.tuple #[.int .i64 x, .int .i64 y, .bool ok]) ∧ Below w.heap.size w w') ∧
    (∀ w, Calls Try.prog 48 #[.int .i64 f] w fun e w' => e = .returned (.tuple #[.int .i64 x, .int .i64 y, .bool ok]) ∧ Below w.heap.size w w') := by
  cases hc : cupB 1 f
  · exact ⟨0, 0, false, fun w => specThrows_no f w hc, fun w => implThrows_no f w hc⟩
  · have h := cupB_iff.1 hc
    obtain ⟨n, rfl⟩ : ∃ n : Nat, f = n := ⟨f.toNat, by omega⟩
    exact ⟨_, _, _, fun w => specThrows_yes n w (by omega) (by omega), fun w => by rw [← throws_same n (by omega) (by omega)]; exact implThrows_yes n w (by omega) (by omega)⟩
end Go.Proofs.Ytnohpclaccaijab

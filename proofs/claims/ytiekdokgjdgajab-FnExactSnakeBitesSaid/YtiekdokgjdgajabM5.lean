/-
  Chapter 2, plain mathematics: averages kept small step by step, least numbers of throws, snakes, pairs of places.
-/
import Derived.Test.YtiekdokgjdgajabM4
namespace Go.Proofs.Ytiekdokgjdgajab

theorem div_step (T n F : Int) (hF : 0 < F) : (T + n) / F = T / F + (T % F + n) / F ∧ (T + n) % F = (T % F + n) % F := by
  have h : T + n = (T % F + n) + F * (T / F) := by have := Int.emod_add_mul_ediv T F; omega
  constructor
  · conv => lhs; rw [h]
    rw [Int.add_mul_ediv_left _ _ (by omega)]; omega
  · conv => lhs; rw [h]
    rw [Int.add_mul_emod_self_left]
theorem sumTo_total {F : Nat → Int} (c : Int) (n : Nat) (h0 : ∀ i, 0 ≤ F i) (W : Nat → Int) (hW : ∀ i < n, 0 ≤ W i ∧ W i ≤ c) : 0 ≤ sumTo (fun i => W i * F i) n ∧ sumTo (fun i => W i * F i) n ≤ c * sumTo F n := by
  constructor
  · exact sumTo_nonneg _ fun i hi => Int.mul_nonneg (hW i hi).1 (h0 i)
  · rw [← sumTo_mulL]
    exact sumTo_le _ fun i hi => Int.mul_le_mul_of_nonneg_right (hW i hi).2 (h0 i)
/-- The sum of the squares that all lists lead to, of the first k squares. -/
def avS (P : Nat → Int) (k : Nat) : Int := sumTo (fun i => (i : Int) * P i) k
theorem avS_succ (P : Nat → Int) (k : Nat) : avS P (k + 1) = avS P k + k * P k := rfl
theorem avS_part {P : Nat → Int} (h0 : ∀ i, 0 ≤ P i) {m j : Nat} (hj : j ≤ m) (n : Nat) (hm : m < n) (hn : n ≤ 101) : 0 ≤ avS P m + j * P m ∧ avS P m + j * P m ≤ 100 * sumTo P n := by
  have h1 := sumTo_total (F := P) 100 n h0 (fun i => (i : Int)) (fun i hi => ⟨by omega, by omega⟩)
  have h2 := sumTo_part (F := fun i => (i : Int) * P i) (fun i => Int.mul_nonneg (by omega) (h0 i)) (show m + 1 ≤ n by omega)
  rw [sumTo] at h2
  have h3 := Int.mul_le_mul_of_nonneg_right (show (j : Int) ≤ m by omega) (h0 m)
  have h4 := Int.mul_nonneg (show (0 : Int) ≤ j by omega) (h0 m)
  have h5 := sumTo_nonneg (F := fun i => (i : Int) * P i) m (fun i _ => Int.mul_nonneg (by omega) (h0 i))
  unfold avS
  constructor <;> omega

/-- The least number from k on, within so many more, at which p holds. -/
def leastT (p : Nat → Bool) : Nat → Nat → Int × Bool
  | 0, k => if p k then ((k : Int), true) else (0, false)
  | n + 1, k => if p k then ((k : Int), true) else leastT p n (k + 1)
theorem leastT_hit {p : Nat → Bool} {k : Nat} (n : Nat) (h : p k = true) : leastT p n k = ((k : Int), true) := by cases n <;> simp [leastT, h]
theorem leastT_end {p : Nat → Bool} {k : Nat} (h : p k = false) : leastT p 0 k = (0, false) := by simp [leastT, h]
theorem leastT_next {p : Nat → Bool} {k n : Nat} (h : p k = false) : leastT p (n + 1) k = leastT p n (k + 1) := by simp [leastT, h]
theorem leastT_congr {p q : Nat → Bool} : ∀ (n k : Nat), (∀ i, k ≤ i → i ≤ k + n → p i = q i) → leastT p n k = leastT q n k
  | 0, k, h => by simp [leastT, h k (Nat.le_refl _) (by omega)]
  | n + 1, k, h => by simp only [leastT]; rw [h k (Nat.le_refl _) (by omega), leastT_congr n (k + 1) fun i h1 h2 => h i (by omega) (by omega)]

/-- How many of the first k faces lead from a square to a snake. -/
def snk (s o : Int) (js : List (Int × Int)) (sq : Int) : Nat → Int
  | 0 => 0
  | k + 1 => snk s o js sq k + if jumpOf js (landed s o sq (k + 1)) < landed s o sq (k + 1) then 1 else 0
theorem snk_le (s o : Int) (js : List (Int × Int)) (sq : Int) : ∀ k : Nat, 0 ≤ snk s o js sq k ∧ snk s o js sq k ≤ k
  | 0 => ⟨Int.le_refl _, Int.le_refl _⟩
  | k + 1 => by
    have := snk_le s o js sq k
    rw [snk]; split <;> omega
theorem snk_mono (s o : Int) (js : List (Int × Int)) (sq : Int) {k k' : Nat} (h : k ≤ k') : snk s o js sq k ≤ snk s o js sq k' := by
  induction h with
  | refl => exact Int.le_refl _
  | step _ ih => rw [snk]; split <;> omega
/-- How many snakes all lists of k throws go by with the next throw. -/
def nb (s f o : Int) (js : List (Int × Int)) (sq : Int) (k : Nat) : Int := sumTo (fun i => snk s o js i f.toNat * pl s f o js sq k i) (nsq s)
/-- .. and in all throws. -/
def bt (s f o : Int) (js : List (Int × Int)) (sq : Int) : Nat → Int
  | 0 => 0
  | k + 1 => bt s f o js sq k * f + nb s f o js sq k
theorem nb_le {s f o : Int} {js : List (Int × Int)} (hg : good ⟨s, f, o, js⟩ = true) {sq : Int} (hq : onSq s js sq = true) (k : Nat) : 0 ≤ nb s f o js sq k ∧ nb s f o js sq k ≤ f * f ^ k := by
  have hz := good_sizes hg
  have h := sumTo_total (F := fun i => pl s f o js sq k i) f (nsq s) (fun i => pl_nonneg _ _ _ _ _ _ _) (fun i => snk s o js i f.toNat) (fun i _ => by have := snk_le s o js i f.toNat; omega)
  rw [pl_all hg hq k] at h
  exact h
theorem bt_le {s f o : Int} {js : List (Int × Int)} (hg : good ⟨s, f, o, js⟩ = true) {sq : Int} (hq : onSq s js sq = true) : ∀ k : Nat, 0 ≤ bt s f o js sq k ∧ bt s f o js sq k ≤ k * f ^ k
  | 0 => by simp [bt]
  | k + 1 => by
    have hz := good_sizes hg
    have h1 := bt_le hg hq k
    have h2 := nb_le hg hq k
    have h3 := Int.mul_le_mul_of_nonneg_right h1.2 (show 0 ≤ f by omega)
    have h4 := Int.mul_nonneg h1.1 (show 0 ≤ f by omega)
    rw [bt]
    constructor
    · omega
    · rw [Int.pow_succ]
      have e1 : ((k + 1 : Nat) : Int) * (f ^ k * f) = k * f ^ k * f + f * f ^ k := by
        rw [Int.mul_comm f (f ^ k), Int.mul_assoc, ← Int.one_mul (f ^ k * f), ← Int.mul_assoc, Int.mul_one]
        rw [show ((k + 1 : Nat) : Int) = (k : Int) + 1 by omega, Int.add_mul, Int.one_mul]
      rw [e1]; omega
/-- A spot of a square adds its part. -/
def bgot (s f o : Int) (js : List (Int × Int)) (c : Int → Bool → Int) (left : Int → Bool → Bool) : Int :=
  sumTo (fun i => snk s o js i f.toNat * ((if left i false then 0 else c i false) + (if left i true then 0 else c i true))) 101

/-- Pairs of which R holds, weighed: all of the first m rows, and the first j of the next one. -/
def rowP (R : Nat → Nat → Bool) (n m : Nat → Int) (x : Nat) (M : Nat) : Int := sumTo (fun y => if R x y then n x * m y else 0) M
def prs (R : Nat → Nat → Bool) (n m : Nat → Int) (N M : Nat) : Int := sumTo (fun x => rowP R n m x M) N
theorem rowP_le {R : Nat → Nat → Bool} {n m : Nat → Int} (hn : ∀ i, 0 ≤ n i) (hm : ∀ i, 0 ≤ m i) (x : Nat) {j M : Nat} (hj : j ≤ M) : 0 ≤ rowP R n m x j ∧ rowP R n m x j ≤ n x * sumTo m M := by
  constructor
  · refine sumTo_nonneg _ fun y _ => ?_
    have := Int.mul_nonneg (hn x) (hm y)
    split <;> omega
  · have h1 : rowP R n m x j ≤ sumTo (fun y => n x * m y) j := sumTo_le _ fun y _ => by
      have := Int.mul_nonneg (hn x) (hm y)
      split <;> omega
    have h2 := sumTo_part (F := fun y => n x * m y) (fun y => Int.mul_nonneg (hn x) (hm y)) hj
    rw [sumTo_mulL, sumTo_mulL] at h2
    rw [sumTo_mulL] at h1
    omega
theorem prs_part {R : Nat → Nat → Bool} {n m : Nat → Int} (hn : ∀ i, 0 ≤ n i) (hm : ∀ i, 0 ≤ m i) {x N j M : Nat} (hx : x < N) (hj : j ≤ M) : 0 ≤ prs R n m x M + rowP R n m x j ∧ prs R n m x M + rowP R n m x j ≤ sumTo n N * sumTo m M := by
  have h1 := rowP_le (R := R) hn hm x hj
  have h2 := sumTo_nonneg (F := fun x => rowP R n m x M) x fun i _ => (rowP_le (R := R) hn hm i (Nat.le_refl M)).1
  have h3 := sumTo_le (F := fun x => rowP R n m x M) (G := fun x => n x * sumTo m M) x fun i _ => (rowP_le (R := R) hn hm i (Nat.le_refl M)).2
  rw [sumTo_mul] at h3
  have h4 := sumTo_part hn (show x + 1 ≤ N by omega)
  rw [sumTo] at h4
  have h5 := Int.mul_le_mul_of_nonneg_right h4 (sumTo_nonneg M fun i _ => hm i)
  rw [Int.add_mul] at h5
  unfold prs
  constructor <;> omega
theorem rowP_succ (R : Nat → Nat → Bool) (n m : Nat → Int) (x j : Nat) : rowP R n m x (j + 1) = rowP R n m x j + if R x j then n x * m j else 0 := rfl
theorem prs_succ (R : Nat → Nat → Bool) (n m : Nat → Int) (x M : Nat) : prs R n m (x + 1) M = prs R n m x M + rowP R n m x M := rfl
theorem prs_ext {R : Nat → Nat → Bool} {n m : Nat → Int} {N N' M M' : Nat} (hN : N ≤ N') (hM : M ≤ M') (hn : ∀ i, N ≤ i → n i = 0) (hm : ∀ i, M ≤ i → m i = 0) : prs R n m N' M' = prs R n m N M := by
  have h1 : ∀ x, rowP R n m x M' = rowP R n m x M := fun x => sumTo_ext hM fun y hy _ => by rw [hm y hy, Int.mul_zero]; split <;> rfl
  unfold prs
  rw [sumTo_congr (G := fun x => rowP R n m x M) _ fun x _ => h1 x]
  refine sumTo_ext hN fun x hx _ => ?_
  unfold rowP
  rw [sumTo_congr (G := fun _ => 0) _ fun y _ => ?_, sumTo_zero]
  rw [hn x hx, Int.zero_mul]; split <;> rfl
def isAfter (x y : Nat) : Bool := decide (y < x)
def isAt (x y : Nat) : Bool := decide (x = y)
def isBefore (x y : Nat) : Bool := decide (x < y)
end Go.Proofs.Ytiekdokgjdgajab

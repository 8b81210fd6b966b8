/-
  Lists of throws that have met a square, counted as the model does: those that meet it are taken away. Plain mathematics.
-/
import Derived.Test.YtiekdokgjdgajabM5
namespace Go.Proofs.Ytiekdokgjdgajab

/-- Those that have not met the square and are elsewhere. -/
def nn (s f o : Int) (js : List (Int × Int)) (wt sq : Int) (t : Nat) (x : Int) : Int := if x = wt then 0 else un s f o js wt sq t x
theorem nn_in (s f o : Int) (js : List (Int × Int)) (wt sq : Int) (t : Nat) (x : Int) : 0 ≤ nn s f o js wt sq t x ∧ nn s f o js wt sq t x ≤ pl s f o js sq t x := by
  have h1 := un_nonneg s f o js wt sq t x
  have h2 := un_pl s f o js wt sq t x
  unfold nn; split <;> omega
theorem un_succ (s f o : Int) (js : List (Int × Int)) (wt sq : Int) (t : Nat) (x : Int) : un s f o js wt sq (t + 1) x = sumTo (fun i => nn s f o js wt sq t i * facesTo s o js i x f.toNat) (nsq s) := rfl
/-- Those that are taken away by now, with all lists that may follow, of t throws. -/
def away (s f o : Int) (js : List (Int × Int)) (wt sq : Int) (t : Nat) : Nat → Int
  | 0 => 0
  | k + 1 => mt s f o js wt sq k * f ^ (t - k)
theorem away_step {s f o : Int} {js : List (Int × Int)} (hg : good ⟨s, f, o, js⟩ = true) {sq wt : Int} (hq : onSq s js sq = true) (hw : onSq s js wt = true) {t k : Nat} (hk : k ≤ t) : away s f o js wt sq t k + un s f o js wt sq k wt * f ^ (t - k) = mt s f o js wt sq k * f ^ (t - k) := by
  match k with
  | 0 => rw [away, mt_zero hg hq]; omega
  | k + 1 =>
    rw [away, mt_succ hg hq hw, Int.add_mul, show t - k = (t - (k + 1)) + 1 by omega, Int.pow_succ, Int.mul_comm (f ^ (t - (k + 1))) f, Int.mul_assoc]
theorem away_le {s f o : Int} {js : List (Int × Int)} (hg : good ⟨s, f, o, js⟩ = true) {sq wt : Int} (hq : onSq s js sq = true) {t k : Nat} (hk : k ≤ t) : 0 ≤ mt s f o js wt sq k * f ^ (t - k) ∧ mt s f o js wt sq k * f ^ (t - k) ≤ f ^ t := by
  have hz := good_sizes hg
  have h := mt_le (wt := wt) hg hq k
  have h1 := (pow_le8 hz.2.1.1 hz.2.1.2 (t - k)).1
  refine ⟨Int.mul_nonneg h.1 (by omega), ?_⟩
  have h2 := Int.mul_le_mul_of_nonneg_right h.2 (show 0 ≤ f ^ (t - k) by omega)
  rw [← Int.pow_add, show k + (t - k) = t by omega] at h2
  exact h2
theorem away_part {s f o : Int} {js : List (Int × Int)} (hg : good ⟨s, f, o, js⟩ = true) {sq wt : Int} (hq : onSq s js sq = true) {t k : Nat} (hk : k ≤ t) : 0 ≤ away s f o js wt sq t k ∧ 0 ≤ un s f o js wt sq k wt * f ^ (t - k) := by
  have hz := good_sizes hg
  have h1 := (pow_le8 hz.2.1.1 hz.2.1.2 (t - k)).1
  refine ⟨?_, Int.mul_nonneg (un_nonneg _ _ _ _ _ _ _ _) (by omega)⟩
  match k with
  | 0 => exact Int.le_refl _
  | k + 1 => exact (away_le hg hq (show k ≤ t by omega)).1
end Go.Proofs.Ytiekdokgjdgajab

/-
  Shortest ways to the end counted from either side. Plain mathematics.
-/
import Derived.Test.YtiekdokgjdgajaaM10
namespace Go.Proofs.Ytiekdokgjdgajaa

/-- How many lists of t faces lead from x to the end. -/
def wN (s f o : Int) (js : List (Int × Int)) : Nat → Nat → Int
  | 0, x => if x = s.toNat then 1 else 0
  | t + 1, x => sumTo (fun k => wN s f o js t (nxB s o js x (k + 1))) f.toNat
/-- The part of them behind the first j faces, over next squares that are n away. -/
def wP (s f o : Int) (js : List (Int × Int)) (d : Nat → Int) (x n j : Nat) : Int := sumTo (fun k => if d (nxB s o js x (k + 1)) = (n : Int) then wN s f o js n (nxB s o js x (k + 1)) else 0) j
def wW (s f o : Int) (js : List (Int × Int)) (d : Nat → Int) (r i : Nat) : Int := if 0 ≤ d i ∧ d i < (r : Int) then sat (wN s f o js (d i).toNat i) else 0
def wV (s f o : Int) (js : List (Int × Int)) (d : Nat → Int) (r k i : Nat) : Int := if d i = (r : Int) ∧ i < k then sat (wN s f o js r i) else wW s f o js d r i
section
variable {s f o : Int} {js : List (Int × Int)} {d : Nat → Int}
theorem wN_nonneg : ∀ (t x : Nat), 0 ≤ wN s f o js t x := by
  intro t
  induction t with
  | zero => intro x; rw [wN]; split <;> omega
  | succ t ih => intro x; rw [wN]; exact sumTo_nonneg _ fun k _ => ih _
theorem wN_way : ∀ (t x : Nat), wN s f o js t x ≠ 0 → Way (eB s f o js) x t s.toNat := by
  intro t
  induction t with
  | zero =>
    intro x h
    rw [wN] at h
    by_cases e : x = s.toNat
    · rw [e]; exact .refl
    · rw [if_neg e] at h; exact absurd rfl h
  | succ t ih =>
    intro x h
    rw [wN] at h
    obtain ⟨k, hk, hne⟩ := sumTo_ne _ h
    exact way_front ⟨k + 1, by omega, by omega, rfl⟩ (ih _ hne)
theorem wP_nonneg (x n j : Nat) : 0 ≤ wP s f o js d x n j := by
  refine sumTo_nonneg _ fun k _ => ?_
  show 0 ≤ ite _ _ _
  split
  · exact wN_nonneg _ _
  · omega
theorem wP_zero (x n : Nat) : wP s f o js d x n 0 = 0 := rfl
theorem wP_hit {x n j y : Nat} (hy : nxB s o js x (j + 1) = y) (h : d y = (n : Int)) : wP s f o js d x n (j + 1) = wP s f o js d x n j + wN s f o js n y := by
  subst hy
  show sumTo _ j + ite _ _ _ = _
  rw [if_pos h]; rfl
theorem wP_miss {x n j y : Nat} (hy : nxB s o js x (j + 1) = y) (h : ¬ d y = (n : Int)) : wP s f o js d x n (j + 1) = wP s f o js d x n j := by
  subst hy
  show sumTo _ j + ite _ _ _ = _
  rw [if_neg h, Int.add_zero]; rfl
theorem wP_full (hg : good ⟨s, f, o, js⟩ = true) (hD : ∀ (x t : Nat), d x = (t : Int) ↔ okB s js x ∧ DistB s f o js x t) {x n : Nat} (hx : okB s js x) (h : DistB s f o js x (n + 1)) : wP s f o js d x n f.toNat = wN s f o js (n + 1) x := by
  rw [wN]
  refine sumTo_congr _ fun k hk => ?_
  show ite _ _ _ = _
  by_cases e : d (nxB s o js x (k + 1)) = (n : Int)
  · rw [if_pos e]
  · rw [if_neg e]
    by_cases h0 : wN s f o js n (nxB s o js x (k + 1)) = 0
    · exact h0.symm
    · refine absurd ((hD _ _).2 ⟨okB_next hg f.toNat x hx (k + 1) (by omega) (by omega), wN_way _ _ h0, fun t' ht' => ?_⟩) e
      have := h.2 _ (way_front ⟨k + 1, by omega, by omega, rfl⟩ ht')
      omega
theorem wV_zero (r : Nat) (i : Nat) : wV s f o js d r 0 i = wW s f o js d r i := by
  unfold wV; rw [if_neg (by omega)]
theorem wV_skip {r k : Nat} (h : ¬ d k = (r : Int)) (i : Nat) : wV s f o js d r (k + 1) i = wV s f o js d r k i := by
  unfold wV
  by_cases e : d i = (r : Int) ∧ i < k
  · rw [if_pos e, if_pos ⟨e.1, by omega⟩]
  · rw [if_neg e, if_neg]
    rintro ⟨h1, h2⟩
    by_cases e2 : i = k
    · subst e2; exact h h1
    · exact e ⟨h1, by omega⟩
theorem wV_done {r k : Nat} (h : d k = (r : Int)) (i : Nat) : (if i = k then sat (wN s f o js r k) else wV s f o js d r k i) = wV s f o js d r (k + 1) i := by
  by_cases e : i = k
  · subst e
    rw [if_pos rfl]; unfold wV; rw [if_pos ⟨h, by omega⟩]
  · rw [if_neg e]
    unfold wV
    by_cases e2 : d i = (r : Int) ∧ i < k
    · rw [if_pos e2, if_pos ⟨e2.1, by omega⟩]
    · rw [if_neg e2, if_neg (fun h => e2 ⟨h.1, by omega⟩)]
theorem wV_end {r n i : Nat} (hi : i < n) : wV s f o js d r n i = wW s f o js d (r + 1) i := by
  unfold wV wW
  by_cases e : d i = (r : Int)
  · rw [if_pos ⟨e, hi⟩, if_pos (by omega), e, Int.toNat_natCast]
  · rw [if_neg (fun h => e h.1)]
    by_cases e2 : 0 ≤ d i ∧ d i < (r : Int)
    · rw [if_pos e2, if_pos (by omega)]
    · rw [if_neg e2, if_neg (by omega)]
theorem wV_self {r k : Nat} (h : d k = (r : Int)) : wV s f o js d r k k = 0 := by
  unfold wV wW
  rw [if_neg (by omega), if_neg (by omega)]
theorem wV_next {u k y : Nat} (h : d y = (u : Int)) : wV s f o js d (u + 1) k y = sat (wN s f o js u y) := by
  unfold wV wW
  rw [if_neg (by omega), if_pos (by omega), h, Int.toNat_natCast]
theorem wW_start (hD : ∀ (x t : Nat), d x = (t : Int) ↔ okB s js x ∧ DistB s f o js x t) (hS : d s.toNat = 0) (i : Nat) : (if i = s.toNat then 1 else 0) = wW s f o js d 1 i := by
  unfold wW
  by_cases e : i = s.toNat
  · subst e
    rw [if_pos rfl, if_pos (by omega), hS]
    show (1 : Int) = sat (wN s f o js 0 s.toNat)
    rw [wN, if_pos rfl]; rfl
  · rw [if_neg e, if_neg]
    rintro ⟨h1, h2⟩
    have h3 : d i = ((0 : Nat) : Int) := by omega
    have := ((hD i 0).1 h3).2.1
    cases this
    exact e rfl
theorem wW_at {t q : Nat} (h : d q = (t : Int)) : wW s f o js d (t + 1) q = sat (wN s f o js t q) := by
  unfold wW
  rw [if_pos (by omega), h, Int.toNat_natCast]
theorem faces_sum (hg : good ⟨s, f, o, js⟩ = true) {i : Nat} (hi : (i : Int) ≤ s) (u : Nat) : ∀ k : Nat, sumTo (fun y => facesTo s o js i y k * wN s f o js u y) (nsq s) = sumTo (fun k => wN s f o js u (nxB s o js i (k + 1))) k := by
  intro k
  induction k with
  | zero =>
    have : (fun y : Nat => facesTo s o js i y 0 * wN s f o js u y) = fun _ => 0 := by
      funext y
      have : facesTo s o js i y 0 = 0 := rfl
      rw [this, Int.zero_mul]
    rw [this, sumTo_zero]; rfl
  | succ k ih =>
    have hin := thrown_in (o := o) hg (show 0 ≤ (i : Int) by omega) hi (show (1 : Int) ≤ ((k + 1 : Nat) : Int) by omega)
    have heq := nxB_eq (o := o) hg hi (show 1 ≤ k + 1 by omega)
    have e : (fun y : Nat => facesTo s o js i y (k + 1) * wN s f o js u y) = fun y : Nat => facesTo s o js i y k * wN s f o js u y + (if thrown s o js i ((k : Int) + 1) = (y : Int) then 1 else 0) * wN s f o js u y := by
      funext y
      rw [facesTo_succ, Int.add_mul]
    have hc : (((k + 1 : Nat) : Int)) = (k : Int) + 1 := by omega
    rw [hc] at heq hin
    rw [e, sumTo_add, ih]
    show _ = _ + wN s f o js u (nxB s o js i (k + 1))
    congr 1
    rw [sumTo_one (k := nxB s o js i (k + 1)) (by unfold nsq; omega) (fun y _ hy => by rw [if_neg (by rw [heq]; omega), Int.zero_mul]), if_pos heq, Int.one_mul]
theorem pl_wN (hg : good ⟨s, f, o, js⟩ = true) {q : Nat} (hq : onSq s js q = true) : ∀ (t u : Nat), sumTo (fun y => pl s f o js q t y * wN s f o js u y) (nsq s) = wN s f o js (t + u) q := by
  intro t
  induction t with
  | zero =>
    intro u
    have hqs := (onSq_in hq).2
    rw [sumTo_one (k := q) (by unfold nsq; omega) (fun y _ hy => by rw [pl, if_neg (by omega), Int.zero_mul]), pl, if_pos rfl, Int.one_mul, Nat.zero_add]
  | succ t ih =>
    intro u
    rw [show t + 1 + u = t + (u + 1) by omega, ← ih (u + 1)]
    have e : (fun y : Nat => pl s f o js q (t + 1) y * wN s f o js u y) = fun y : Nat => sumTo (fun i => pl s f o js q t i * facesTo s o js i y f.toNat * wN s f o js u y) (nsq s) := by
      funext y
      rw [pl, sumTo_mul]
    rw [e, sumTo_comm]
    refine sumTo_congr _ fun i hi => ?_
    have e2 : (fun y : Nat => pl s f o js q t i * facesTo s o js i y f.toNat * wN s f o js u y) = fun y : Nat => pl s f o js q t i * (facesTo s o js i y f.toNat * wN s f o js u y) := by
      funext y
      rw [Int.mul_assoc]
    rw [e2, sumTo_mulL]
    have hi2 : (i : Int) ≤ s := by
      have hz := good_sizes hg
      unfold nsq at hi; omega
    rw [faces_sum hg hi2]
    rfl
theorem pl_end (hg : good ⟨s, f, o, js⟩ = true) {q : Nat} (hq : onSq s js q = true) (t : Nat) : pl s f o js q t s = wN s f o js t q := by
  have hz := good_sizes hg
  have := pl_wN hg hq t 0
  rw [sumTo_one (k := s.toNat) (by unfold nsq; omega) (fun y _ hy => by rw [wN, if_neg hy, Int.mul_zero]), wN, if_pos rfl, Int.mul_one, Nat.add_zero] at this
  rw [← this, Int.toNat_of_nonneg (by omega)]
end
end Go.Proofs.Ytiekdokgjdgajaa

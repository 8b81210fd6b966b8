/-
  Lists of throws that have met a square, counted. Plain mathematics.
-/
import Derived.Test.YtiekdokgjdgajabM2
namespace Go.Proofs.Ytiekdokgjdgajab

/-- Those that have met the watched square, told by now. -/
def mgot (c : Int → Bool → Int) (left : Int → Bool → Bool) : Int := sumTo (fun i => if left i true then 0 else c i true) 101
theorem mgot_strike (c : Int → Bool → Int) {left : Int → Bool → Bool} {q : Nat} {m : Bool} (hq : q < 101) (hl : left q m = true) : mgot c (strike left q m) = mgot c left + if m then c q true else 0 := by
  unfold mgot
  cases m
  · rw [sumTo_congr (G := fun i => if left i true then 0 else c i true) _ fun i _ => by rw [strike_other (m := true) (.inr (by simp))]]
    simp
  · rw [sumTo_at (F := fun i => if left i true then 0 else c i true) (k := q) 101 hq fun i _ hne => by rw [strike_other (.inl (by omega))]]
    rw [strike_same, hl]; simp
theorem mgot_le {c : Int → Bool → Int} (h : ∀ q m, 0 ≤ c q m) (left : Int → Bool → Bool) : 0 ≤ mgot c left ∧ mgot c left ≤ sumTo (fun i => c i true) 101 := by
  unfold mgot
  constructor
  · refine sumTo_nonneg _ fun i _ => ?_
    have := h i true
    split <;> omega
  · refine sumTo_le _ fun i _ => ?_
    have := h i true
    split <;> omega
/-- The spots of a walk that watches the end: met, just at the end. -/
theorem ct_end (s f o : Int) (js : List (Int × Int)) (sq : Int) : ∀ (t : Nat) (x : Int) (m : Bool), m ≠ (x == s) → ct s f o js s sq t x m = 0
  | 0, x, m, h => by
    rw [ct, if_neg]
    rintro ⟨rfl, rfl⟩
    exact h rfl
  | t + 1, x, m, h => by
    rw [ct, sumTo_congr (G := fun _ => 0) _ fun i _ => ?_, sumTo_zero]
    have h1 : ∀ b, ct s f o js s sq t i b * nx s o js s i b x m f.toNat = 0 := fun b => by
      by_cases hb : b = ((i : Int) == s)
      · have : nx s o js s i b x m f.toNat = 0 := by
          cases hf : facesTo s o js i x f.toNat
          all_goals
            unfold nx
            split
            · rename_i hm
              cases hb' : b
              · rw [hb', Bool.false_or] at hm; exact absurd hm h
              · rw [hb'] at hb
                have his : (i : Int) = s := by simpa using hb.symm
                rw [hb', Bool.true_or] at hm
                by_cases hx : facesTo s o js i x f.toNat = 0
                · exact hx
                · obtain ⟨face, _, he⟩ := facesTo_hit _ _ _ _ _ _ hx
                  rw [thrown, if_pos his, his] at he
                  subst he
                  exact absurd (by rw [hm]; simp) h
            · rfl
        rw [this, Int.mul_zero]
      · rw [ct_end s f o js sq t i b hb, Int.zero_mul]
    rw [h1, h1]; rfl
theorem ct_met {s f o : Int} {js : List (Int × Int)} (hg : good ⟨s, f, o, js⟩ = true) (sq : Int) (t : Nat) : sumTo (fun i => ct s f o js s sq t i true) 101 = pl s f o js sq t s := by
  have hz := good_sizes hg
  obtain ⟨S, rfl⟩ := Int.eq_ofNat_of_zero_le (show 0 ≤ s by omega)
  rw [sumTo_one (k := S) (by omega) fun i _ hne => ct_end _ _ _ _ _ _ _ _ (by simp; omega), ← ct_pl S f o js S sq t S, ct_end S f o js sq t S false (by simp)]
  omega
theorem faces_end (s o : Int) (js : List (Int × Int)) : ∀ k : Nat, facesTo s o js s s k = k
  | 0 => rfl
  | k + 1 => by rw [facesTo_succ, faces_end s o js k, thrown, if_pos rfl, if_pos rfl]; omega
/-- Those that are at the end stay there. -/
theorem pl_end {s f o : Int} {js : List (Int × Int)} (hg : good ⟨s, f, o, js⟩ = true) (sq : Int) (t : Nat) : pl s f o js sq t s * f ≤ pl s f o js sq (t + 1) s := by
  have hz := good_sizes hg
  obtain ⟨S, rfl⟩ := Int.eq_ofNat_of_zero_le (show 0 ≤ s by omega)
  have h := sumTo_term (F := fun i => pl S f o js sq t i * facesTo S o js i S f.toNat) (nsq S) (fun i _ => Int.mul_nonneg (pl_nonneg _ _ _ _ _ _ _) (facesTo_le _ _ _ _ _ _).1) (k := S) (by unfold nsq; omega)
  rw [← show pl S f o js sq (t + 1) S = sumTo (fun i => pl S f o js sq t i * facesTo S o js i S f.toNat) (nsq S) from rfl] at h
  rw [faces_end, show ((f.toNat : Nat) : Int) = f by omega] at h
  exact h
end Go.Proofs.Ytiekdokgjdgajab

/- Several texts, one behind the other: M2. -/
import Derived.Test.YtnohpclaccaijabZdaf

namespace Go.Proofs.Ytnohpclaccaijab

/-- F 0 + F 1 + .. of the first n. -/
def sumTo (F : Nat → Int) : Nat → Int
  | 0 => 0
  | n + 1 => sumTo F n + F n
theorem sumTo_congr {F G : Nat → Int} : ∀ n : Nat, (∀ i < n, F i = G i) → sumTo F n = sumTo G n
  | 0, _ => rfl
  | n + 1, h => by rw [sumTo, sumTo, sumTo_congr n fun i hi => h i (by omega), h n (by omega)]
theorem sumTo_le {F G : Nat → Int} : ∀ n : Nat, (∀ i < n, F i ≤ G i) → sumTo F n ≤ sumTo G n
  | 0, _ => Int.le_refl _
  | n + 1, h => by
    have h1 := sumTo_le n fun i hi => h i (by omega)
    have h2 := h n (by omega)
    rw [sumTo, sumTo]; omega
theorem sumTo_zero : ∀ n : Nat, sumTo (fun _ => 0) n = 0
  | 0 => rfl
  | n + 1 => by rw [sumTo, sumTo_zero n]; rfl
theorem sumTo_nonneg {F : Nat → Int} (n : Nat) (h : ∀ i < n, 0 ≤ F i) : 0 ≤ sumTo F n := by
  have := sumTo_le (F := fun _ => 0) (G := F) n h
  rw [sumTo_zero] at this; exact this
theorem sumTo_add (F G : Nat → Int) : ∀ n : Nat, sumTo (fun i => F i + G i) n = sumTo F n + sumTo G n
  | 0 => rfl
  | n + 1 => by rw [sumTo, sumTo, sumTo, sumTo_add F G n]; omega
theorem sumTo_mul (F : Nat → Int) (c : Int) : ∀ n : Nat, sumTo (fun i => F i * c) n = sumTo F n * c
  | 0 => by simp [sumTo]
  | n + 1 => by rw [sumTo, sumTo, sumTo_mul F c n, Int.add_mul]
theorem sumTo_mulL (F : Nat → Int) (c : Int) : ∀ n : Nat, sumTo (fun i => c * F i) n = c * sumTo F n
  | 0 => by simp [sumTo]
  | n + 1 => by rw [sumTo, sumTo, sumTo_mulL F c n, Int.mul_add]
theorem sumTo_comm (F : Nat → Nat → Int) (m : Nat) : ∀ n : Nat, sumTo (fun i => sumTo (F i) m) n = sumTo (fun j => sumTo (fun i => F i j) n) m
  | 0 => by simp only [sumTo]; rw [sumTo_zero]
  | n + 1 => by simp only [sumTo]; rw [sumTo_comm F m n, sumTo_add]
/-- One term is another one. -/
theorem sumTo_at {F G : Nat → Int} {k : Nat} : ∀ n : Nat, k < n → (∀ i < n, i ≠ k → F i = G i) → sumTo G n = sumTo F n + (G k - F k)
  | 0, h, _ => by omega
  | n + 1, h, he => by
    by_cases hk : k = n
    · subst hk
      rw [sumTo, sumTo, sumTo_congr k fun i hi => he i (by omega) (by omega)]; omega
    · rw [sumTo, sumTo, sumTo_at n (by omega) fun i hi hne => he i (by omega) hne, he n (by omega) (fun e => hk e.symm)]; omega
theorem sumTo_one {F : Nat → Int} {k n : Nat} (hk : k < n) (he : ∀ i < n, i ≠ k → F i = 0) : sumTo F n = F k := by
  have := sumTo_at (F := fun _ => 0) (G := F) n hk fun i hi hne => (he i hi hne).symm
  rw [sumTo_zero] at this; omega
theorem sumTo_term {F : Nat → Int} (n : Nat) (h : ∀ i < n, 0 ≤ F i) {k : Nat} (hk : k < n) : F k ≤ sumTo F n := by
  have h1 := sumTo_le (F := fun i => if i = k then F k else 0) (G := F) n fun i hi => by
    by_cases e : i = k
    · simp [e]
    · simp [e, h i hi]
  rw [sumTo_one (k := k) hk fun i _ hne => by simp [hne]] at h1
  simpa using h1

/-- How many squares there are. -/
def nsq (s : Int) : Nat := s.toNat + 1

/-- How many lists of t throws lead from a square to each. -/
def pl (s f o : Int) (js : List (Int × Int)) (sq : Int) : Nat → Int → Int
  | 0, x => if x = sq then 1 else 0
  | t + 1, x => sumTo (fun i => pl s f o js sq t i * facesTo s o js i x f.toNat) (nsq s)

/-- How many of the first k faces lead from a spot to another one. -/
def nx (s o : Int) (js : List (Int × Int)) (wt : Int) (i : Int) (b : Bool) (y : Int) (m : Bool) (k : Nat) : Int := if m = (b || (y == wt)) then facesTo s o js i y k else 0
/-- How many lists of t throws lead to each spot. -/
def ct (s f o : Int) (js : List (Int × Int)) (wt sq : Int) : Nat → Int → Bool → Int
  | 0, x, m => if x = sq ∧ m = (sq == wt) then 1 else 0
  | t + 1, x, m => sumTo (fun i => ct s f o js wt sq t i false * nx s o js wt i false x m f.toNat + ct s f o js wt sq t i true * nx s o js wt i true x m f.toNat) (nsq s)

theorem nx_both (s o : Int) (js : List (Int × Int)) (wt i : Int) (b : Bool) (y : Int) (k : Nat) : nx s o js wt i b y false k + nx s o js wt i b y true k = facesTo s o js i y k := by
  unfold nx
  cases (b || (y == wt)) <;> simp
theorem nx_nonneg (s o : Int) (js : List (Int × Int)) (wt i : Int) (b : Bool) (y : Int) (m : Bool) (k : Nat) : 0 ≤ nx s o js wt i b y m k := by
  unfold nx
  split
  · exact (facesTo_le _ _ _ _ _ _).1
  · exact Int.le_refl _
theorem nx_zero (s o : Int) (js : List (Int × Int)) (wt i : Int) (b : Bool) (y : Int) (m : Bool) : nx s o js wt i b y m 0 = 0 := by
  unfold nx; split <;> rfl
theorem nx_succ (s o : Int) (js : List (Int × Int)) (wt i : Int) (b : Bool) (y : Int) (m : Bool) (k : Nat) :
    nx s o js wt i b y m (k + 1) = nx s o js wt i b y m k + if thrown s o js i (k + 1) = y ∧ m = (b || (thrown s o js i (k + 1) == wt)) then 1 else 0 := by
  unfold nx
  rw [facesTo]
  by_cases h : thrown s o js i (k + 1) = y
  · rw [h]
    by_cases hm : m = (b || (y == wt)) <;> simp [hm]
  · by_cases hm : m = (b || (y == wt)) <;> simp [h, hm]
theorem facesTo_mono (s o : Int) (js : List (Int × Int)) (i y : Int) {k k' : Nat} (h : k ≤ k') : facesTo s o js i y k ≤ facesTo s o js i y k' := by
  induction h with
  | refl => exact Int.le_refl _
  | step _ ih => rw [facesTo]; split <;> omega
theorem nx_mono (s o : Int) (js : List (Int × Int)) (wt i : Int) (b : Bool) (y : Int) (m : Bool) {k k' : Nat} (h : k ≤ k') : nx s o js wt i b y m k ≤ nx s o js wt i b y m k' := by
  unfold nx
  split
  · exact facesTo_mono _ _ _ _ _ h
  · exact Int.le_refl _

theorem ct_pl (s f o : Int) (js : List (Int × Int)) (wt sq : Int) : ∀ (t : Nat) (x : Int), ct s f o js wt sq t x false + ct s f o js wt sq t x true = pl s f o js sq t x
  | 0, x => by
    rw [ct, ct, pl]
    cases h : (sq == wt) <;> by_cases hx : x = sq <;> simp [hx]
  | t + 1, x => by
    rw [ct, ct, pl, ← sumTo_add]
    refine sumTo_congr _ fun i _ => ?_
    have e1 := nx_both s o js wt i false x f.toNat
    have e2 := nx_both s o js wt i true x f.toNat
    rw [← ct_pl s f o js wt sq t i, Int.add_mul]
    conv => rhs; rw [← e1]
    conv => rhs; arg 2; rw [e1, ← e2]
    rw [Int.mul_add, Int.mul_add]
    omega
theorem ct_nonneg (s f o : Int) (js : List (Int × Int)) (wt sq : Int) : ∀ (t : Nat) (x : Int) (m : Bool), 0 ≤ ct s f o js wt sq t x m
  | 0, x, m => by rw [ct]; split <;> omega
  | t + 1, x, m => by
    rw [ct]
    refine sumTo_nonneg _ fun i _ => ?_
    have h1 := Int.mul_nonneg (ct_nonneg s f o js wt sq t i false) (nx_nonneg s o js wt i false x m f.toNat)
    have h2 := Int.mul_nonneg (ct_nonneg s f o js wt sq t i true) (nx_nonneg s o js wt i true x m f.toNat)
    omega
theorem pl_nonneg (s f o : Int) (js : List (Int × Int)) (sq : Int) (t : Nat) (x : Int) : 0 ≤ pl s f o js sq t x := by
  have h1 := ct_nonneg s f o js 0 sq t x false
  have h2 := ct_nonneg s f o js 0 sq t x true
  have := ct_pl s f o js 0 sq t x
  omega
theorem facesTo_hit (s o : Int) (js : List (Int × Int)) (i y : Int) : ∀ k : Nat, facesTo s o js i y k ≠ 0 → ∃ face : Int, 1 ≤ face ∧ thrown s o js i face = y
  | 0, h => absurd rfl h
  | k + 1, h => by
    rw [facesTo] at h
    by_cases e : thrown s o js i (k + 1) = y
    · exact ⟨_, by omega, e⟩
    · rw [if_neg e, Int.add_zero] at h
      exact facesTo_hit s o js i y k h
theorem sumTo_ne {F : Nat → Int} : ∀ n : Nat, sumTo F n ≠ 0 → ∃ i < n, F i ≠ 0
  | 0, h => absurd rfl h
  | n + 1, h => by
    by_cases e : F n = 0
    · rw [sumTo, e, Int.add_zero] at h
      obtain ⟨i, hi, h⟩ := sumTo_ne n h
      exact ⟨i, by omega, h⟩
    · exact ⟨n, by omega, e⟩
/-- Lists lead to squares of the board alone, at which no jump begins. -/
theorem pl_on {s f o : Int} {js : List (Int × Int)} (hg : good ⟨s, f, o, js⟩ = true) {sq : Int} (hq : onSq s js sq = true) : ∀ (t : Nat) (x : Int), pl s f o js sq t x ≠ 0 → 0 ≤ x ∧ x ≤ s ∧ jumpOf js x = x
  | 0, x, h => by
    rw [pl] at h
    by_cases e : x = sq
    · subst e
      have := onSq_in hq
      exact ⟨this.1, this.2, onSq_fix hq⟩
    · simp [e] at h
  | t + 1, x, h => by
    rw [pl] at h
    obtain ⟨i, hi, hne⟩ := sumTo_ne _ h
    have h1 : pl s f o js sq t i ≠ 0 := fun e => hne (by rw [e, Int.zero_mul])
    have h2 : facesTo s o js i x f.toNat ≠ 0 := fun e => hne (by rw [e, Int.mul_zero])
    obtain ⟨i0, i1, i2⟩ := pl_on hg hq t i h1
    obtain ⟨face, hf, rfl⟩ := facesTo_hit _ _ _ _ _ _ h2
    have := thrown_in (o := o) hg i0 i1 hf
    exact ⟨this.1, this.2, thrown_fix hg i2⟩
theorem ct_on {s f o : Int} {js : List (Int × Int)} (hg : good ⟨s, f, o, js⟩ = true) {sq wt : Int} (hq : onSq s js sq = true) (t : Nat) (x : Int) (m : Bool) (h : ct s f o js wt sq t x m ≠ 0) : 0 ≤ x ∧ x ≤ s ∧ jumpOf js x = x := by
  refine pl_on hg hq t x ?_
  have h1 := ct_nonneg s f o js wt sq t x false
  have h2 := ct_nonneg s f o js wt sq t x true
  rw [← ct_pl s f o js wt sq t x]
  cases m <;> omega
theorem faces_all {s o : Int} {js : List (Int × Int)} {i : Int} : ∀ k : Nat, (∀ face : Int, 1 ≤ face → 0 ≤ thrown s o js i face ∧ thrown s o js i face ≤ s) → sumTo (fun y => facesTo s o js i y k) (nsq s) = k
  | 0, _ => by simp only [facesTo]; rw [sumTo_zero]; rfl
  | k + 1, h => by
    simp only [facesTo]
    rw [sumTo_add, faces_all k h]
    have hk := h (k + 1) (by omega)
    rw [sumTo_one (k := (thrown s o js i (k + 1)).toNat) (by unfold nsq; omega) fun y _ hne => by rw [if_neg (by omega)], if_pos (by omega)]
    omega
/-- All lists of t throws. -/
theorem pl_all {s f o : Int} {js : List (Int × Int)} (hg : good ⟨s, f, o, js⟩ = true) {sq : Int} (hq : onSq s js sq = true) : ∀ t : Nat, sumTo (fun x => pl s f o js sq t x) (nsq s) = f ^ t
  | 0 => by
    have h := onSq_in hq
    rw [sumTo_one (k := sq.toNat) (by unfold nsq; omega) fun y _ hne => by rw [pl, if_neg (by omega)], pl, if_pos (by omega)]
    simp
  | t + 1 => by
    have hz := good_sizes hg
    simp only [pl]
    rw [sumTo_comm, Int.pow_succ, ← pl_all hg hq t, ← sumTo_mul]
    refine sumTo_congr _ fun i _ => ?_
    rw [sumTo_mulL]
    by_cases h0 : pl s f o js sq t i = 0
    · rw [h0, Int.zero_mul, Int.zero_mul]
    · obtain ⟨i0, i1, _⟩ := pl_on hg hq t i h0
      rw [faces_all _ fun face hf => thrown_in hg i0 i1 hf]
      congr 1; omega
theorem pow_le8 {f : Int} (h1 : 1 ≤ f) (h8 : f ≤ 8) : ∀ t : Nat, 1 ≤ f ^ t ∧ f ^ t ≤ 8 ^ t
  | 0 => by simp
  | t + 1 => by
    have h := pow_le8 h1 h8 t
    rw [Int.pow_succ, Int.pow_succ]
    constructor
    · have := Int.mul_le_mul h.1 h1 (by omega) (by omega)
      omega
    · exact Int.mul_le_mul h.2 h8 (by omega) (by omega)
theorem pow8_le {t n : Nat} (h : t ≤ n) : (8 : Int) ^ t ≤ 8 ^ n := by
  induction h with
  | refl => exact Int.le_refl _
  | @step m _ ih =>
    have h1 := (pow_le8 (f := 8) (by omega) (by omega) m).1
    rw [Int.pow_succ]; omega
theorem pl_le {s f o : Int} {js : List (Int × Int)} (hg : good ⟨s, f, o, js⟩ = true) {sq : Int} (hq : onSq s js sq = true) (t : Nat) (x : Int) : pl s f o js sq t x ≤ f ^ t := by
  have hz := good_sizes hg
  by_cases h0 : pl s f o js sq t x = 0
  · have := (pow_le8 hz.2.1.1 hz.2.1.2 t).1; omega
  · obtain ⟨i0, i1, _⟩ := pl_on hg hq t x h0
    have := sumTo_term (F := fun i => pl s f o js sq t i) (nsq s) (fun i _ => pl_nonneg _ _ _ _ _ _ _) (k := x.toNat) (by unfold nsq; omega)
    rw [pl_all hg hq t] at this
    rw [show ((x.toNat : Nat) : Int) = x by omega] at this
    exact this
theorem ct_le {s f o : Int} {js : List (Int × Int)} (hg : good ⟨s, f, o, js⟩ = true) {sq wt : Int} (hq : onSq s js sq = true) (t : Nat) (x : Int) (m : Bool) : ct s f o js wt sq t x m ≤ f ^ t := by
  have h1 := ct_nonneg s f o js wt sq t x false
  have h2 := ct_nonneg s f o js wt sq t x true
  have h3 := ct_pl s f o js wt sq t x
  have h4 := pl_le hg hq t x
  cases m <;> omega

/-- Those that are told by now, while some spots are left. -/
def got (s f o : Int) (js : List (Int × Int)) (wt : Int) (c : Int → Bool → Int) (left : Int → Bool → Bool) (y : Int) (m : Bool) : Int :=
  sumTo (fun i => (if left i false then 0 else c i false * nx s o js wt i false y m f.toNat) + (if left i true then 0 else c i true * nx s o js wt i true y m f.toNat)) (nsq s)
def strike (left : Int → Bool → Bool) (q : Int) (b : Bool) : Int → Bool → Bool := fun i m => left i m && !((i == q) && (m == b))
theorem strike_same (left : Int → Bool → Bool) (q : Int) (b : Bool) : strike left q b q b = false := by simp [strike]
theorem strike_other {left : Int → Bool → Bool} {q i : Int} {b m : Bool} (h : i ≠ q ∨ m ≠ b) : strike left q b i m = left i m := by
  rcases h with h | h <;> simp [strike, h]
theorem got_start (s f o : Int) (js : List (Int × Int)) (wt : Int) (c : Int → Bool → Int) (left : Int → Bool → Bool) (hl : ∀ i m, left i m = (c i m != 0)) (y : Int) (m : Bool) : got s f o js wt c left y m = 0 := by
  unfold got
  rw [sumTo_congr (G := fun _ => 0) _ fun i _ => ?_, sumTo_zero]
  rw [hl, hl]
  by_cases h1 : c i false = 0 <;> by_cases h2 : c i true = 0 <;> simp [h1, h2]
theorem got_end (s f o : Int) (js : List (Int × Int)) (wt sq : Int) (t : Nat) (left : Int → Bool → Bool) (hl : ∀ i m, left i m = false) (y : Int) (m : Bool) : got s f o js wt (ct s f o js wt sq t) left y m = ct s f o js wt sq (t + 1) y m := by
  unfold got
  rw [ct]
  refine sumTo_congr _ fun i _ => ?_
  rw [hl, hl]; simp
theorem got_strike (s f o : Int) (js : List (Int × Int)) (wt : Int) (c : Int → Bool → Int) (left : Int → Bool → Bool) {q : Int} {b : Bool} (hl : left q b = true) (h0 : 0 ≤ q) (h1 : q ≤ s) (y : Int) (m : Bool) :
    got s f o js wt c (strike left q b) y m = got s f o js wt c left y m + c q b * nx s o js wt q b y m f.toNat := by
  obtain ⟨k, rfl⟩ := Int.eq_ofNat_of_zero_le h0
  unfold got
  rw [sumTo_at (F := fun i => (if left i false then 0 else c i false * nx s o js wt i false y m f.toNat) + (if left i true then 0 else c i true * nx s o js wt i true y m f.toNat)) (k := k) (nsq s) (by unfold nsq; omega) fun i _ hne => ?_]
  · congr 1
    cases b
    · rw [strike_same, strike_other (m := true) (.inr (by simp)), hl]; simp
    · rw [strike_same, strike_other (m := false) (.inr (by simp)), hl]; simp; omega
  · rw [strike_other (.inl (by omega)), strike_other (.inl (by omega))]
theorem got_le (s f o : Int) (js : List (Int × Int)) (wt sq : Int) (t : Nat) (left : Int → Bool → Bool) (y : Int) (m : Bool) : got s f o js wt (ct s f o js wt sq t) left y m ≤ ct s f o js wt sq (t + 1) y m := by
  unfold got
  rw [ct]
  refine sumTo_le _ fun i _ => ?_
  have h1 := Int.mul_nonneg (ct_nonneg s f o js wt sq t i false) (nx_nonneg s o js wt i false y m f.toNat)
  have h2 := Int.mul_nonneg (ct_nonneg s f o js wt sq t i true) (nx_nonneg s o js wt i true y m f.toNat)
  cases left i false <;> cases left i true <;> simp <;> omega
theorem got_nonneg (s f o : Int) (js : List (Int × Int)) (wt sq : Int) (t : Nat) (left : Int → Bool → Bool) (y : Int) (m : Bool) : 0 ≤ got s f o js wt (ct s f o js wt sq t) left y m := by
  unfold got
  refine sumTo_nonneg _ fun i _ => ?_
  have h1 := Int.mul_nonneg (ct_nonneg s f o js wt sq t i false) (nx_nonneg s o js wt i false y m f.toNat)
  have h2 := Int.mul_nonneg (ct_nonneg s f o js wt sq t i true) (nx_nonneg s o js wt i true y m f.toNat)
  cases left i false <;> cases left i true <;> simp <;> omega
theorem got_part {s f o : Int} {js : List (Int × Int)} (hg : good ⟨s, f, o, js⟩ = true) {sq wt : Int} (hq : onSq s js sq = true) {t : Nat} {left : Int → Bool → Bool} {q : Int} {b : Bool} (hl : left q b = true) (h0 : 0 ≤ q) (h1 : q ≤ s) {k : Nat} (hk : k ≤ f.toNat) (y : Int) (m : Bool) :
    0 ≤ got s f o js wt (ct s f o js wt sq t) left y m + ct s f o js wt sq t q b * nx s o js wt q b y m k ∧ got s f o js wt (ct s f o js wt sq t) left y m + ct s f o js wt sq t q b * nx s o js wt q b y m k ≤ f ^ (t + 1) := by
  have a1 := got_nonneg s f o js wt sq t left y m
  have a2 := Int.mul_nonneg (ct_nonneg s f o js wt sq t q b) (nx_nonneg s o js wt q b y m k)
  have a3 := Int.mul_le_mul_of_nonneg_left (nx_mono s o js wt q b y m hk) (ct_nonneg s f o js wt sq t q b)
  have a4 := got_strike s f o js wt (ct s f o js wt sq t) left hl h0 h1 y m
  have a5 := got_le s f o js wt sq t (strike left q b) y m
  have a6 := ct_le (wt := wt) hg hq (t + 1) y m
  constructor <;> omega
theorem pow_lt63 {f : Int} (h1 : 1 ≤ f) (h8 : f ≤ 8) {t : Nat} (ht : t ≤ 20) : 1 ≤ f ^ t ∧ f ^ t ≤ 1152921504606846976 := by
  have a := pow_le8 h1 h8 t
  have b := pow8_le ht
  have e : (8 : Int) ^ 20 = 1152921504606846976 := by decide
  omega
theorem strike_strike (left : Int → Bool → Bool) (q : Int) (b : Bool) : strike (strike left q b) q b = strike left q b := by
  funext i m
  unfold strike
  cases left i m <;> cases ((i == q) && (m == b)) <;> rfl
theorem sumTo_part {F : Nat → Int} (h : ∀ i, 0 ≤ F i) {m n : Nat} (hmn : m ≤ n) : sumTo F m ≤ sumTo F n := by
  induction hmn with
  | refl => exact Int.le_refl _
  | @step k _ ih => have := h k; rw [sumTo]; omega
theorem facesTo_succ (s o : Int) (js : List (Int × Int)) (i x : Int) (k : Nat) : facesTo s o js i x (k + 1) = facesTo s o js i x k + if thrown s o js i (k + 1) = x then 1 else 0 := rfl
/-- Those that are told by now: all from the first m squares, and by the first j faces from the next one. -/
theorem pl_part {s f o : Int} {js : List (Int × Int)} (hg : good ⟨s, f, o, js⟩ = true) {sq : Int} (hq : onSq s js sq = true) (t : Nat) {m j : Nat} (hm : m < nsq s) (hj : j ≤ f.toNat) (x : Int) :
    0 ≤ sumTo (fun i => pl s f o js sq t i * facesTo s o js i x f.toNat) m + pl s f o js sq t m * facesTo s o js m x j ∧ sumTo (fun i => pl s f o js sq t i * facesTo s o js i x f.toNat) m + pl s f o js sq t m * facesTo s o js m x j ≤ f ^ (t + 1) := by
  have hF : ∀ i : Nat, 0 ≤ (fun i : Nat => pl s f o js sq t i * facesTo s o js i x f.toNat) i := fun i => Int.mul_nonneg (pl_nonneg _ _ _ _ _ _ _) (facesTo_le _ _ _ _ _ _).1
  have h1 := sumTo_nonneg m (fun i _ => hF i)
  have h2 := Int.mul_nonneg (pl_nonneg s f o js sq t m) (facesTo_le s o js m x j).1
  have h3 := Int.mul_le_mul_of_nonneg_left (facesTo_mono s o js m x hj) (pl_nonneg s f o js sq t m)
  have h4 := sumTo_part hF (show m + 1 ≤ nsq s by omega)
  rw [sumTo] at h4
  have h5 := pl_le hg hq (t + 1) x
  rw [pl] at h5
  constructor <;> omega
/-- PlacesAfter. -/
def placesL (s f o : Int) (js : List (Int × Int)) (sq : Int) (t : Nat) : List Int := (List.range (nsq s)).map (fun (i : Nat) => pl s f o js sq t i)
theorem placesL_len (s f o : Int) (js : List (Int × Int)) (sq : Int) (t : Nat) : (placesL s f o js sq t).length = nsq s := by simp [placesL]
def placesR (s f o : Int) (js : List (Int × Int)) (sq th : Int) : List Int × Bool := if asked s f o js sq && inB th 0 20 then (placesL s f o js sq th.toNat, true) else ([], false)
theorem placesR_len {s f o : Int} {js : List (Int × Int)} {sq th : Int} : (placesR s f o js sq th).1.length ≤ 1048576 := by
  unfold placesR
  by_cases h : (asked s f o js sq && inB th 0 20) = true
  · rw [if_pos h]
    rw [Bool.and_eq_true] at h
    have := good_sizes (asked_good h.1)
    simp only [placesL_len, nsq]
    omega
  · rw [if_neg h]; simp
end Go.Proofs.Ytnohpclaccaijab

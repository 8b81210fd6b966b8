/-
  Chapter 2, plain mathematics: those that come to the end just now, those that have not met a square before, most likely squares, averages, pairs of places.
-/
import Derived.Test.YtiekdokgjdgajabM3
namespace Go.Proofs.Ytiekdokgjdgajab

/-- Those that come to the end just by the last throw. -/
def justDone (s f o : Int) (js : List (Int × Int)) (sq : Int) : Nat → Int
  | 0 => pl s f o js sq 0 s
  | t + 1 => pl s f o js sq (t + 1) s - pl s f o js sq t s * f
theorem justDone_in {s f o : Int} {js : List (Int × Int)} (hg : good ⟨s, f, o, js⟩ = true) {sq : Int} (hq : onSq s js sq = true) : ∀ t : Nat, 0 ≤ justDone s f o js sq t ∧ justDone s f o js sq t ≤ f ^ t
  | 0 => ⟨pl_nonneg _ _ _ _ _ _ _, pl_le hg hq 0 s⟩
  | t + 1 => by
    have hz := good_sizes hg
    have h1 := pl_end hg sq t
    have h2 := pl_le hg hq (t + 1) s
    have h3 := Int.mul_nonneg (pl_nonneg s f o js sq t s) (show 0 ≤ f by omega)
    rw [justDone]
    omega

theorem sumTo_ext {F : Nat → Int} {m n : Nat} (hmn : m ≤ n) (h : ∀ i, m ≤ i → i < n → F i = 0) : sumTo F n = sumTo F m := by
  induction hmn with
  | refl => rfl
  | @step k hk ih => rw [sumTo, h k hk (by omega), ih fun i h1 h2 => h i h1 (by omega)]; omega

/-- Lists of t throws that lead to a square and have not met another one before. -/
def un (s f o : Int) (js : List (Int × Int)) (wt sq : Int) : Nat → Int → Int
  | 0, x => if x = sq then 1 else 0
  | t + 1, x => sumTo (fun i => (if (i : Int) = wt then 0 else un s f o js wt sq t i) * facesTo s o js i x f.toNat) (nsq s)
theorem ct_un (s f o : Int) (js : List (Int × Int)) (wt sq : Int) : ∀ (t : Nat) (x : Int), ct s f o js wt sq t x false = if x = wt then 0 else un s f o js wt sq t x
  | 0, x => by
    rw [ct, un]
    by_cases h : x = wt
    · by_cases h2 : x = sq
      · have : sq = wt := h2 ▸ h
        simp [h, this]
      · simp [h2]
    · by_cases h2 : x = sq
      · have : ¬ sq = wt := h2 ▸ h
        simp [h2, this]
      · simp [h, h2]
  | t + 1, x => by
    rw [ct, un]
    by_cases h : x = wt
    · rw [if_pos h, sumTo_congr (G := fun _ => 0) _ fun i _ => ?_, sumTo_zero]
      simp [nx, h]
    · rw [if_neg h]
      refine sumTo_congr _ fun i _ => ?_
      rw [ct_un s f o js wt sq t i]
      simp [nx, h]
/-- Lists of t throws that have met the square. -/
def mt (s f o : Int) (js : List (Int × Int)) (wt sq : Int) (t : Nat) : Int := sumTo (fun i => ct s f o js wt sq t i true) 101
theorem mt_nsq {s f o : Int} {js : List (Int × Int)} (hg : good ⟨s, f, o, js⟩ = true) {sq wt : Int} (hq : onSq s js sq = true) (t : Nat) : mt s f o js wt sq t = sumTo (fun i => ct s f o js wt sq t i true) (nsq s) := by
  have hz := good_sizes hg
  refine sumTo_ext (by unfold nsq; omega) fun i h1 _ => ?_
  by_cases h : ct s f o js wt sq t i true = 0
  · exact h
  · have := ct_on hg hq t i true h
    unfold nsq at h1; omega
theorem mt_zero {s f o : Int} {js : List (Int × Int)} (hg : good ⟨s, f, o, js⟩ = true) {sq wt : Int} (hq : onSq s js sq = true) : mt s f o js wt sq 0 = un s f o js wt sq 0 wt := by
  have hz := good_sizes hg
  have h := onSq_in hq
  rw [mt, un, sumTo_one (k := sq.toNat) (by omega) fun i _ hne => by rw [ct, if_neg (by omega)], ct]
  by_cases e : sq = wt
  · simp [e]; omega
  · have e' : ¬ wt = sq := fun h => e h.symm
    simp [e, e']
theorem mt_succ {s f o : Int} {js : List (Int × Int)} (hg : good ⟨s, f, o, js⟩ = true) {sq wt : Int} (hq : onSq s js sq = true) (hw : onSq s js wt = true) (t : Nat) : mt s f o js wt sq (t + 1) = mt s f o js wt sq t * f + un s f o js wt sq (t + 1) wt := by
  have hz := good_sizes hg
  have hwi := onSq_in hw
  rw [mt_nsq hg hq, mt_nsq hg hq, un, ← sumTo_mul]
  simp only [ct]
  rw [sumTo_comm, ← sumTo_add]
  refine sumTo_congr _ fun i _ => ?_
  rw [sumTo_add, sumTo_mulL, sumTo_mulL, ct_un]
  have e1 : sumTo (fun x => nx s o js wt i false x true f.toNat) (nsq s) = facesTo s o js i wt f.toNat := by
    rw [sumTo_one (k := wt.toNat) (by unfold nsq; omega) fun x _ hne => by
      have : ¬ (x : Int) = wt := by omega
      simp [nx, this]]
    have e : ((wt.toNat : Nat) : Int) = wt := by omega
    rw [e]; simp [nx]
  have e2 : ct s f o js wt sq t i true * sumTo (fun x => nx s o js wt i true x true f.toNat) (nsq s) = ct s f o js wt sq t i true * f := by
    by_cases h0 : ct s f o js wt sq t i true = 0
    · rw [h0, Int.zero_mul, Int.zero_mul]
    · obtain ⟨i0, i1, _⟩ := ct_on hg hq t i true h0
      rw [sumTo_congr (G := fun x => facesTo s o js i x f.toNat) _ fun x _ => by simp [nx], faces_all _ fun face hf => thrown_in hg i0 i1 hf]
      congr 1; omega
  rw [e1, e2]; omega
theorem un_nonneg (s f o : Int) (js : List (Int × Int)) (wt sq : Int) : ∀ (t : Nat) (x : Int), 0 ≤ un s f o js wt sq t x
  | 0, x => by rw [un]; split <;> omega
  | t + 1, x => by
    rw [un]
    refine sumTo_nonneg _ fun i _ => Int.mul_nonneg ?_ (facesTo_le _ _ _ _ _ _).1
    split
    · exact Int.le_refl _
    · exact un_nonneg s f o js wt sq t i
theorem un_pl (s f o : Int) (js : List (Int × Int)) (wt sq : Int) : ∀ (t : Nat) (x : Int), un s f o js wt sq t x ≤ pl s f o js sq t x
  | 0, x => by rw [un, pl]; omega
  | t + 1, x => by
    rw [un, pl]
    refine sumTo_le _ fun i _ => Int.mul_le_mul_of_nonneg_right ?_ (facesTo_le _ _ _ _ _ _).1
    have h1 := un_pl s f o js wt sq t i
    have h2 := pl_nonneg s f o js sq t i
    split <;> omega
/-- Those that go on from the first m squares, and by the first j faces from the next one. -/
theorem un_part {s f o : Int} {js : List (Int × Int)} (hg : good ⟨s, f, o, js⟩ = true) {sq : Int} (hq : onSq s js sq = true) (N : Nat → Int) (t : Nat) (hN : ∀ i : Nat, 0 ≤ N i ∧ N i ≤ pl s f o js sq t i) {m j : Nat} (hm : m < nsq s) (hj : j ≤ f.toNat) (x : Int) :
    0 ≤ sumTo (fun i => N i * facesTo s o js i x f.toNat) m + N m * facesTo s o js m x j ∧ sumTo (fun i => N i * facesTo s o js i x f.toNat) m + N m * facesTo s o js m x j ≤ f ^ (t + 1) := by
  have h := pl_part hg hq t hm hj x
  have h1 := sumTo_nonneg (F := fun i => N i * facesTo s o js i x f.toNat) m fun i _ => Int.mul_nonneg (hN i).1 (facesTo_le _ _ _ _ _ _).1
  have h2 := Int.mul_nonneg (hN m).1 (facesTo_le s o js m x j).1
  have h3 := sumTo_le (F := fun i => N i * facesTo s o js i x f.toNat) (G := fun i => pl s f o js sq t i * facesTo s o js i x f.toNat) m fun i _ => Int.mul_le_mul_of_nonneg_right (hN i).2 (facesTo_le _ _ _ _ _ _).1
  have h4 := Int.mul_le_mul_of_nonneg_right (hN m).2 (facesTo_le s o js m x j).1
  constructor <;> omega
theorem mt_le {s f o : Int} {js : List (Int × Int)} (hg : good ⟨s, f, o, js⟩ = true) {sq wt : Int} (hq : onSq s js sq = true) (t : Nat) : 0 ≤ mt s f o js wt sq t ∧ mt s f o js wt sq t ≤ f ^ t := by
  constructor
  · exact sumTo_nonneg _ fun i _ => ct_nonneg _ _ _ _ _ _ _ _ _
  · rw [mt_nsq hg hq, ← pl_all hg hq t]
    refine sumTo_le _ fun i _ => ?_
    have h1 := ct_nonneg s f o js wt sq t i false
    have h2 := ct_pl s f o js wt sq t i
    omega

/-- One square more: as the model asks, the most and the squares .. -/
def stepS (a : Int × List Int) (p k : Int) : Int × List Int :=
  if a.1 < p then (p, [k]) else if p = a.1 ∧ 0 < p then (a.1, a.2 ++ [k]) else a
/-- .. and as the program does. -/
def stepI (a : Int × List Int) (p k : Int) : Int × List Int :=
  if a.1 < p then (p, [k]) else if p = a.1 then (a.1, a.2 ++ [k]) else a
/-- Most likely squares of the first k. -/
def lkS (P : Nat → Int) : Nat → Int × List Int
  | 0 => (0, [])
  | k + 1 => stepS (lkS P k) (P k) k
def lkI (P : Nat → Int) : Nat → Int × List Int
  | 0 => (1, [])
  | k + 1 => stepI (lkI P k) (P k) k
theorem lk_both (P : Nat → Int) (hP : ∀ i, 0 ≤ P i) : ∀ k, (lkI P k).2 = (lkS P k).2 ∧ ((lkS P k).1 = 0 ∧ (lkS P k).2 = [] ∧ (lkI P k).1 = 1 ∨ 0 < (lkS P k).1 ∧ (lkI P k).1 = (lkS P k).1)
  | 0 => ⟨rfl, .inl ⟨rfl, rfl, rfl⟩⟩
  | k + 1 => by
    obtain ⟨h1, h2⟩ := lk_both P hP k
    have h4 := hP k
    rw [lkS, lkI]
    generalize lkS P k = a at *
    generalize lkI P k = b at *
    generalize P k = p at *
    obtain ⟨a1, a2⟩ := a
    obtain ⟨b1, b2⟩ := b
    simp only at h1 h2 ⊢
    subst h1
    unfold stepS stepI
    simp only
    rcases h2 with ⟨rfl, rfl, rfl⟩ | ⟨h3, rfl⟩
    · rcases Int.lt_trichotomy p 1 with h | h | h
      · obtain rfl : p = 0 := by omega
        simp
      · subst h; simp
      · rw [if_pos h, if_pos (show 0 < p by omega)]
        exact ⟨rfl, .inr ⟨by simp only; omega, rfl⟩⟩
    · by_cases h : b1 < p
      · rw [if_pos h, if_pos h]
        exact ⟨rfl, .inr ⟨by simp only; omega, rfl⟩⟩
      · rw [if_neg h, if_neg h]
        by_cases e : p = b1
        · rw [if_pos e, if_pos ⟨e, by omega⟩]
          exact ⟨rfl, .inr ⟨h3, rfl⟩⟩
        · rw [if_neg e, if_neg (fun h => e h.1)]
          exact ⟨rfl, .inr ⟨h3, rfl⟩⟩
theorem lkI_pos (P : Nat → Int) : ∀ k, 1 ≤ (lkI P k).1
  | 0 => Int.le_refl _
  | k + 1 => by
    have h := lkI_pos P k
    rw [lkI, stepI]
    split
    · simp only; omega
    · split <;> exact h
theorem lkI_more {P : Nat → Int} {m : Nat} (n : Nat) (hmn : m ≤ n) (h : ∀ i, m ≤ i → i < n → P i = 0) : (lkI P n).2 = (lkI P m).2 := by
  induction hmn with
  | refl => rfl
  | @step k hk ih =>
    have hz := h k hk (by omega)
    have := lkI_pos P k
    rw [lkI, stepI, hz, if_neg (by omega), if_neg (by omega)]
    exact ih fun i a b => h i a (by omega)
theorem lkS_len (P : Nat → Int) : ∀ k, (lkS P k).2.length ≤ k
  | 0 => Nat.le_refl _
  | k + 1 => by
    have h := lkS_len P k
    rw [lkS, stepS]
    split
    · simp
    · split
      · simp; omega
      · omega
theorem lkI_len (P : Nat → Int) : ∀ k, (lkI P k).2.length ≤ k
  | 0 => Nat.le_refl _
  | k + 1 => by
    have h := lkI_len P k
    rw [lkI, stepI]
    split
    · simp
    · split
      · simp; omega
      · omega
end Go.Proofs.Ytiekdokgjdgajab

/-
  Races: a throw; states as numbers, the program's and the model's. Plain mathematics.
-/
import Derived.Test.YtknclgfjoajldabM22
namespace Go.Proofs.Ytknclgfjoajldab

/-- Who has won. -/
def wonR (s x y : Int) : Int := if x = s then 1 else if y = s then 2 else 0
/-- Where both are behind a throw, and whether one is sent back. -/
def stepR (s o : Int) (js : List (Int × Int)) (me x y : Int) (sec : Bool) (face : Int) : (Int × Int) × Bool :=
  if wonR s x y ≠ 0 then ((x, y), false)
  else if sec then
    (if me = 1 ∧ thrown s o js y face = x ∧ thrown s o js y face ≠ y ∧ thrown s o js y face ≠ 0 then ((0, thrown s o js y face), true) else ((x, thrown s o js y face), false))
  else
    (if me = 1 ∧ thrown s o js x face = y ∧ thrown s o js x face ≠ x ∧ thrown s o js x face ≠ 0 then ((thrown s o js x face, 0), true) else ((thrown s o js x face, y), false))
theorem wonR_iff {s x y : Int} : wonR s x y = 0 ↔ x ≠ s ∧ y ≠ s := by
  unfold wonR
  by_cases h1 : x = s
  · simp [h1]
  · by_cases h2 : y = s <;> simp [h1, h2]
theorem wonR_range (s x y : Int) : wonR s x y = 0 ∨ wonR s x y = 1 ∨ wonR s x y = 2 := by
  unfold wonR
  split
  · exact .inr (.inl rfl)
  · split
    · exact .inr (.inr rfl)
    · exact .inl rfl
/-- A square that a token can be on. -/
def sqR (s : Int) (js : List (Int × Int)) (x : Int) : Prop := 0 ≤ x ∧ x ≤ s ∧ jumpOf js x = x
theorem sqR_of {s : Int} {js : List (Int × Int)} {x : Int} (h : onSq s js x = true) : sqR s js x := ⟨(onSq_in h).1, (onSq_in h).2, onSq_fix h⟩
section
variable {s f o : Int} {js : List (Int × Int)} {me x y face : Int} {sec : Bool}
theorem sqR_zero (hg : good ⟨s, f, o, js⟩ = true) : sqR s js 0 := by
  have hz := good_sizes hg
  refine ⟨by omega, by omega, jumpOf_none js 0 fun j hj e => ?_⟩
  have h1 : jumpsOk s 0 js = true := by
    unfold good at hg
    simp only [Bool.and_eq_true] at hg
    exact hg.1.2
  rw [jumpsOk_eq, Bool.and_eq_true] at h1
  have := chainB_lt js 0 h1.2 j hj
  omega
theorem sqR_thrown (hg : good ⟨s, f, o, js⟩ = true) (hx : sqR s js x) (hf : 1 ≤ face) : sqR s js (thrown s o js x face) :=
  ⟨(thrown_in hg hx.1 hx.2.1 hf).1, (thrown_in hg hx.1 hx.2.1 hf).2, thrown_fix hg hx.2.2⟩
theorem stepR_sq (hg : good ⟨s, f, o, js⟩ = true) (hx : sqR s js x) (hy : sqR s js y) (hf : 1 ≤ face) : sqR s js (stepR s o js me x y sec face).1.1 ∧ sqR s js (stepR s o js me x y sec face).1.2 := by
  have h0 := sqR_zero hg
  have h1 := sqR_thrown hg hx hf
  have h2 := sqR_thrown hg hy hf
  unfold stepR
  split
  · exact ⟨hx, hy⟩
  · split
    · split
      · exact ⟨h0, h2⟩
      · exact ⟨hx, h2⟩
    · split
      · exact ⟨h1, h0⟩
      · exact ⟨h1, hy⟩
theorem stepR_won (h : wonR s x y ≠ 0) : stepR s o js me x y sec face = ((x, y), false) := by unfold stepR; rw [if_pos h]
/-- Who comes to the end is the one that was thrown for. -/
theorem stepR_who (hg : good ⟨s, f, o, js⟩ = true) (h : wonR s x y = 0) (hw : wonR s (stepR s o js me x y sec face).1.1 (stepR s o js me x y sec face).1.2 ≠ 0) : ((stepR s o js me x y sec face).1.1 = s ↔ sec = false) := by
  have hz := good_sizes hg
  obtain ⟨hx, hy⟩ := wonR_iff.1 h
  unfold stepR at hw ⊢
  rw [if_neg (by rw [h]; simp)] at hw ⊢
  cases sec
  · simp only [Bool.false_eq_true, if_false] at hw ⊢
    split at hw
    · rename_i hc
      rw [if_pos hc]
      rw [ne_eq, wonR_iff] at hw
      simp only [iff_true]
      exact Classical.byContradiction fun hn => hw ⟨hn, by dsimp only; omega⟩
    · rename_i hc
      rw [if_neg hc]
      rw [ne_eq, wonR_iff] at hw
      simp only [iff_true]
      exact Classical.byContradiction fun hn => hw ⟨hn, hy⟩
  · simp only [if_true] at hw ⊢
    split at hw
    · rename_i hc
      rw [if_pos hc]
      simp only [Bool.true_eq_false, iff_false]
      omega
    · rename_i hc
      rw [if_neg hc]
      simpa using hx
end

/-- A state as a number: both squares, and which token is to be thrown for. -/
def Dx (W q : Nat) : Nat := q / 2 / W
def Dy (W q : Nat) : Nat := q / 2 % W
def Dt (q : Nat) : Nat := q % 2
def cd (W x y t : Nat) : Nat := (x * W + y) * 2 + t
theorem cd_half {W x y t : Nat} (ht : t < 2) : cd W x y t / 2 = x * W + y := by unfold cd; omega
theorem Dx_cd {W x y t : Nat} (hy : y < W) (ht : t < 2) : Dx W (cd W x y t) = x := by
  unfold Dx; rw [cd_half ht, Nat.mul_comm, Nat.mul_add_div (by omega), Nat.div_eq_of_lt hy, Nat.add_zero]
theorem Dy_cd {W x y t : Nat} (hy : y < W) (ht : t < 2) : Dy W (cd W x y t) = y := by
  unfold Dy; rw [cd_half ht, Nat.mul_comm, Nat.mul_add_mod, Nat.mod_eq_of_lt hy]
theorem Dt_cd {W x y t : Nat} (ht : t < 2) : Dt (cd W x y t) = t := by unfold Dt cd; omega
theorem cd_D {W q : Nat} : cd W (Dx W q) (Dy W q) (Dt q) = q := by
  unfold cd Dx Dy Dt
  have h1 := Nat.div_add_mod (q / 2) W
  rw [Nat.mul_comm] at h1
  rw [h1]
  omega
theorem cd_lt {W x y t : Nat} (hx : x < W) (hy : y < W) (ht : t < 2) : cd W x y t < 2 * (W * W) := by
  unfold cd
  have h1 : x * W ≤ (W - 1) * W := Nat.mul_le_mul_right _ (by omega)
  have h2 : (W - 1) * W + W = W * W := by
    rw [← Nat.succ_mul]; congr 1; omega
  omega
theorem cd_inj {W x y t x' y' t' : Nat} (hy : y < W) (ht : t < 2) (hy' : y' < W) (ht' : t' < 2) (h : cd W x y t = cd W x' y' t') : x = x' ∧ y = y' ∧ t = t' := by
  refine ⟨?_, ?_, ?_⟩
  · rw [← Dx_cd (x := x) hy ht, h, Dx_cd hy' ht']
  · rw [← Dy_cd (x := x) hy ht, h, Dy_cd hy' ht']
  · rw [← Dt_cd (W := W) (x := x) (y := y) ht, h, Dt_cd ht']

/-- Who has won in a state. -/
def wonQ (s : Int) (q : Nat) : Int := wonR s (Dx (s.toNat + 1) q : Nat) (Dy (s.toNat + 1) q : Nat)
/-- The state behind a throw, the program's: with the token that is to be thrown for next. -/
def nxP (s o : Int) (js : List (Int × Int)) (me : Int) (q face : Nat) : Nat :=
  if wonQ s q ≠ 0 then q else
    cd (s.toNat + 1) (stepR s o js me (Dx (s.toNat + 1) q : Nat) (Dy (s.toNat + 1) q : Nat) (Dt q == 1) face).1.1.toNat (stepR s o js me (Dx (s.toNat + 1) q : Nat) (Dy (s.toNat + 1) q : Nat) (Dt q == 1) face).1.2.toNat (1 - Dt q)
/-- Where somebody has won it is held as if First were to be thrown for. -/
def muQ (s : Int) (q : Nat) : Nat := if wonQ s q ≠ 0 then q / 2 * 2 else q
/-- The state behind a throw, the model's. -/
def nxS (s o : Int) (js : List (Int × Int)) (me : Int) (q face : Nat) : Nat := if wonQ s q ≠ 0 then q else muQ s (nxP s o js me q face)
/-- A state of a race. -/
def okQ (s : Int) (js : List (Int × Int)) (q : Nat) : Prop := sqR s js (Dx (s.toNat + 1) q : Nat) ∧ sqR s js (Dy (s.toNat + 1) q : Nat)
section
variable {s f o : Int} {js : List (Int × Int)} {me : Int} {q face : Nat}
theorem okQ_cd {x y : Int} {t : Nat} (hx : sqR s js x) (hy : sqR s js y) (ht : t < 2) : okQ s js (cd (s.toNat + 1) x.toNat y.toNat t) := by
  have h2 := hy.2.1
  have h1 := hy.1
  have h3 := hx.1
  unfold okQ
  rw [Dx_cd (by omega) ht, Dy_cd (by omega) ht, show ((x.toNat : Nat) : Int) = x by omega, show ((y.toNat : Nat) : Int) = y by omega]
  exact ⟨hx, hy⟩
theorem okQ_lt (h : okQ s js q) : q < 2 * ((s.toNat + 1) * (s.toNat + 1)) := by
  rw [← cd_D (W := s.toNat + 1) (q := q)]
  have h1 := h.1.2.1
  have h2 := h.2.2.1
  exact cd_lt (by omega) (by omega) (by unfold Dt; omega)
theorem wonQ_cd {x y : Int} {t : Nat} (hx : sqR s js x) (hy : sqR s js y) (ht : t < 2) : wonQ s (cd (s.toNat + 1) x.toNat y.toNat t) = wonR s x y := by
  have h2 := hy.2.1
  have h1 := hy.1
  have h3 := hx.1
  unfold wonQ
  rw [Dx_cd (by omega) ht, Dy_cd (by omega) ht, show ((x.toNat : Nat) : Int) = x by omega, show ((y.toNat : Nat) : Int) = y by omega]
theorem half_twice (q : Nat) : q / 2 * 2 / 2 = q / 2 := by omega
theorem D_half (W q : Nat) : Dx W (q / 2 * 2) = Dx W q ∧ Dy W (q / 2 * 2) = Dy W q ∧ Dt (q / 2 * 2) = 0 := by
  unfold Dx Dy Dt
  rw [half_twice]
  exact ⟨rfl, rfl, by omega⟩
theorem wonQ_mu : wonQ s (muQ s q) = wonQ s q := by
  unfold muQ
  split
  · unfold wonQ
    rw [(D_half _ q).1, (D_half _ q).2.1]
  · rfl
theorem okQ_mu (h : okQ s js q) : okQ s js (muQ s q) := by
  unfold muQ
  split
  · unfold okQ
    rw [(D_half _ q).1, (D_half _ q).2.1]
    exact h
  · exact h
theorem okQ_nxP (hg : good ⟨s, f, o, js⟩ = true) (h : okQ s js q) (hf : 1 ≤ face) : okQ s js (nxP s o js me q face) := by
  unfold nxP
  split
  · exact h
  · have hs := stepR_sq (o := o) (me := me) (sec := Dt q == 1) (face := face) hg h.1 h.2 (by omega)
    exact okQ_cd hs.1 hs.2 (by omega)
theorem okQ_nxS (hg : good ⟨s, f, o, js⟩ = true) (h : okQ s js q) (hf : 1 ≤ face) : okQ s js (nxS s o js me q face) := by
  unfold nxS
  split
  · exact h
  · exact okQ_mu (okQ_nxP hg h hf)
theorem nxP_won (h : wonQ s q ≠ 0) : nxP s o js me q face = q := by unfold nxP; rw [if_pos h]
theorem nxS_won (h : wonQ s q ≠ 0) : nxS s o js me q face = q := by unfold nxS; rw [if_pos h]
theorem nxS_mu : nxS s o js me (muQ s q) face = muQ s (nxP s o js me q face) := by
  by_cases h : wonQ s q = 0
  · have e : muQ s q = q := by unfold muQ; rw [if_neg (by simp [h])]
    rw [e]; unfold nxS; rw [if_neg (by simp [h])]
  · rw [nxP_won h, nxS_won (by rw [wonQ_mu]; exact h)]
/-- A won state that a throw led to tells for whom it would be thrown. -/
theorem nxP_tok (hg : good ⟨s, f, o, js⟩ = true) (h : okQ s js q) (hf : 1 ≤ face) (h0 : wonQ s q = 0) (hw : wonQ s (nxP s o js me q face) ≠ 0) : Dt (nxP s o js me q face) = if (Dx (s.toNat + 1) (nxP s o js me q face) : Int) = s then 1 else 0 := by
  have hs := stepR_sq (o := o) (me := me) (sec := Dt q == 1) (face := face) hg h.1 h.2 (by omega)
  have h1 := hs.1.1; have h2 := hs.2.1; have h3 := hs.2.2.1
  have hwho := stepR_who (o := o) (me := me) (sec := Dt q == 1) (face := face) hg h0
  have e : nxP s o js me q face = cd (s.toNat + 1) (stepR s o js me (Dx (s.toNat + 1) q : Nat) (Dy (s.toNat + 1) q : Nat) (Dt q == 1) face).1.1.toNat (stepR s o js me (Dx (s.toNat + 1) q : Nat) (Dy (s.toNat + 1) q : Nat) (Dt q == 1) face).1.2.toNat (1 - Dt q) := by unfold nxP; rw [if_neg (by simp [h0])]
  rw [e] at hw ⊢
  rw [wonQ_cd hs.1 hs.2 (by omega)] at hw
  have hi := hwho hw
  rw [Dt_cd (by omega), Dx_cd (by omega) (by omega), Int.toNat_of_nonneg h1]
  have hd : Dt q = 0 ∨ Dt q = 1 := by unfold Dt; omega
  rcases hd with hd | hd
  · rw [if_pos (hi.2 (by rw [hd]; rfl)), hd]
  · rw [if_neg (fun h => by have := hi.1 h; rw [hd] at this; cases this), hd]
theorem reach_ok (hg : good ⟨s, f, o, js⟩ = true) {m q0 z : Nat} (h0 : okQ s js q0) (h : Rch (nxP s o js me) m q0 z) : okQ s js z := by
  induction h with
  | refl => exact h0
  | step _ h1 _ ih => exact okQ_nxP hg ih h1
theorem reach_tok (hg : good ⟨s, f, o, js⟩ = true) {m q0 z : Nat} (h0 : okQ s js q0) (h : Rch (nxP s o js me) m q0 z) : z = q0 ∨ wonQ s z = 0 ∨ Dt z = if (Dx (s.toNat + 1) z : Int) = s then 1 else 0 := by
  induction h with
  | refl => exact .inl rfl
  | @step x face hx h1 h2 ih =>
    by_cases hw : wonQ s x = 0
    · by_cases hn : wonQ s (nxP s o js me x face) = 0
      · exact .inr (.inl hn)
      · exact .inr (.inr (nxP_tok hg (reach_ok hg h0 hx) h1 hw hn))
    · rw [nxP_won hw]; exact ih
theorem reach_won {m q0 z : Nat} (hw : wonQ s q0 ≠ 0) (h : Rch (nxP s o js me) m q0 z) : z = q0 := by
  induction h with
  | refl => rfl
  | step _ _ _ ih => rw [ih, nxP_won hw]
/-- Held for one, states that are reached stay different. -/
theorem mu_inj (hg : good ⟨s, f, o, js⟩ = true) {m q0 z z' : Nat} (h0 : okQ s js q0) (h : Rch (nxP s o js me) m q0 z) (h' : Rch (nxP s o js me) m q0 z') (e : muQ s z = muQ s z') : z = z' := by
  by_cases hq : wonQ s q0 = 0
  · have hw : wonQ s z = wonQ s z' := by rw [← wonQ_mu (q := z), ← wonQ_mu (q := z'), e]
    by_cases h1 : wonQ s z = 0
    · have e1 : muQ s z = z := by unfold muQ; rw [if_neg (by simp [h1])]
      have e2 : muQ s z' = z' := by unfold muQ; rw [if_neg (by rw [← hw]; simp [h1])]
      rw [← e1, ← e2, e]
    · have h2 : wonQ s z' ≠ 0 := by rw [← hw]; exact h1
      have t1 : Dt z = if (Dx (s.toNat + 1) z : Int) = s then 1 else 0 := by
        rcases reach_tok hg h0 h with e | e | e
        · subst e; exact absurd hq h1
        · exact absurd e h1
        · exact e
      have t2 : Dt z' = if (Dx (s.toNat + 1) z' : Int) = s then 1 else 0 := by
        rcases reach_tok hg h0 h' with e | e | e
        · subst e; exact absurd hq h2
        · exact absurd e h2
        · exact e
      have e1 : muQ s z = z / 2 * 2 := by unfold muQ; rw [if_pos h1]
      have e2 : muQ s z' = z' / 2 * 2 := by unfold muQ; rw [if_pos h2]
      have e3 : z / 2 = z' / 2 := by rw [e1, e2] at e; omega
      have e4 : Dx (s.toNat + 1) z = Dx (s.toNat + 1) z' := by unfold Dx; rw [e3]
      rw [e4, ← t2] at t1
      unfold Dt at t1
      omega
  · rw [reach_won hq h, reach_won hq h']
theorem reach_mu {m q0 : Nat} (hq : muQ s q0 = q0) (z : Nat) : Rch (nxS s o js me) m q0 z ↔ ∃ z', Rch (nxP s o js me) m q0 z' ∧ muQ s z' = z := by
  constructor
  · intro h
    induction h with
    | refl => exact ⟨q0, .refl, hq⟩
    | step _ h1 h2 ih =>
      obtain ⟨z', hz, rfl⟩ := ih
      exact ⟨_, hz.step h1 h2, nxS_mu.symm⟩
  · rintro ⟨z', h, rfl⟩
    induction h with
    | refl => rw [hq]; exact .refl
    | step _ h1 h2 ih => rw [← nxS_mu]; exact ih.step h1 h2
/-- Both searches come to as many states. -/
theorem count_both (hg : good ⟨s, f, o, js⟩ = true) {m q0 : Nat} (h0 : okQ s js q0) (hq : muQ s q0 = q0) {P S : List Nat} (hP : P.Nodup) (hS : S.Nodup) (h1 : ∀ z, z ∈ P ↔ Rch (nxP s o js me) m q0 z) (h2 : ∀ z, z ∈ S ↔ Rch (nxS s o js me) m q0 z) : P.length = S.length := by
  have e : (P.map (muQ s)).length = P.length := by simp
  rw [← e]
  refine nodup_len ?_ hS fun z => ?_
  · refine List.pairwise_map.2 (List.Pairwise.imp_of_mem (fun {a b} ha hb hab e => hab ?_) hP)
    exact mu_inj hg h0 ((h1 a).1 ha) ((h1 b).1 hb) e
  · rw [h2, reach_mu hq, List.mem_map]
    constructor
    · rintro ⟨a, ha, rfl⟩; exact ⟨a, (h1 a).1 ha, rfl⟩
    · rintro ⟨a, ha, rfl⟩; exact ⟨a, (h1 a).2 ha, rfl⟩
theorem win_both {m : Nat} {who : Int} (xs : List Nat) (q : Nat) : WinL (nxS s o js me) (wonQ s) m who (muQ s q) xs ↔ WinL (nxP s o js me) (wonQ s) m who q xs :=
  winL_map (won' := wonQ s) (μ := muQ s) (ok := fun _ => True) (fun _ _ => wonQ_mu) (fun _ _ _ _ _ _ => ⟨nxS_mu, trivial⟩) xs q trivial
end
end Go.Proofs.Ytknclgfjoajldab

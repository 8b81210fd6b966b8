/-
  Plain mathematics of the best ladder: which ladders may be put in, the best one of a list. Nothing of the program.
-/
import Derived.Test.YtndodohngeaklaaM8
import Derived.Test.YtndodohngeaklaaM12
namespace Go.Proofs.Ytndodohngeaklaa

theorem jumpOf_mem {js : List (Int × Int)} (h : js.Pairwise UpS) {j : Int × Int} (hj : j ∈ js) : jumpOf js j.1 = j.2 := by
  obtain ⟨i, hi, e, r⟩ := jumpOf_hit js j.1 ⟨j, hj, rfl⟩
  rw [r, upS_inj js h i hi j hj e]
theorem put_sub (js : List (Int × Int)) (j : Int × Int) : js.Sublist (put js j) := by
  conv => lhs; rw [← List.take_append_drop (place js j.1 js.length) js]
  exact (List.Sublist.refl _).append (List.sublist_cons_self _ _)
theorem put_has (js : List (Int × Int)) (j : Int × Int) : j ∈ put js j := (put_perm js j).mem_iff.2 (by simp)
theorem put_old {js : List (Int × Int)} {i : Int × Int} (j : Int × Int) (h : i ∈ js) : i ∈ put js j := (put_sub js j).subset h
theorem jumpOf_put {js : List (Int × Int)} {a b : Int} (hp : (put js (a, b)).Pairwise UpS) (x : Int) : jumpOf (put js (a, b)) x = if x = a then b else jumpOf js x := by
  by_cases hx : x = a
  · rw [if_pos hx, hx]; exact jumpOf_mem hp (put_has js (a, b))
  · rw [if_neg hx]
    by_cases he : ∃ j ∈ js, j.1 = x
    · obtain ⟨j, hj, e⟩ := he
      rw [← e, jumpOf_mem hp (put_old (a, b) hj), jumpOf_mem (hp.sublist (put_sub js (a, b))) hj]
    · rw [jumpOf_none js x fun j hj e => he ⟨j, hj, e⟩, jumpOf_none]
      intro j hj e
      rcases put_mem hj with rfl | hj
      · exact hx e.symm
      · exact he ⟨j, hj, e⟩
/-- Nothing begins at a square that stays. -/
theorem no_from {s f o : Int} {js : List (Int × Int)} (hg : good ⟨s, f, o, js⟩ = true) {x : Int} (hx : jumpOf js x = x) : ∀ j ∈ js, j.1 ≠ x := by
  intro j hj e
  have h1 := jumpOf_mem (good_upS hg) hj
  rw [e, hx] at h1
  exact good_ne hg j hj (by rw [e, h1])
theorem good_to {s f o : Int} {js : List (Int × Int)} (hg : good ⟨s, f, o, js⟩ = true) {j : Int × Int} (hj : j ∈ js) : jumpOf js j.2 = j.2 := by
  rw [good, Bool.and_eq_true] at hg
  simpa using List.all_eq_true.1 hg.2 j hj
theorem good_ends {s f o : Int} {js : List (Int × Int)} (hg : good ⟨s, f, o, js⟩ = true) {j : Int × Int} (hj : j ∈ js) : (1 ≤ j.1 ∧ j.1 ≤ s - 1) ∧ 0 ≤ j.2 ∧ j.2 ≤ s := by
  rw [good, Bool.and_eq_true, Bool.and_eq_true, jumpsOk_eq, Bool.and_eq_true] at hg
  have := List.all_eq_true.1 hg.1.2.1 j hj
  simp only [okJump, Bool.and_eq_true, inB_iff] at this
  exact ⟨this.1.1, this.1.2⟩
theorem good_put {s f o : Int} {js : List (Int × Int)} {a b : Int} (hg : good ⟨s, f, o, js⟩ = true) (h20 : js.length < 20) (ha : 1 ≤ a) (hab : a < b) (hbs : b ≤ s) :
    good ⟨s, f, o, put js (a, b)⟩ = ((onSq s js a && onSq s js b) && !(js.any (fun j => j.2 == a))) := by
  have hz := good_sizes hg
  rw [Bool.eq_iff_iff]
  simp only [Bool.and_eq_true, Bool.not_eq_true', onSq, inB_iff, beq_iff_eq]
  constructor
  · intro h
    have hu := good_upS h
    have hjp := jumpOf_put hu
    have hn : (put js (a, b)).Nodup := hu.imp fun h e => by subst e; simp only [UpS] at h; omega
    have hna : ∀ j ∈ js, j.1 ≠ a := by
      intro j hj e
      have h1 := upS_inj _ hu j (put_old (a, b) hj) (a, b) (put_has js (a, b)) e
      have h2 : ((a, b) :: js).Nodup := (put_perm js (a, b)).nodup_iff.1 hn
      rw [List.nodup_cons] at h2
      exact h2.1 (h1 ▸ hj)
    have h3 := good_to h (put_has js (a, b))
    refine ⟨⟨⟨by omega, jumpOf_none js a hna⟩, ⟨by omega, ?_⟩⟩, ?_⟩
    · dsimp only at h3
      rw [hjp, if_neg (by omega)] at h3; exact h3
    · rw [← Bool.not_eq_true, List.any_eq_true]
      rintro ⟨j, hj, e⟩
      have h4 := good_to h (put_old (a, b) hj)
      have e' : j.2 = a := by simpa using e
      rw [e', hjp, if_pos rfl] at h4
      omega
  · rintro ⟨⟨⟨_, h1⟩, ⟨_, h2⟩⟩, h3⟩
    rw [← Bool.not_eq_true, List.any_eq_true] at h3
    have hna := no_from hg h1
    have hnb := no_from hg h2
    have hup := put_up (upS_up (good_upS hg)) (a, b)
    have hups : (put js (a, b)).Pairwise UpS := by
      have hnd : ((put js (a, b)).map (·.1)).Nodup := by
        have hp : ((put js (a, b)).map (·.1)).Perm (a :: js.map (·.1)) := (put_perm js (a, b)).map _
        rw [hp.nodup_iff, List.nodup_cons]
        refine ⟨fun hm => ?_, ?_⟩
        · obtain ⟨j, hj, e⟩ := List.mem_map.1 hm
          exact hna j hj e
        · rw [List.Nodup, List.pairwise_map]
          exact (good_upS hg).imp fun h e => by simp only [UpS] at h; omega
      rw [List.Nodup, List.pairwise_map] at hnd
      exact (hup.and hnd).imp fun h => by
        have h1 := h.1; have h2 := h.2
        simp only [Up] at h1; simp only [UpS]; omega
    have hjp := jumpOf_put hups
    rw [good, Bool.and_eq_true, Bool.and_eq_true, jumpsOk_eq, Bool.and_eq_true]
    refine ⟨⟨sizes_iff.2 ⟨hz.1, hz.2.1, hz.2.2.1, by rw [put_len]; omega⟩, List.all_eq_true.2 fun j hj => ?_, upS_chain _ _ (fun j hj => ?_) hups⟩, List.all_eq_true.2 fun j hj => ?_⟩
    · rcases put_mem hj with rfl | hj
      · simp only [okJump, Bool.and_eq_true, inB_iff, Bool.not_eq_true', beq_eq_false_iff_ne]
        refine ⟨⟨?_, ?_⟩, ?_⟩ <;> first | omega | (constructor <;> omega)
      · have := good_ends hg hj
        have := good_ne hg j hj
        simp only [okJump, Bool.and_eq_true, inB_iff, Bool.not_eq_true', beq_eq_false_iff_ne]
        refine ⟨⟨?_, ?_⟩, ?_⟩ <;> first | omega | assumption | (constructor <;> omega)
    · rcases put_mem hj with rfl | hj
      · dsimp only; omega
      · have := good_ends hg hj; omega
    · rw [beq_iff_eq]
      rcases put_mem hj with rfl | hj
      · rw [hjp, if_neg (by dsimp only; omega)]; exact h2
      · rw [hjp, if_neg (fun e => h3 ⟨j, hj, by simpa using e⟩)]; exact good_to hg hj

/-- The ladders of row a, of the first n ends; those of the first n rows. -/
def rowL (P : Int × Int → Bool) (a : Nat) (n : Nat) : List (Int × Int) := ((List.range n).map (fun t : Nat => ((a : Int), (a : Int) + 1 + (t : Int)))).filter P
def rowsL (P : Int × Int → Bool) (S : Nat) (n : Nat) : List (Int × Int) := (List.range n).flatMap (fun i => rowL P (i + 1) (S - (i + 1)))
theorem rowL_zero (P : Int × Int → Bool) (a : Nat) : rowL P a 0 = [] := rfl
theorem rowL_succ (P : Int × Int → Bool) (a n : Nat) : rowL P a (n + 1) = rowL P a n ++ if P ((a : Int), (a : Int) + 1 + (n : Int)) then [((a : Int), (a : Int) + 1 + (n : Int))] else [] := by
  unfold rowL
  rw [List.range_succ, List.map_append, List.filter_append]
  cases h : P ((a : Int), (a : Int) + 1 + (n : Int)) <;> simp [h]
theorem rowsL_succ (P : Int × Int → Bool) (S n : Nat) : rowsL P S (n + 1) = rowsL P S n ++ rowL P (n + 1) (S - (n + 1)) := by
  unfold rowsL
  rw [List.range_succ, List.flatMap_append]; simp
theorem rowL_len (P : Int × Int → Bool) (a n : Nat) : (rowL P a n).length ≤ n := by
  unfold rowL
  refine Nat.le_trans (List.length_filter_le _ _) ?_
  simp
theorem rowsL_len (P : Int × Int → Bool) (S : Nat) : ∀ n, (rowsL P S n).length ≤ n * S
  | 0 => by simp [rowsL]
  | n + 1 => by
    rw [rowsL_succ, List.length_append]
    have := rowsL_len P S n
    have := rowL_len P (n + 1) (S - (n + 1))
    rw [Nat.add_mul, Nat.one_mul]; omega
theorem rowL_none {P : Int × Int → Bool} {a m : Nat} (h : ∀ t : Nat, t < m → P ((a : Int), (a : Int) + 1 + (t : Int)) = false) : ∀ n, n ≤ m → rowL P a n = []
  | 0, _ => rfl
  | n + 1, hn => by rw [rowL_succ, h n hn, rowL_none h n (by omega)]; rfl
theorem rowL_mem {P : Int × Int → Bool} {a n : Nat} {p : Int × Int} (h : p ∈ rowL P a n) : P p = true ∧ p.1 = a ∧ (a : Int) < p.2 ∧ p.2 ≤ a + n := by
  unfold rowL at h
  obtain ⟨h1, h2⟩ := List.mem_filter.1 h
  obtain ⟨t, ht, rfl⟩ := List.mem_map.1 h1
  have := List.mem_range.1 ht
  exact ⟨h2, rfl, by dsimp only; omega, by dsimp only; omega⟩
theorem rowsL_mem {P : Int × Int → Bool} {S n : Nat} (hn : n ≤ S) {p : Int × Int} (h : p ∈ rowsL P S n) : P p = true ∧ 1 ≤ p.1 ∧ p.1 ≤ n ∧ p.1 < p.2 ∧ p.2 ≤ S := by
  unfold rowsL at h
  obtain ⟨i, hi, h1⟩ := List.mem_flatMap.1 h
  have := List.mem_range.1 hi
  obtain ⟨h2, h3, h4, h5⟩ := rowL_mem h1
  refine ⟨h2, ?_, ?_, ?_, ?_⟩ <;> omega

/-- The best one by now: the first one of the least value. -/
def better (V : Int × Int → Option Nat) (acc : Option ((Int × Int) × Nat)) (p : Int × Int) : Option ((Int × Int) × Nat) :=
  match V p with
  | none => acc
  | some n => match acc with
    | none => some (p, n)
    | some q => if n < q.2 then some (p, n) else some q
def bst (V : Int × Int → Option Nat) (l : List (Int × Int)) : Option ((Int × Int) × Nat) := l.foldl (better V) none
theorem bst_snoc (V : Int × Int → Option Nat) (l : List (Int × Int)) (p : Int × Int) : bst V (l ++ [p]) = better V (bst V l) p := by
  unfold bst; rw [List.foldl_append]; rfl
theorem better_no {V : Int × Int → Option Nat} {p : Int × Int} (h : V p = none) (acc : Option ((Int × Int) × Nat)) : better V acc p = acc := by simp [better, h]
theorem better_first {V : Int × Int → Option Nat} {p : Int × Int} {n : Nat} (h : V p = some n) : better V none p = some (p, n) := by simp [better, h]
theorem better_less {V : Int × Int → Option Nat} {p q : Int × Int} {n m : Nat} (h : V p = some n) (hl : n < m) : better V (some (q, m)) p = some (p, n) := by simp [better, h, hl]
theorem better_not {V : Int × Int → Option Nat} {p q : Int × Int} {n m : Nat} (h : V p = some n) (hl : ¬ n < m) : better V (some (q, m)) p = some (q, m) := by simp [better, h, hl]
/-- How few throws a board with a ladder needs from the start. -/
def ValOf (s f o : Int) (js : List (Int × Int)) (V : Int × Int → Option Nat) : Prop :=
  ∀ p, (∀ t, Least (fun t => Way (eB s f o (put js p)) 0 t s.toNat) t → V p = some t) ∧ ((∀ t, ¬ Way (eB s f o (put js p)) 0 t s.toNat) → V p = none)
theorem valOf_ex (s f o : Int) (js : List (Int × Int)) : ∃ V, ValOf s f o js V := by
  refine ⟨fun p => @dite _ (∃ t, Least (fun t => Way (eB s f o (put js p)) 0 t s.toNat) t) (Classical.propDecidable _) (fun h => some (Classical.choose h)) (fun _ => none), fun p => ⟨fun t ht => ?_, fun hn => ?_⟩⟩
  · have hex : ∃ t, Least (fun t => Way (eB s f o (put js p)) 0 t s.toNat) t := ⟨t, ht⟩
    simp only [dif_pos hex]
    rw [(Classical.choose_spec hex).uniq ht]
  · have hex : ¬ ∃ t, Least (fun t => Way (eB s f o (put js p)) 0 t s.toNat) t := fun ⟨t, ht⟩ => hn t ht.1
    simp only [dif_neg hex]
/-- What is told of the best one by now. -/
def stP : Option ((Int × Int) × Nat) → Int × Int
  | none => (0, 0)
  | some q => q.1
def stN : Option ((Int × Int) × Nat) → Int
  | none => 0
  | some q => (q.2 : Int)
def stL : Option ((Int × Int) × Nat) → Int
  | none => -1
  | some q => (q.2 : Int)
def stF : Option ((Int × Int) × Nat) → Bool
  | none => false
  | some _ => true
end Go.Proofs.Ytndodohngeaklaa

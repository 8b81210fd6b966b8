/-
  Plain mathematics: a jump put in its place, taken out, jumps turned and sorted anew. Nothing of the program.
-/
import Derived.Test.YtndodohngeaklaaM1
namespace Go.Proofs.Ytndodohngeaklaa

/-- The place of a From among the first n jumps, from behind. -/
def place (js : List (Int × Int)) (x : Int) : Nat → Nat
  | 0 => 0
  | k + 1 => if x < (js.getD k (0, 0)).1 then place js x k else k + 1
def put (js : List (Int × Int)) (j : Int × Int) : List (Int × Int) := js.take (place js j.1 js.length) ++ j :: js.drop (place js j.1 js.length)
theorem place_le (js : List (Int × Int)) (x : Int) : ∀ n, place js x n ≤ n
  | 0 => Nat.le_refl _
  | k + 1 => by
    rw [place]
    split
    · exact Nat.le_succ_of_le (place_le js x k)
    · exact Nat.le_refl _
theorem place_above (js : List (Int × Int)) (x : Int) : ∀ n i, place js x n ≤ i → i < n → x < (js.getD i (0, 0)).1
  | 0, i, _, h => by omega
  | k + 1, i, h1, h2 => by
    rw [place] at h1
    split at h1
    · rename_i hx
      by_cases e : i = k
      · subst e; exact hx
      · exact place_above js x k i h1 (by omega)
    · omega
theorem place_at (js : List (Int × Int)) (x : Int) : ∀ n, 0 < place js x n → (js.getD (place js x n - 1) (0, 0)).1 ≤ x
  | 0, h => by simp [place] at h
  | k + 1, h => by
    rw [place] at h ⊢
    split
    · rename_i hx
      rw [if_pos hx] at h
      exact place_at js x k h
    · simp only [Nat.add_sub_cancel]; omega
theorem put_len (js : List (Int × Int)) (j : Int × Int) : (put js j).length = js.length + 1 := by
  have := place_le js j.1 js.length
  simp [put]; omega
theorem put_perm (js : List (Int × Int)) (j : Int × Int) : (put js j).Perm (j :: js) := by
  unfold put
  refine List.perm_middle.trans ?_
  rw [List.take_append_drop]
theorem put_mem {js : List (Int × Int)} {j i : Int × Int} (h : i ∈ put js j) : i = j ∨ i ∈ js := by
  have := (put_perm js j).mem_iff.1 h
  simpa using this

abbrev Up (a b : Int × Int) : Prop := a.1 ≤ b.1
abbrev UpS (a b : Int × Int) : Prop := a.1 < b.1
theorem upS_up {a : List (Int × Int)} (h : a.Pairwise UpS) : a.Pairwise Up := h.imp fun h => Int.le_of_lt h
theorem up_get {a : List (Int × Int)} (h : a.Pairwise Up) {i k : Nat} (hik : i ≤ k) (hk : k < a.length) : (a[i]'(by omega)).1 ≤ a[k].1 := by
  rcases Nat.lt_or_ge i k with h1 | h1
  · exact List.pairwise_iff_getElem.1 h i k (by omega) hk h1
  · obtain rfl : i = k := by omega
    exact Int.le_refl _
theorem put_up {js : List (Int × Int)} (h : js.Pairwise Up) (j : Int × Int) : (put js j).Pairwise Up := by
  have hp := place_le js j.1 js.length
  have h1 : ∀ i ∈ js.take (place js j.1 js.length), i.1 ≤ j.1 := by
    intro i hi
    obtain ⟨k, hk, rfl⟩ := List.mem_iff_getElem.1 hi
    simp only [List.length_take] at hk
    rw [List.getElem_take]
    have hq := place_at js j.1 js.length (by omega)
    have hq2 : place js j.1 js.length - 1 < js.length := by omega
    rw [List.getD_eq_getElem?_getD, List.getElem?_eq_getElem hq2, Option.getD_some] at hq
    have := up_get h (show k ≤ place js j.1 js.length - 1 by omega) hq2
    omega
  have h2 : ∀ i ∈ js.drop (place js j.1 js.length), j.1 ≤ i.1 := by
    intro i hi
    obtain ⟨k, hk, rfl⟩ := List.mem_iff_getElem.1 hi
    simp only [List.length_drop] at hk
    rw [List.getElem_drop]
    have hq2 : place js j.1 js.length + k < js.length := by omega
    have hq := place_above js j.1 js.length (place js j.1 js.length + k) (by omega) hq2
    rw [List.getD_eq_getElem?_getD, List.getElem?_eq_getElem hq2, Option.getD_some] at hq
    omega
  unfold put
  rw [List.pairwise_append, List.pairwise_cons]
  refine ⟨h.sublist (List.take_sublist _ _), ⟨h2, h.sublist (List.drop_sublist _ _)⟩, fun a ha b hb => ?_⟩
  rcases List.mem_cons.1 hb with rfl | hb
  · exact h1 a ha
  · have := h1 a ha; have := h2 b hb; show a.1 ≤ b.1; omega

theorem chain_upS : ∀ (js : List (Int × Int)) (p : Int), chainB p js = true → js.Pairwise UpS
  | [], _, _ => .nil
  | j :: t, p, h => by
    simp only [chainB, Bool.and_eq_true, decide_eq_true_eq] at h
    exact .cons (fun i hi => chainB_lt t j.1 h.2 i hi) (chain_upS t j.1 h.2)
theorem upS_chain : ∀ (js : List (Int × Int)) (p : Int), (∀ j ∈ js, p < j.1) → js.Pairwise UpS → chainB p js = true
  | [], _, _, _ => rfl
  | j :: t, p, h, hp => by
    rw [List.pairwise_cons] at hp
    simp only [chainB, Bool.and_eq_true, decide_eq_true_eq]
    exact ⟨h j (by simp), upS_chain t j.1 hp.1 hp.2⟩
theorem good_upS {s f o : Int} {js : List (Int × Int)} (h : good ⟨s, f, o, js⟩ = true) : js.Pairwise UpS := by
  rw [good, Bool.and_eq_true, Bool.and_eq_true, jumpsOk_eq, Bool.and_eq_true] at h
  exact chain_upS js 0 h.1.2.2
theorem upS_inj : ∀ (a : List (Int × Int)), a.Pairwise UpS → ∀ x ∈ a, ∀ y ∈ a, x.1 = y.1 → x = y
  | [], _, x, hx, _, _, _ => by simp at hx
  | j :: t, h, x, hx, y, hy, e => by
    rw [List.pairwise_cons] at h
    rcases List.mem_cons.1 hx with ex | hx <;> rcases List.mem_cons.1 hy with ey | hy
    · rw [ex, ey]
    · have := h.1 y hy; subst ex; simp only [UpS] at this; omega
    · have := h.1 x hx; subst ey; simp only [UpS] at this; omega
    · exact upS_inj t h.2 x hx y hy e
theorem up_same {a b : List (Int × Int)} (ha : a.Pairwise UpS) (hb : b.Pairwise Up) (hp : a.Perm b) : a = b :=
  List.Perm.eq_of_pairwise (le := Up) (fun x y hx hy h1 h2 => upS_inj a ha x hx y (hp.mem_iff.2 hy) (by simp only [Up] at h1 h2; omega)) (upS_up ha) hb hp
/-- Two lists of the same jumps, both ordered: if one is good they are one. -/
theorem good_same {s f o : Int} {a b : List (Int × Int)} (ha : a.Pairwise Up) (hb : b.Pairwise Up) (hp : a.Perm b) :
    good ⟨s, f, o, a⟩ = good ⟨s, f, o, b⟩ ∧ (good ⟨s, f, o, b⟩ = true → a = b) := by
  have h1 : good ⟨s, f, o, b⟩ = true → a = b := fun h => (up_same (good_upS h) ha hp.symm).symm
  have h2 : good ⟨s, f, o, a⟩ = true → a = b := fun h => up_same (good_upS h) hb hp
  refine ⟨?_, h1⟩
  cases ea : good ⟨s, f, o, a⟩ <;> cases eb : good ⟨s, f, o, b⟩
  · rfl
  · rw [h1 eb, eb] at ea; cases ea
  · rw [← h2 ea, ea] at eb; cases eb
  · rfl

/-- Part of a board's jumps make a board. -/
theorem good_part {s f o : Int} {js : List (Int × Int)} (h : good ⟨s, f, o, js⟩ = true) (p : Int × Int → Bool) : good ⟨s, f, o, js.filter p⟩ = true := by
  have hz := good_sizes h
  have hu := good_upS h
  rw [good, Bool.and_eq_true, Bool.and_eq_true, jumpsOk_eq, Bool.and_eq_true] at h ⊢
  obtain ⟨⟨h1, h2, h3⟩, h4⟩ := h
  have hl := List.length_filter_le p js
  have hm : ∀ j ∈ js.filter p, j ∈ js := fun j hj => (List.mem_filter.1 hj).1
  refine ⟨⟨sizes_iff.2 ⟨hz.1, hz.2.1, hz.2.2.1, by omega⟩, List.all_eq_true.2 fun j hj => List.all_eq_true.1 h2 j (hm j hj), upS_chain _ _ (fun j hj => chainB_lt _ _ h3 j (hm j hj)) (hu.sublist List.filter_sublist)⟩, List.all_eq_true.2 fun j hj => ?_⟩
  have hj4 : jumpOf js j.2 = j.2 := by simpa using List.all_eq_true.1 h4 j (hm j hj)
  have hn : ∀ i ∈ js, i.1 ≠ j.2 := by
    intro i hi e
    obtain ⟨i', hi', e', r⟩ := jumpOf_hit js j.2 ⟨i, hi, e⟩
    have := List.all_eq_true.1 h2 i' hi'
    simp only [okJump, Bool.and_eq_true, Bool.not_eq_true', beq_eq_false_iff_ne] at this
    exact this.2 (by rw [e', ← r, hj4])
  simpa using jumpOf_none (js.filter p) j.2 fun i hi => hn i (hm i hi)

abbrev BdR := (Int × Int × Int × List (Int × Int)) × Bool
def noBd : BdR := ((0, 0, 0, []), false)
/-- AddJump. -/
def addR (s f o : Int) (js : List (Int × Int)) (j : Int × Int) : BdR :=
  if good ⟨s, f, o, js⟩ && good ⟨s, f, o, put js j⟩ then ((s, f, o, put js j), true) else noBd
def notFrom (x : Int) (j : Int × Int) : Bool := j.1 != x
/-- DropJump. -/
def dropR (s f o : Int) (js : List (Int × Int)) (x : Int) : BdR :=
  if good ⟨s, f, o, js⟩ && js.any (fun j => j.1 == x) then ((s, f, o, js.filter (notFrom x)), true) else noBd
def turnOf (j : Int × Int) : Int × Int := (j.2, j.1)
def turned (js : List (Int × Int)) : List (Int × Int) := js.foldl (fun l j => put l (turnOf j)) []
/-- TurnJumps. -/
def turnR (s f o : Int) (js : List (Int × Int)) : BdR :=
  if good ⟨s, f, o, js⟩ && good ⟨s, f, o, turned js⟩ then ((s, f, o, turned js), true) else noBd
theorem turned_aux : ∀ (js l : List (Int × Int)), l.Pairwise Up → (js.foldl (fun l j => put l (turnOf j)) l).Pairwise Up ∧ (js.foldl (fun l j => put l (turnOf j)) l).Perm (js.map turnOf ++ l)
  | [], l, h => ⟨h, .refl _⟩
  | j :: t, l, h => by
    have := turned_aux t (put l (turnOf j)) (put_up h _)
    refine ⟨this.1, this.2.trans ?_⟩
    rw [List.map_cons, List.cons_append]
    exact ((put_perm l (turnOf j)).append_left _).trans List.perm_middle
theorem turned_up (js : List (Int × Int)) : (turned js).Pairwise Up := (turned_aux js [] .nil).1
theorem turned_perm (js : List (Int × Int)) : (turned js).Perm (js.map turnOf) := by have := (turned_aux js [] .nil).2; rwa [List.append_nil] at this
theorem turned_snoc (js : List (Int × Int)) (k : Nat) (hk : k < js.length) : turned (js.take (k + 1)) = put (turned (js.take k)) (turnOf js[k]) := by
  rw [List.take_succ_eq_append_getElem hk, turned, List.foldl_append]; rfl
theorem turned_len (js : List (Int × Int)) : (turned js).length = js.length := by simpa using (turned_perm js).length_eq
theorem addR_len {s f o : Int} {js : List (Int × Int)} {j : Int × Int} : (addR s f o js j).1.2.2.2.length ≤ 1048576 := by
  unfold addR
  split
  · rename_i h
    simp only [Bool.and_eq_true] at h
    have := good_sizes h.2
    simp only; omega
  · simp [noBd]
theorem dropR_len {s f o : Int} {js : List (Int × Int)} {x : Int} : (dropR s f o js x).1.2.2.2.length ≤ 1048576 := by
  unfold dropR
  split
  · rename_i h
    simp only [Bool.and_eq_true] at h
    have := good_sizes h.1
    have := List.length_filter_le (notFrom x) js
    simp only; omega
  · simp [noBd]
theorem turnR_len {s f o : Int} {js : List (Int × Int)} : (turnR s f o js).1.2.2.2.length ≤ 1048576 := by
  unfold turnR
  split
  · rename_i h
    simp only [Bool.and_eq_true] at h
    have := good_sizes h.2
    simp only; omega
  · simp [noBd]
/-- The first jump that begins at a square taken out. -/
theorem drop_first {js : List (Int × Int)} (h : js.Pairwise UpS) {k : Nat} (hk : k < js.length) (x : Int) (e : js[k].1 = x) : js.take k ++ js.drop (k + 1) = js.filter (notFrom x) := by
  have hh : js = js.take k ++ js[k] :: js.drop (k + 1) := by rw [← List.drop_eq_getElem_cons hk, List.take_append_drop]
  have hp := h
  rw [hh, List.pairwise_append, List.pairwise_cons] at hp
  conv => rhs; rw [hh]
  rw [List.filter_append, List.filter_cons, if_neg (by simp [notFrom, e])]
  rw [List.filter_eq_self.2 (fun j hj => ?_), List.filter_eq_self.2 (fun j hj => ?_)]
  · have := hp.2.1.1 j hj; simp only [UpS] at this; simp only [notFrom, bne_iff_ne]; omega
  · have := hp.2.2 j hj js[k] (List.mem_cons_self ..); simp only [UpS] at this; simp only [notFrom, bne_iff_ne]; omega
theorem any_drop (js : List (Int × Int)) (x : Int) (k : Nat) (hk : k < js.length) : (js.drop k).any (fun j => j.1 == x) = ((js[k].1 == x) || (js.drop (k + 1)).any (fun j => j.1 == x)) := by
  rw [List.drop_eq_getElem_cons hk, List.any_cons]
theorem filter_all_len (js : List (Int × Int)) (x : Int) : ((js.filter (notFrom x)).length = js.length) ↔ js.any (fun j => j.1 == x) = false := by
  rw [List.length_filter_eq_length_iff, ← Bool.not_eq_true, List.any_eq_true]
  simp only [notFrom, bne_iff_ne, beq_iff_eq, not_exists, not_and]
end Go.Proofs.Ytndodohngeaklaa

/-
  Races: the list of ways that the program makes (breadth first, face by face) holds each state that is reached once, in the order of the ways to them; the first way that wins is the first of the shortest. Plain mathematics.
-/
import Derived.Test.YtknclgfjoajldabM21
namespace Go.Proofs.Ytknclgfjoajldab

/-- An entry: the state that it leads to, the last throw, the entry before it, and all throws. -/
structure We where
  q : Nat
  face : Nat
  before : Nat
  path : List Nat
structure Ways (nx : Nat → Nat → Nat) (won : Nat → Int) (m : Nat) (ok : Nat → Prop) (q0 : Nat) (L : List We) (d j : Nat) : Prop where
  pos : 0 < L.length
  start : ∀ h : 0 < L.length, L[0] = ⟨q0, 0, 0, []⟩
  apart : (L.map (·.q)).Nodup
  on : ∀ e ∈ L, ok e.q
  par : ∀ i (h : i < L.length), 0 < i → ∃ (hb : L[i].before < i), won (L[L[i].before]'(by omega)).q = 0 ∧ 1 ≤ L[i].face ∧ L[i].face ≤ m ∧ L[i].q = nx (L[L[i].before]'(by omega)).q L[i].face ∧ L[i].path = (L[L[i].before]'(by omega)).path ++ [L[i].face] ∧ (L[i].before < d ∨ (L[i].before = d ∧ L[i].face ≤ j))
  sorted : ∀ i k (h : i < k) (hk : k < L.length), slt (L[i]'(by omega)).path L[k].path
  closed : ∀ i (h : i < L.length) face, won L[i].q = 0 → 1 ≤ face → face ≤ m → (i < d ∨ (i = d ∧ face ≤ j)) → ∃ k, ∃ hk : k < L.length, L[k].q = nx L[i].q face ∧ (L[k].path = L[i].path ++ [face] ∨ slt L[k].path (L[i].path ++ [face]))
section
variable {nx : Nat → Nat → Nat} {won : Nat → Int} {m : Nat} {ok : Nat → Prop} {q0 : Nat} {L : List We} {d j : Nat}
theorem Ways.begin (hq : ok q0) : Ways nx won m ok q0 [⟨q0, 0, 0, []⟩] 0 0 where
  pos := by simp
  start := fun _ => rfl
  apart := by simp
  on := by simpa using hq
  par := fun i h h0 => by simp at h; omega
  sorted := fun i k h hk => by simp at hk; omega
  closed := fun i h face _ h1 _ hd => by omega
theorem Ways.len {n : Nat} (h : Ways nx won m ok q0 L d j) (hn : ∀ x, ok x → x < n) : L.length ≤ n := by
  have := pigeonN _ n h.apart fun x hx => by
    obtain ⟨e, he, rfl⟩ := List.mem_map.1 hx
    exact hn _ (h.on e he)
  simpa using this
/-- All ways made by now come before the next one. -/
theorem Ways.less (h : Ways nx won m ok q0 L d j) (hd : d < L.length) (k : Nat) (hk : k < L.length) {f : Nat} (hf : j < f) : slt L[k].path (L[d].path ++ [f]) := by
  by_cases h0 : k = 0
  · subst h0
    rw [h.start hk]
    exact .inl (by simp)
  · obtain ⟨hb, _, _, _, _, hp, ho⟩ := h.par k hk (by omega)
    rw [hp]
    rcases ho with ho | ⟨ho, hj⟩
    · exact slt_snoc (h.sorted _ _ ho hd) _ _
    · have e : (L[L[k].before]'(by omega)).path = L[d].path := by congr 1; simp only [ho]
      rw [e]
      exact slt_last _ (by omega)
theorem Ways.push (h : Ways nx won m ok q0 L d j) (hd : d < L.length) (hw : won L[d].q = 0) (hj : j < m) {y : Nat} (hy : nx L[d].q (j + 1) = y) (hok : ok y) (hn : ∀ e ∈ L, e.q ≠ y) : Ways nx won m ok q0 (L ++ [⟨y, j + 1, d, L[d].path ++ [j + 1]⟩]) d (j + 1) where
  pos := by simp
  start := fun _ => by rw [List.getElem_append_left h.pos]; exact h.start h.pos
  apart := by
    rw [List.map_append, List.nodup_append]
    refine ⟨h.apart, by simp, fun a ha b hb => ?_⟩
    rintro rfl
    obtain ⟨e, he, rfl⟩ := List.mem_map.1 ha
    exact hn e he (by simpa using hb)
  on := fun e he => by
    rcases List.mem_append.1 he with he | he
    · exact h.on e he
    · obtain rfl := List.mem_singleton.1 he
      exact hok
  par := fun i hi h0 => by
    by_cases hl : i < L.length
    · have e : (L ++ [(⟨y, j + 1, d, L[d].path ++ [j + 1]⟩ : We)])[i] = L[i] := List.getElem_append_left hl
      obtain ⟨hb, a1, a2, a3, a4, a5, a6⟩ := h.par i hl h0
      have hb' : (L ++ [(⟨y, j + 1, d, L[d].path ++ [j + 1]⟩ : We)])[i].before < i := by rw [e]; exact hb
      have e2 : (L ++ [(⟨y, j + 1, d, L[d].path ++ [j + 1]⟩ : We)])[(L ++ [(⟨y, j + 1, d, L[d].path ++ [j + 1]⟩ : We)])[i].before]'(by omega) = L[L[i].before]'(by omega) := by
        rw [List.getElem_append_left (by omega)]
        simp only [e]
      refine ⟨hb', ?_, ?_, ?_, ?_, ?_, ?_⟩
      · rw [e2]; exact a1
      · rw [e]; exact a2
      · rw [e]; exact a3
      · rw [e2, e]; exact a4
      · rw [e2, e]; exact a5
      · rw [e]; omega
    · have hi' : i = L.length := by simp at hi; omega
      subst hi'
      have e : (L ++ [(⟨y, j + 1, d, L[d].path ++ [j + 1]⟩ : We)])[L.length] = ⟨y, j + 1, d, L[d].path ++ [j + 1]⟩ := by simp
      have hb' : (L ++ [(⟨y, j + 1, d, L[d].path ++ [j + 1]⟩ : We)])[L.length].before < L.length := by rw [e]; exact hd
      have e2 : (L ++ [(⟨y, j + 1, d, L[d].path ++ [j + 1]⟩ : We)])[(L ++ [(⟨y, j + 1, d, L[d].path ++ [j + 1]⟩ : We)])[L.length].before]'(by omega) = L[d] := by
        rw [List.getElem_append_left (by omega)]
        simp only [e]
      refine ⟨hb', ?_, ?_, ?_, ?_, ?_, ?_⟩
      · rw [e2]; exact hw
      · rw [e]; simp
      · rw [e]; exact hj
      · rw [e2, e]; exact hy.symm
      · rw [e2, e]
      · rw [e]; exact .inr ⟨rfl, Nat.le_refl _⟩
  sorted := fun i k hik hk => by
    by_cases hl : k < L.length
    · rw [List.getElem_append_left (by omega), List.getElem_append_left hl]
      exact h.sorted i k hik hl
    · have hk' : k = L.length := by simp at hk; omega
      subst hk'
      rw [List.getElem_append_left hik]
      have e : (L ++ [(⟨y, j + 1, d, L[d].path ++ [j + 1]⟩ : We)])[L.length] = ⟨y, j + 1, d, L[d].path ++ [j + 1]⟩ := by simp
      rw [e]
      exact h.less hd i hik (by omega)
  closed := fun i hi face hwi h1 h2 ho => by
    have hl : i < L.length := by omega
    have e : (L ++ [(⟨y, j + 1, d, L[d].path ++ [j + 1]⟩ : We)])[i] = L[i] := List.getElem_append_left hl
    rw [e] at hwi ⊢
    by_cases hnew : i = d ∧ face = j + 1
    · obtain ⟨rfl, rfl⟩ := hnew
      refine ⟨L.length, by simp, ?_, .inl ?_⟩
      · simpa using hy.symm
      · simp
    · obtain ⟨k, hk, a, b⟩ := h.closed i hl face hwi h1 h2 (by omega)
      refine ⟨k, by simp; omega, ?_, ?_⟩
      · rw [List.getElem_append_left hk]; exact a
      · rw [List.getElem_append_left hk]; exact b
theorem Ways.skip (h : Ways nx won m ok q0 L d j) (hd : d < L.length) {y : Nat} (hy : nx L[d].q (j + 1) = y) (hm : ∃ e ∈ L, e.q = y) : Ways nx won m ok q0 L d (j + 1) where
  pos := h.pos
  start := h.start
  apart := h.apart
  on := h.on
  par := fun i hi h0 => by
    obtain ⟨hb, a1, a2, a3, a4, a5, a6⟩ := h.par i hi h0
    exact ⟨hb, a1, a2, a3, a4, a5, by omega⟩
  sorted := h.sorted
  closed := fun i hi face hwi h1 h2 ho => by
    by_cases hnew : i = d ∧ face = j + 1
    · obtain ⟨rfl, rfl⟩ := hnew
      obtain ⟨e, he, hq⟩ := hm
      obtain ⟨k, hk, rfl⟩ := List.getElem_of_mem he
      exact ⟨k, hk, by rw [hq, hy], .inr (h.less hd k hk (by omega))⟩
    · exact h.closed i hi face hwi h1 h2 (by omega)
theorem Ways.done (h : Ways nx won m ok q0 L d j) (hd : d < L.length) (hj : m ≤ j ∨ won L[d].q ≠ 0) : Ways nx won m ok q0 L (d + 1) 0 where
  pos := h.pos
  start := h.start
  apart := h.apart
  on := h.on
  par := fun i hi h0 => by
    obtain ⟨hb, a1, a2, a3, a4, a5, a6⟩ := h.par i hi h0
    exact ⟨hb, a1, a2, a3, a4, a5, by omega⟩
  sorted := h.sorted
  closed := fun i hi face hwi h1 h2 ho => by
    by_cases hdi : i = d
    · subst hdi
      rcases hj with hj | hj
      · exact h.closed i hi face hwi h1 h2 (by omega)
      · exact absurd hwi hj
    · exact h.closed i hi face hwi h1 h2 (by omega)
theorem Ways.reach (h : Ways nx won m ok q0 L d j) : ∀ i (hi : i < L.length), Rch nx m q0 L[i].q := by
  intro i
  induction i using Nat.strongRecOn with
  | ind i ih =>
    intro hi
    by_cases h0 : i = 0
    · subst h0; rw [h.start hi]; exact .refl
    · obtain ⟨hb, _, a2, a3, a4, _⟩ := h.par i hi (by omega)
      rw [a4]
      exact (ih _ hb (by omega)).step a2 a3
/-- All is done: the states are those that are reached. -/
theorem Ways.all (h : Ways nx won m ok q0 L L.length 0) (hs : ∀ x face, won x ≠ 0 → nx x face = x) (z : Nat) : z ∈ L.map (·.q) ↔ Rch nx m q0 z := by
  constructor
  · intro hz
    obtain ⟨e, he, rfl⟩ := List.mem_map.1 hz
    obtain ⟨i, hi, rfl⟩ := List.getElem_of_mem he
    exact h.reach i hi
  · intro hz
    induction hz with
    | refl =>
      refine List.mem_map.2 ⟨L[0]'h.pos, List.getElem_mem _, ?_⟩
      rw [h.start h.pos]
    | @step x face hx h1 h2 ih =>
      obtain ⟨e, he, rfl⟩ := List.mem_map.1 ih
      obtain ⟨i, hi, rfl⟩ := List.getElem_of_mem he
      by_cases hw : won L[i].q = 0
      · obtain ⟨k, hk, hq, _⟩ := h.closed i hi face hw h1 h2 (.inl hi)
        exact List.mem_map.2 ⟨L[k], List.getElem_mem _, hq⟩
      · rw [hs _ _ hw]
        exact ih
theorem Ways.wins {who : Int} (h : Ways nx won m ok q0 L d j) : ∀ i (hi : i < L.length) (ys : List Nat), WinL nx won m who L[i].q ys → WinL nx won m who q0 (L[i].path ++ ys) := by
  intro i
  induction i using Nat.strongRecOn with
  | ind i ih =>
    intro hi ys hy
    by_cases h0 : i = 0
    · subst h0; rw [h.start hi] at hy ⊢; exact hy
    · obtain ⟨hb, a1, a2, a3, a4, a5, _⟩ := h.par i hi (by omega)
      rw [a4] at hy
      have := ih _ hb (by omega) (L[i].face :: ys) (.cons a1 a2 a3 hy)
      rw [a5]
      simpa using this
theorem slt_app {a b : List Nat} (h : slt a b) (c : List Nat) : slt (a ++ c) (b ++ c) := by
  rcases h with h | ⟨e, h⟩
  · exact .inl (by simp; omega)
  · exact .inr ⟨by simp; omega, lexlt_app a b _ _ e h⟩
theorem Ways.least {who : Int} (_ : 0 < who) (h : Ways nx won m ok q0 L L.length 0) : ∀ (ys : List Nat) i (hi : i < L.length), WinL nx won m who L[i].q ys → ∃ k, ∃ hk : k < L.length, won L[k].q = who ∧ (L[k].path = L[i].path ++ ys ∨ slt L[k].path (L[i].path ++ ys)) := by
  intro ys
  induction ys with
  | nil =>
    intro i hi hy
    cases hy with
    | nil h => exact ⟨i, hi, h, .inl (by simp)⟩
  | cons face zs ih =>
    intro i hi hy
    cases hy with
    | cons h0 h1 h2 hs =>
      obtain ⟨k, hk, hq, hp⟩ := h.closed i hi face h0 h1 h2 (.inl hi)
      rw [← hq] at hs
      obtain ⟨k2, hk2, hw2, hp2⟩ := ih k hk hs
      refine ⟨k2, hk2, hw2, ?_⟩
      have e : L[i].path ++ face :: zs = (L[i].path ++ [face]) ++ zs := by simp
      rw [e]
      rcases hp with hp | hp
      · rw [hp] at hp2; exact hp2
      · have h3 := slt_app hp zs
        rcases hp2 with hp2 | hp2
        · exact .inr (by rw [hp2]; exact h3)
        · exact .inr (slt_trans hp2 h3)
/-- The first entry that wins. -/
theorem Ways.first {who : Int} (hw : 0 < who) (h : Ways nx won m ok q0 L L.length 0) {i : Nat} (hi : i < L.length) (hwi : won L[i].q = who) (hno : ∀ k (hk : k < i), won (L[k]'(by omega)).q ≠ who) : FirstW nx won m who q0 L[i].path := by
  refine ⟨by have := h.wins i hi [] (.nil hwi); simpa using this, fun ys hy => ?_⟩
  have hs := h.start h.pos
  obtain ⟨k, hk, hwk, hp⟩ := h.least hw ys 0 h.pos (by rw [hs]; exact hy)
  rw [hs] at hp
  simp only [List.nil_append] at hp
  have hik : i ≤ k := by
    rcases Nat.lt_or_ge k i with hl | hl
    · exact absurd hwk (hno k hl)
    · exact hl
  by_cases e : i = k
  · subst e; exact hp
  · have hs2 := h.sorted i k (by omega) hk
    rcases hp with hp | hp
    · rw [hp] at hs2; exact .inr hs2
    · exact .inr (slt_trans hs2 hp)
theorem Ways.none {who : Int} (hw : 0 < who) (h : Ways nx won m ok q0 L L.length 0) (hno : ∀ k (hk : k < L.length), won L[k].q ≠ who) (ys : List Nat) : ¬ WinL nx won m who q0 ys := fun hy => by
  have hs := h.start h.pos
  obtain ⟨k, hk, hwk, _⟩ := h.least hw ys 0 h.pos (by rw [hs]; exact hy)
  exact hno k hk hwk
end
/-- Two lists of the same, each once, are as long. -/
theorem nodup_len {l u : List Nat} (hl : l.Nodup) (hu : u.Nodup) (h : ∀ x, x ∈ l ↔ x ∈ u) : l.length = u.length := by
  have key : ∀ (l u : List Nat), l.Nodup → (∀ x ∈ l, x ∈ u) → l.length ≤ u.length := by
    intro l
    induction l with
    | nil => intro u _ _; simp
    | cons x l ih =>
      intro u hp hs
      obtain ⟨h1, h2⟩ := List.nodup_cons.1 hp
      obtain ⟨a, b, rfl⟩ := List.append_of_mem (hs x (by simp))
      have := ih (a ++ b) h2 fun y hy => by
        have hy' := hs y (by simp [hy])
        simp only [List.mem_append, List.mem_cons] at hy' ⊢
        rcases hy' with h | h | h
        · exact .inl h
        · exact absurd (h ▸ hy) h1
        · exact .inr h
      simp at this ⊢; omega
  exact Nat.le_antisymm (key l u hl fun x hx => (h x).1 hx) (key u l hu fun x hx => (h x).2 hx)
end Go.Proofs.Ytknclgfjoajldab

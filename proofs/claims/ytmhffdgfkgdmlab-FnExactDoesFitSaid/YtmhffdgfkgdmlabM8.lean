/-
  Breadth first: how far squares are. Plain mathematics, over any edges.
-/
import Derived.Test.YtmhffdgfkgdmlabM7
namespace Go.Proofs.Ytmhffdgfkgdmlab

/-- A way of so many edges from q. -/
inductive Way (E : Nat → Nat → Prop) (q : Nat) : Nat → Nat → Prop
  | refl : Way E q 0 q
  | step {t x y : Nat} (h : Way E q t x) (e : E x y) : Way E q (t + 1) y
/-- The least number of edges. -/
def Least (W : Nat → Prop) (t : Nat) : Prop := W t ∧ ∀ t', W t' → t ≤ t'
theorem Least.uniq {W : Nat → Prop} {a b : Nat} (h : Least W a) (k : Least W b) : a = b := Nat.le_antisymm (h.2 _ k.1) (k.2 _ h.1)
def setN (L : Nat → Nat) (y v : Nat) : Nat → Nat := fun i => if i = y then v else L i

/-- F: what has been met; L: how far it is; D: what is done; T: what is to do. -/
structure Bfs (E : Nat → Nat → Prop) (ok : Nat → Prop) (q : Nat) (F : Nat → Bool) (L : Nat → Nat) (D T : List Nat) : Prop where
  on : ∀ x, x ∈ D ∨ x ∈ T → ok x ∧ Way E q (L x) x
  seen : ∀ x, F x = true ↔ x ∈ D ∨ x ∈ T
  apart : (D ++ T).Nodup
  closed : ∀ x ∈ D, ∀ y, E x y → F y = true ∧ L y ≤ L x + 1
  has : F q = true
  zero : L q = 0
  rest : ∀ y, F y = false → L y = 0
  sorted : T.Pairwise (fun a b => L a ≤ L b)
  near : ∀ x T', T = x :: T' → ∀ z, z ∈ D ∨ z ∈ T → L z ≤ L x + 1
section
variable {E : Nat → Nat → Prop} {q : Nat} {ok : Nat → Prop} {F : Nat → Bool} {L : Nat → Nat} {D T : List Nat} {x y : Nat}
theorem Bfs.start (hq : ok q) : Bfs E ok q (fun i => i == q) (fun _ => 0) [] [q] where
  on := fun x h => by
    obtain rfl : x = q := by simpa using h
    exact ⟨hq, .refl⟩
  seen := fun x => by simp
  apart := by simp
  closed := fun x h => by simp at h
  has := by simp
  zero := rfl
  rest := fun _ _ => rfl
  sorted := by simp
  near := fun _ _ _ _ _ => by simp
theorem Bfs.len {n : Nat} (h : Bfs E ok q F L D T) (hn : ∀ x, ok x → x < n) : D.length + T.length ≤ n := by
  have := pigeonN _ n h.apart fun x hx => hn x (h.on x (by simpa using hx)).1
  simpa using this
/-- A square that was met before is near enough. -/
theorem Bfs.met (h : Bfs E ok q F L D (x :: T)) (hF : F y = true) : L y ≤ L x + 1 := h.near x T rfl y ((h.seen y).1 hF)
theorem Bfs.push (h : Bfs E ok q F L D (x :: T)) (he : E x y) (hy : ok y) (hF : F y = false) : Bfs E ok q (setB F y) (setN L y (L x + 1)) D (x :: (T ++ [y])) where
  on := fun z hz => by
    unfold setN
    by_cases e : z = y
    · subst e
      rw [if_pos rfl]
      exact ⟨hy, (h.on x (.inr (by simp))).2.step he⟩
    · rw [if_neg e]
      exact h.on z (by simpa [e] using hz)
  seen := fun z => by
    unfold setB
    by_cases e : z = y
    · simp [e]
    · have := h.seen z
      simp [e, this]
  apart := by
    have hn : ¬ (y ∈ D ∨ y ∈ x :: T) := fun hy => by rw [(h.seen y).2 hy] at hF; cases hF
    rw [← List.cons_append, ← List.append_assoc, List.nodup_append]
    refine ⟨h.apart, by simp, fun a ha b hb => ?_⟩
    rintro rfl
    obtain rfl : a = y := by simpa using hb
    exact hn (by simpa using ha)
  closed := fun z hz w hw => by
    have hc := h.closed z hz w hw
    have hzy : z ≠ y := fun e => by subst e; rw [(h.seen z).2 (.inl hz)] at hF; cases hF
    have hwy : w ≠ y := fun e => by subst e; rw [hc.1] at hF; cases hF
    unfold setB setN
    rw [if_neg hwy, if_neg hwy, if_neg hzy]
    exact hc
  has := by
    unfold setB
    split
    · rfl
    · exact h.has
  zero := by
    unfold setN
    rw [if_neg (fun e => by subst e; rw [h.has] at hF; cases hF)]
    exact h.zero
  rest := fun z hz => by
    unfold setB at hz
    unfold setN
    by_cases e : z = y
    · rw [if_pos e] at hz; cases hz
    · rw [if_neg e] at hz ⊢
      exact h.rest z hz
  sorted := by
    have hne : ∀ z, z ∈ x :: T → z ≠ y := fun z hz e => by subst e; rw [(h.seen z).2 (.inr hz)] at hF; cases hF
    rw [← List.cons_append, List.pairwise_append]
    refine ⟨?_, by simp, fun a ha b hb => ?_⟩
    · refine List.Pairwise.imp_of_mem (fun {a b} ha hb hab => ?_) h.sorted
      unfold setN
      rw [if_neg (hne a ha), if_neg (hne b hb)]
      exact hab
    · obtain rfl : b = y := by simpa using hb
      unfold setN
      rw [if_neg (hne a ha), if_pos rfl]
      exact h.near x T rfl a (.inr ha)
  near := fun z T' e v hv => by
    injection e with e _
    subst e
    have hx : x ≠ y := fun e => by subst e; rw [(h.seen x).2 (.inr (by simp))] at hF; cases hF
    unfold setN
    rw [if_neg hx]
    by_cases e : v = y
    · rw [if_pos e]; exact Nat.le_refl _
    · rw [if_neg e]
      exact h.near x T rfl v (by simpa [e] using hv)
theorem Bfs.finish (h : Bfs E ok q F L D (x :: T)) (hf : ∀ y, E x y → F y = true) : Bfs E ok q F L (D ++ [x]) T where
  on := fun z hz => h.on z (by simp at hz ⊢; rcases hz with (hz | hz) | hz <;> simp [hz])
  seen := fun z => by rw [h.seen z]; simp [or_assoc]
  apart := by have := h.apart; simpa using this
  closed := fun z hz y hy => by
    rcases List.mem_append.1 hz with hz | hz
    · exact h.closed z hz y hy
    · obtain rfl : z = x := by simpa using hz
      exact ⟨hf y hy, h.met (hf y hy)⟩
  has := h.has
  zero := h.zero
  rest := h.rest
  sorted := (List.pairwise_cons.1 h.sorted).2
  near := fun z T' e v hv => by
    subst e
    have h1 := (List.pairwise_cons.1 h.sorted).1 z (by simp)
    have h2 := h.near x _ rfl v (by simp at hv ⊢; rcases hv with (hv | hv) | hv <;> simp [hv])
    omega
/-- Who has a way is met soon enough, or an earlier one is to do still. -/
theorem Bfs.cut (h : Bfs E ok q F L D T) {t : Nat} (hw : Way E q t y) : (F y = true ∧ L y ≤ t) ∨ ∃ z ∈ T, L z < t := by
  induction hw with
  | refl => exact .inl ⟨h.has, by rw [h.zero]; exact Nat.le_refl _⟩
  | @step t x y _ he ih =>
    rcases ih with ⟨hF, hl⟩ | ⟨z, hz, hl⟩
    · rcases (h.seen x).1 hF with hd | hd
      · have := h.closed x hd y he
        exact .inl ⟨this.1, by omega⟩
      · exact .inr ⟨x, hd, by omega⟩
    · exact .inr ⟨z, hz, by omega⟩
/-- A new one is as far as it is found to be. -/
theorem Bfs.found (h : Bfs E ok q F L D (x :: T)) (he : E x y) (hF : F y = false) : Least (fun t => Way E q t y) (L x + 1) := by
  refine ⟨(h.on x (.inr (by simp))).2.step he, fun t ht => ?_⟩
  rcases h.cut ht with ⟨h1, _⟩ | ⟨z, hz, hl⟩
  · rw [h1] at hF; cases hF
  · rcases List.mem_cons.1 hz with rfl | hz
    · omega
    · have := (List.pairwise_cons.1 h.sorted).1 z hz
      omega
theorem Bfs.push_least (h : Bfs E ok q F L D (x :: T)) (he : E x y) (hF : F y = false) (hl : ∀ z, F z = true → Least (fun t => Way E q t z) (L z)) (z : Nat) (hz : setB F y z = true) : Least (fun t => Way E q t z) (setN L y (L x + 1) z) := by
  unfold setB at hz
  unfold setN
  by_cases e : z = y
  · subst e
    rw [if_pos rfl]
    exact h.found he hF
  · rw [if_neg e] at hz ⊢
    exact hl z hz
theorem least_start (E : Nat → Nat → Prop) (q z : Nat) (hz : (z == q) = true) : Least (fun t => Way E q t z) 0 := by
  obtain rfl : z = q := by simpa using hz
  exact ⟨.refl, fun _ _ => Nat.zero_le _⟩
/-- All is done. -/
theorem Bfs.all (h : Bfs E ok q F L D []) (hl : ∀ z, F z = true → Least (fun t => Way E q t z) (L z)) (z : Nat) : (F z = true ∧ Least (fun t => Way E q t z) (L z)) ∨ (F z = false ∧ ∀ t, ¬ Way E q t z) := by
  cases hF : F z
  · refine .inr ⟨rfl, fun t ht => ?_⟩
    rcases h.cut ht with ⟨h1, _⟩ | ⟨z, hz, _⟩
    · rw [h1] at hF; cases hF
    · simp at hz
  · exact .inl ⟨rfl, hl z hF⟩
end

/-- A throw leads from x to y; the other way around, from squares that are not the end and at which no jump begins. -/
def eB (s f o : Int) (js : List (Int × Int)) (x y : Nat) : Prop := ∃ face, 1 ≤ face ∧ face ≤ f.toNat ∧ nxB s o js x face = y
def rB (s f o : Int) (js : List (Int × Int)) (y x : Nat) : Prop := (x : Int) < s ∧ okB s js x ∧ eB s f o js x y
theorem way_front {E : Nat → Nat → Prop} {q x : Nat} (he : E q x) : ∀ {t y : Nat}, Way E x t y → Way E q (t + 1) y := fun {t y} h => by
  induction h with
  | refl => exact Way.refl.step he
  | step _ e ih => exact ih.step e
/-- A way to the end, told from either side. -/
theorem way_back {s f o : Int} {js : List (Int × Int)} {e : Nat} : ∀ {t : Nat} {x : Nat}, Way (rB s f o js) e t x → Way (eB s f o js) x t e := fun {t x} h => by
  induction h with
  | refl => exact .refl
  | step _ he ih => exact way_front he.2.2 ih
theorem nx_end {s o : Int} {js : List (Int × Int)} {S face : Nat} (hS : s = (S : Int)) : nxB s o js S face = S := by
  subst hS
  simp [nxB, thrown]
theorem way_fore {s f o : Int} {js : List (Int × Int)} (hg : good ⟨s, f, o, js⟩ = true) {S : Nat} (hS : s = (S : Int)) : ∀ (t x : Nat), okB s js x → Way (eB s f o js) x t S → ∃ t' ≤ t, Way (rB s f o js) S t' x := by
  -- the first edge of a way, and the rest
  have hsplit : ∀ {t x y : Nat}, Way (eB s f o js) x (t + 1) y → ∃ z, eB s f o js x z ∧ Way (eB s f o js) z t y := by
    intro t
    induction t with
    | zero =>
      intro x y h
      cases h with
      | step h e =>
        cases h
        exact ⟨_, e, .refl⟩
    | succ t ih =>
      intro x y h
      cases h with
      | step h e =>
        obtain ⟨z, h1, h2⟩ := ih h
        exact ⟨z, h1, h2.step e⟩
  intro t
  induction t with
  | zero =>
    intro x _ h
    cases h
    exact ⟨0, Nat.le_refl _, .refl⟩
  | succ t ih =>
    intro x hx h
    by_cases e : x = S
    · exact ⟨0, by omega, e ▸ .refl⟩
    · obtain ⟨z, ⟨face, h1, h2, h3⟩, hz⟩ := hsplit h
      have hzok : okB s js z := by rw [← h3]; exact okB_next hg f.toNat x hx face h1 h2
      obtain ⟨t', ht', hw⟩ := ih z hzok hz
      have hlt : (x : Int) < s := by have := hx.1; omega
      exact ⟨t' + 1, by omega, hw.step ⟨hlt, hx, face, h1, h2, h3⟩⟩
/-- Fewest throws to the end are the fewest edges back from it. -/
theorem least_both {s f o : Int} {js : List (Int × Int)} (hg : good ⟨s, f, o, js⟩ = true) {S x : Nat} (hS : s = (S : Int)) (hx : okB s js x) (t : Nat) : Least (fun t => Way (rB s f o js) S t x) t ↔ Least (fun t => Way (eB s f o js) x t S) t := by
  constructor
  · rintro ⟨h1, h2⟩
    refine ⟨way_back h1, fun t' ht' => ?_⟩
    obtain ⟨t'', hle, hw⟩ := way_fore hg hS t' x hx ht'
    have := h2 t'' hw
    omega
  · rintro ⟨h1, h2⟩
    obtain ⟨t'', hle, hw⟩ := way_fore hg hS t x hx h1
    have h3 := h2 t'' (way_back hw)
    obtain rfl : t'' = t := by omega
    exact ⟨hw, fun t' ht' => h2 t' (way_back ht')⟩
theorem none_both {s f o : Int} {js : List (Int × Int)} (hg : good ⟨s, f, o, js⟩ = true) {S x : Nat} (hS : s = (S : Int)) (hx : okB s js x) : (∀ t, ¬ Way (rB s f o js) S t x) ↔ (∀ t, ¬ Way (eB s f o js) x t S) := by
  constructor
  · intro h t ht
    obtain ⟨t'', _, hw⟩ := way_fore hg hS t x hx ht
    exact h t'' hw
  · intro h t ht
    exact h t (way_back ht)
end Go.Proofs.Ytmhffdgfkgdmlab

/-
  Searches: what is seen by now, what is done, what is still to do. Plain mathematics, over any steps. Breadth first: how far squares are. Plain mathematics, over any edges.
-/
import Derived.Test.YteogfondnpfklaaM1
namespace Go.Proofs.Yteogfondnpfklaa

/-- Reached from q by steps of 1..m. -/
inductive Rch (nx : Nat → Nat → Nat) (m q : Nat) : Nat → Prop
  | refl : Rch nx m q q
  | step {x face : Nat} (h : Rch nx m q x) (h1 : 1 ≤ face) (h2 : face ≤ m) : Rch nx m q (nx x face)
def setB (F : Nat → Bool) (y : Nat) : Nat → Bool := fun i => if i = y then true else F i
/-- F: what has been seen; D: what is done; T: what is to do. -/
structure Srch (nx : Nat → Nat → Nat) (m : Nat) (ok : Nat → Prop) (q : Nat) (F : Nat → Bool) (D T : List Nat) : Prop where
  on : ∀ x, x ∈ D ∨ x ∈ T → ok x ∧ Rch nx m q x
  seen : ∀ x, F x = true ↔ x ∈ D ∨ x ∈ T
  apart : (D ++ T).Nodup
  closed : ∀ x ∈ D, ∀ face, 1 ≤ face → face ≤ m → F (nx x face) = true
  has : F q = true
section
variable {nx : Nat → Nat → Nat} {m q : Nat} {ok : Nat → Prop} {F : Nat → Bool} {D T : List Nat} {x y face : Nat}
theorem Srch.start (hq : ok q) : Srch nx m ok q (fun i => i == q) [] [q] where
  on := fun x h => by
    obtain rfl : x = q := by simpa using h
    exact ⟨hq, .refl⟩
  seen := fun x => by simp
  apart := by simp
  closed := fun x h => by simp at h
  has := by simp
theorem Srch.push (h : Srch nx m ok q F D T) (hx : x ∈ D ∨ x ∈ T) (h1 : 1 ≤ face) (h2 : face ≤ m) (hc : ∀ x, ok x → ∀ face, 1 ≤ face → face ≤ m → ok (nx x face)) (hy : nx x face = y) (hF : F y = false) : Srch nx m ok q (setB F y) D (T ++ [y]) where
  on := fun z hz => by
    by_cases e : z = y
    · subst e; subst hy
      exact ⟨hc x (h.on x hx).1 face h1 h2, (h.on x hx).2.step h1 h2⟩
    · exact h.on z (by simpa [e] using hz)
  seen := fun z => by
    unfold setB
    by_cases e : z = y
    · simp [e]
    · have := h.seen z
      simp [e, this]
  apart := by
    rw [← List.append_assoc]
    have hn : ¬ (y ∈ D ∨ y ∈ T) := fun hy => by rw [(h.seen y).2 hy] at hF; cases hF
    rw [List.nodup_append]
    refine ⟨h.apart, by simp, fun a ha b hb => ?_⟩
    rintro rfl
    obtain rfl : a = y := by simpa using hb
    exact hn (by simpa using ha)
  closed := fun z hz face h1 h2 => by
    unfold setB
    have := h.closed z hz face h1 h2
    split
    · rfl
    · exact this
  has := by
    unfold setB
    split
    · rfl
    · exact h.has
theorem Srch.perm {T' : List Nat} (h : Srch nx m ok q F D T) (hp : T.Perm T') : Srch nx m ok q F D T' where
  on := fun z hz => h.on z (by rcases hz with hz | hz; exact .inl hz; exact .inr (hp.mem_iff.2 hz))
  seen := fun z => by rw [h.seen z, hp.mem_iff]
  apart := ((List.Perm.append_left D hp).nodup_iff).1 h.apart
  closed := h.closed
  has := h.has
theorem Srch.finish (h : Srch nx m ok q F D (x :: T)) (hf : ∀ face, 1 ≤ face → face ≤ m → F (nx x face) = true) : Srch nx m ok q F (D ++ [x]) T where
  on := fun z hz => h.on z (by simp at hz ⊢; rcases hz with (hz | hz) | hz <;> simp [hz])
  seen := fun z => by rw [h.seen z]; simp [or_assoc]
  apart := by have := h.apart; simpa using this
  closed := fun z hz face h1 h2 => by
    rcases List.mem_append.1 hz with hz | hz
    · exact h.closed z hz face h1 h2
    · obtain rfl : z = x := by simpa using hz
      exact hf face h1 h2
  has := h.has
theorem Srch.all (h : Srch nx m ok q F D []) (z : Nat) : F z = true ↔ Rch nx m q z := by
  constructor
  · intro hz
    exact (h.on z ((h.seen z).1 hz)).2
  · intro hz
    induction hz with
    | refl => exact h.has
    | @step x face hx h1 h2 ih =>
      rcases (h.seen x).1 ih with hd | hd
      · exact h.closed x hd face h1 h2
      · simp at hd
theorem pigeonN : ∀ (l : List Nat) (n : Nat), l.Nodup → (∀ x ∈ l, x < n) → l.length ≤ n := fun l n hp hs => by
  have key : ∀ (l u : List Nat), l.Nodup → (∀ x ∈ l, x ∈ u) → l.length ≤ u.length := by
    intro l
    induction l with
    | nil => intro u _ _; simp
    | cons x l ih =>
      intro u hp hs
      obtain ⟨h1, h2⟩ := List.nodup_cons.1 hp
      obtain ⟨a, b, rfl⟩ := List.append_of_mem (hs x (by simp))
      have := ih (a ++ b) h2 fun y hy => by
        have hy' := hs y (by simp [hy])
        simp only [List.mem_append, List.mem_cons] at hy' ⊢
        rcases hy' with h | h | h
        · exact .inl h
        · exact absurd (h ▸ hy) h1
        · exact .inr h
      simp at this ⊢; omega
  have := key l (List.range n) hp fun x hx => by simpa using hs x hx
  simpa using this
theorem Srch.len {n : Nat} (h : Srch nx m ok q F D T) (hn : ∀ x, ok x → x < n) : D.length + T.length ≤ n := by
  have := pigeonN _ n h.apart fun x hx => hn x (h.on x (by simpa using hx)).1
  simpa using this
end

/-- The square behind a face, as a number; the squares that a token can be on. -/
def nxB (s o : Int) (js : List (Int × Int)) (x face : Nat) : Nat := (thrown s o js x face).toNat
def okB (s : Int) (js : List (Int × Int)) (x : Nat) : Prop := (x : Int) ≤ s ∧ jumpOf js x = x
theorem nxB_eq {s f o : Int} {js : List (Int × Int)} (hg : good ⟨s, f, o, js⟩ = true) {x face : Nat} (hx : (x : Int) ≤ s) (h1 : 1 ≤ face) : thrown s o js x face = (nxB s o js x face : Int) := by
  have := thrown_in (o := o) hg (show 0 ≤ (x : Int) by omega) hx (show (1 : Int) ≤ face by omega)
  unfold nxB; omega
theorem okB_next {s f o : Int} {js : List (Int × Int)} (hg : good ⟨s, f, o, js⟩ = true) (m : Nat) : ∀ x, okB s js x → ∀ face, 1 ≤ face → face ≤ m → okB s js (nxB s o js x face) := fun x hx face h1 _ => by
  have h2 := thrown_in (o := o) hg (show 0 ≤ (x : Int) by omega) hx.1 (show (1 : Int) ≤ face by omega)
  have h3 := nxB_eq hg hx.1 h1
  refine ⟨by rw [← h3]; exact h2.2, ?_⟩
  rw [← h3]
  exact thrown_fix hg hx.2
theorem okB_lt {s : Int} {js : List (Int × Int)} : ∀ x, okB s js x → x < s.toNat + 1 := fun x hx => by have := hx.1; omega
theorem okB_of {s : Int} {js : List (Int × Int)} {x : Nat} (h : onSq s js x = true) : okB s js x := ⟨(onSq_in h).2, onSq_fix h⟩
end Go.Proofs.Yteogfondnpfklaa

namespace Go.Proofs.Yteogfondnpfklaa

/-- A way of so many edges from q. -/
inductive Way (E : Nat → Nat → Prop) (q : Nat) : Nat → Nat → Prop
  | refl : Way E q 0 q
  | step {t x y : Nat} (h : Way E q t x) (e : E x y) : Way E q (t + 1) y
/-- The least number of edges. -/
def Least (W : Nat → Prop) (t : Nat) : Prop := W t ∧ ∀ t', W t' → t ≤ t'
theorem Least.uniq {W : Nat → Prop} {a b : Nat} (h : Least W a) (k : Least W b) : a = b := Nat.le_antisymm (h.2 _ k.1) (k.2 _ h.1)
def setN (L : Nat → Nat) (y v : Nat) : Nat → Nat := fun i => if i = y then v else L i

/-- F: what has been met; L: how far it is; D: what is done; T: what is to do. -/
structure Bfs (E : Nat → Nat → Prop) (ok : Nat → Prop) (q : Nat) (F : Nat → Bool) (L : Nat → Nat) (D T : List Nat) : Prop where
  on : ∀ x, x ∈ D ∨ x ∈ T → ok x ∧ Way E q (L x) x
  seen : ∀ x, F x = true ↔ x ∈ D ∨ x ∈ T
  apart : (D ++ T).Nodup
  closed : ∀ x ∈ D, ∀ y, E x y → F y = true ∧ L y ≤ L x + 1
  has : F q = true
  zero : L q = 0
  rest : ∀ y, F y = false → L y = 0
  sorted : T.Pairwise (fun a b => L a ≤ L b)
  near : ∀ x T', T = x :: T' → ∀ z, z ∈ D ∨ z ∈ T → L z ≤ L x + 1
section
variable {E : Nat → Nat → Prop} {q : Nat} {ok : Nat → Prop} {F : Nat → Bool} {L : Nat → Nat} {D T : List Nat} {x y : Nat}
theorem Bfs.start (hq : ok q) : Bfs E ok q (fun i => i == q) (fun _ => 0) [] [q] where
  on := fun x h => by
    obtain rfl : x = q := by simpa using h
    exact ⟨hq, .refl⟩
  seen := fun x => by simp
  apart := by simp
  closed := fun x h => by simp at h
  has := by simp
  zero := rfl
  rest := fun _ _ => rfl
  sorted := by simp
  near := fun _ _ _ _ _ => by simp
theorem Bfs.len {n : Nat} (h : Bfs E ok q F L D T) (hn : ∀ x, ok x → x < n) : D.length + T.length ≤ n := by
  have := pigeonN _ n h.apart fun x hx => hn x (h.on x (by simpa using hx)).1
  simpa using this
/-- A square that was met before is near enough. -/
theorem Bfs.met (h : Bfs E ok q F L D (x :: T)) (hF : F y = true) : L y ≤ L x + 1 := h.near x T rfl y ((h.seen y).1 hF)
theorem Bfs.push (h : Bfs E ok q F L D (x :: T)) (he : E x y) (hy : ok y) (hF : F y = false) : Bfs E ok q (setB F y) (setN L y (L x + 1)) D (x :: (T ++ [y])) where
  on := fun z hz => by
    unfold setN
    by_cases e : z = y
    · subst e
      rw [if_pos rfl]
      exact ⟨hy, (h.on x (.inr (by simp))).2.step he⟩
    · rw [if_neg e]
      exact h.on z (by simpa [e] using hz)
  seen := fun z => by
    unfold setB
    by_cases e : z = y
    · simp [e]
    · have := h.seen z
      simp [e, this]
  apart := by
    have hn : ¬ (y ∈ D ∨ y ∈ x :: T) := fun hy => by rw [(h.seen y).2 hy] at hF; cases hF
    rw [← List.cons_append, ← List.append_assoc, List.nodup_append]
    refine ⟨h.apart, by simp, fun a ha b hb => ?_⟩
    rintro rfl
    obtain rfl : a = y := by simpa using hb
    exact hn (by simpa using ha)
  closed := fun z hz w hw => by
    have hc := h.closed z hz w hw
    have hzy : z ≠ y := fun e => by subst e; rw [(h.seen z).2 (.inl hz)] at hF; cases hF
    have hwy : w ≠ y := fun e => by subst e; rw [hc.1] at hF; cases hF
    unfold setB setN
    rw [if_neg hwy, if_neg hwy, if_neg hzy]
    exact hc
  has := by
    unfold setB
    split
    · rfl
    · exact h.has
  zero := by
    unfold setN
    rw [if_neg (fun e => by subst e; rw [h.has] at hF; cases hF)]
    exact h.zero
  rest := fun z hz => by
    unfold setB at hz
    unfold setN
    by_cases e : z = y
    · rw [if_pos e] at hz; cases hz
    · rw [if_neg e] at hz ⊢
      exact h.rest z hz
  sorted := by
    have hne : ∀ z, z ∈ x :: T → z ≠ y := fun z hz e => by subst e; rw [(h.seen z).2 (.inr hz)] at hF; cases hF
    rw [← List.cons_append, List.pairwise_append]
    refine ⟨?_, by simp, fun a ha b hb => ?_⟩
    · refine List.Pairwise.imp_of_mem (fun {a b} ha hb hab => ?_) h.sorted
      unfold setN
      rw [if_neg (hne a ha), if_neg (hne b hb)]
      exact hab
    · obtain rfl : b = y := by simpa using hb
      unfold setN
      rw [if_neg (hne a ha), if_pos rfl]
      exact h.near x T rfl a (.inr ha)
  near := fun z T' e v hv => by
    injection e with e _
    subst e
    have hx : x ≠ y := fun e => by subst e; rw [(h.seen x).2 (.inr (by simp))] at hF; cases hF
    unfold setN
    rw [if_neg hx]
    by_cases e : v = y
    · rw [if_pos e]; exact Nat.le_refl _
    · rw [if_neg e]
      exact h.near x T rfl v (by simpa [e] using hv)
theorem Bfs.finish (h : Bfs E ok q F L D (x :: T)) (hf : ∀ y, E x y → F y = true) : Bfs E ok q F L (D ++ [x]) T where
  on := fun z hz => h.on z (by simp at hz ⊢; rcases hz with (hz | hz) | hz <;> simp [hz])
  seen := fun z => by rw [h.seen z]; simp [or_assoc]
  apart := by have := h.apart; simpa using this
  closed := fun z hz y hy => by
    rcases List.mem_append.1 hz with hz | hz
    · exact h.closed z hz y hy
    · obtain rfl : z = x := by simpa using hz
      exact ⟨hf y hy, h.met (hf y hy)⟩
  has := h.has
  zero := h.zero
  rest := h.rest
  sorted := (List.pairwise_cons.1 h.sorted).2
  near := fun z T' e v hv => by
    subst e
    have h1 := (List.pairwise_cons.1 h.sorted).1 z (by simp)
    have h2 := h.near x _ rfl v (by simp at hv ⊢; rcases hv with (hv | hv) | hv <;> simp [hv])
    omega
/-- Who has a way is met soon enough, or an earlier one is to do still. -/
theorem Bfs.cut (h : Bfs E ok q F L D T) {t : Nat} (hw : Way E q t y) : (F y = true ∧ L y ≤ t) ∨ ∃ z ∈ T, L z < t := by
  induction hw with
  | refl => exact .inl ⟨h.has, by rw [h.zero]; exact Nat.le_refl _⟩
  | @step t x y _ he ih =>
    rcases ih with ⟨hF, hl⟩ | ⟨z, hz, hl⟩
    · rcases (h.seen x).1 hF with hd | hd
      · have := h.closed x hd y he
        exact .inl ⟨this.1, by omega⟩
      · exact .inr ⟨x, hd, by omega⟩
    · exact .inr ⟨z, hz, by omega⟩
/-- A new one is as far as it is found to be. -/
theorem Bfs.found (h : Bfs E ok q F L D (x :: T)) (he : E x y) (hF : F y = false) : Least (fun t => Way E q t y) (L x + 1) := by
  refine ⟨(h.on x (.inr (by simp))).2.step he, fun t ht => ?_⟩
  rcases h.cut ht with ⟨h1, _⟩ | ⟨z, hz, hl⟩
  · rw [h1] at hF; cases hF
  · rcases List.mem_cons.1 hz with rfl | hz
    · omega
    · have := (List.pairwise_cons.1 h.sorted).1 z hz
      omega
theorem Bfs.push_least (h : Bfs E ok q F L D (x :: T)) (he : E x y) (hF : F y = false) (hl : ∀ z, F z = true → Least (fun t => Way E q t z) (L z)) (z : Nat) (hz : setB F y z = true) : Least (fun t => Way E q t z) (setN L y (L x + 1) z) := by
  unfold setB at hz
  unfold setN
  by_cases e : z = y
  · subst e
    rw [if_pos rfl]
    exact h.found he hF
  · rw [if_neg e] at hz ⊢
    exact hl z hz
theorem least_start (E : Nat → Nat → Prop) (q z : Nat) (hz : (z == q) = true) : Least (fun t => Way E q t z) 0 := by
  obtain rfl : z = q := by simpa using hz
  exact ⟨.refl, fun _ _ => Nat.zero_le _⟩
/-- All is done. -/
theorem Bfs.all (h : Bfs E ok q F L D []) (hl : ∀ z, F z = true → Least (fun t => Way E q t z) (L z)) (z : Nat) : (F z = true ∧ Least (fun t => Way E q t z) (L z)) ∨ (F z = false ∧ ∀ t, ¬ Way E q t z) := by
  cases hF : F z
  · refine .inr ⟨rfl, fun t ht => ?_⟩
    rcases h.cut ht with ⟨h1, _⟩ | ⟨z, hz, _⟩
    · rw [h1] at hF; cases hF
    · simp at hz
  · exact .inl ⟨rfl, hl z hF⟩
end

/-- A throw leads from x to y; the other way around, from squares that are not the end and at which no jump begins. -/
def eB (s f o : Int) (js : List (Int × Int)) (x y : Nat) : Prop := ∃ face, 1 ≤ face ∧ face ≤ f.toNat ∧ nxB s o js x face = y
def rB (s f o : Int) (js : List (Int × Int)) (y x : Nat) : Prop := (x : Int) < s ∧ okB s js x ∧ eB s f o js x y
theorem way_front {E : Nat → Nat → Prop} {q x : Nat} (he : E q x) : ∀ {t y : Nat}, Way E x t y → Way E q (t + 1) y := fun {t y} h => by
  induction h with
  | refl => exact Way.refl.step he
  | step _ e ih => exact ih.step e
/-- A way to the end, told from either side. -/
theorem way_back {s f o : Int} {js : List (Int × Int)} {e : Nat} : ∀ {t : Nat} {x : Nat}, Way (rB s f o js) e t x → Way (eB s f o js) x t e := fun {t x} h => by
  induction h with
  | refl => exact .refl
  | step _ he ih => exact way_front he.2.2 ih
theorem nx_end {s o : Int} {js : List (Int × Int)} {S face : Nat} (hS : s = (S : Int)) : nxB s o js S face = S := by
  subst hS
  simp [nxB, thrown]
theorem way_fore {s f o : Int} {js : List (Int × Int)} (hg : good ⟨s, f, o, js⟩ = true) {S : Nat} (hS : s = (S : Int)) : ∀ (t x : Nat), okB s js x → Way (eB s f o js) x t S → ∃ t' ≤ t, Way (rB s f o js) S t' x := by
  -- the first edge of a way, and the rest
  have hsplit : ∀ {t x y : Nat}, Way (eB s f o js) x (t + 1) y → ∃ z, eB s f o js x z ∧ Way (eB s f o js) z t y := by
    intro t
    induction t with
    | zero =>
      intro x y h
      cases h with
      | step h e =>
        cases h
        exact ⟨_, e, .refl⟩
    | succ t ih =>
      intro x y h
      cases h with
      | step h e =>
        obtain ⟨z, h1, h2⟩ := ih h
        exact ⟨z, h1, h2.step e⟩
  intro t
  induction t with
  | zero =>
    intro x _ h
    cases h
    exact ⟨0, Nat.le_refl _, .refl⟩
  | succ t ih =>
    intro x hx h
    by_cases e : x = S
    · exact ⟨0, by omega, e ▸ .refl⟩
    · obtain ⟨z, ⟨face, h1, h2, h3⟩, hz⟩ := hsplit h
      have hzok : okB s js z := by rw [← h3]; exact okB_next hg f.toNat x hx face h1 h2
      obtain ⟨t', ht', hw⟩ := ih z hzok hz
      have hlt : (x : Int) < s := by have := hx.1; omega
      exact ⟨t' + 1, by omega, hw.step ⟨hlt, hx, face, h1, h2, h3⟩⟩
/-- Fewest throws to the end are the fewest edges back from it. -/
theorem least_both {s f o : Int} {js : List (Int × Int)} (hg : good ⟨s, f, o, js⟩ = true) {S x : Nat} (hS : s = (S : Int)) (hx : okB s js x) (t : Nat) : Least (fun t => Way (rB s f o js) S t x) t ↔ Least (fun t => Way (eB s f o js) x t S) t := by
  constructor
  · rintro ⟨h1, h2⟩
    refine ⟨way_back h1, fun t' ht' => ?_⟩
    obtain ⟨t'', hle, hw⟩ := way_fore hg hS t' x hx ht'
    have := h2 t'' hw
    omega
  · rintro ⟨h1, h2⟩
    obtain ⟨t'', hle, hw⟩ := way_fore hg hS t x hx h1
    have h3 := h2 t'' (way_back hw)
    obtain rfl : t'' = t := by omega
    exact ⟨hw, fun t' ht' => h2 t' (way_back ht')⟩
theorem none_both {s f o : Int} {js : List (Int × Int)} (hg : good ⟨s, f, o, js⟩ = true) {S x : Nat} (hS : s = (S : Int)) (hx : okB s js x) : (∀ t, ¬ Way (rB s f o js) S t x) ↔ (∀ t, ¬ Way (eB s f o js) x t S) := by
  constructor
  · intro h t ht
    obtain ⟨t'', _, hw⟩ := way_fore hg hS t x hx ht
    exact h t'' hw
  · intro h t ht
    exact h t (way_back ht)
end Go.Proofs.Yteogfondnpfklaa

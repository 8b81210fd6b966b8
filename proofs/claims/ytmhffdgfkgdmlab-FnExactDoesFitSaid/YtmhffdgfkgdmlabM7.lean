/-
  Searches: what is seen by now, what is done, what is still to do. Plain mathematics, over any steps.
-/
import Derived.Test.YtmhffdgfkgdmlabM1
namespace Go.Proofs.Ytmhffdgfkgdmlab

/-- Reached from q by steps of 1..m. -/
inductive Rch (nx : Nat → Nat → Nat) (m q : Nat) : Nat → Prop
  | refl : Rch nx m q q
  | step {x face : Nat} (h : Rch nx m q x) (h1 : 1 ≤ face) (h2 : face ≤ m) : Rch nx m q (nx x face)
def setB (F : Nat → Bool) (y : Nat) : Nat → Bool := fun i => if i = y then true else F i
/-- F: what has been seen; D: what is done; T: what is to do. -/
structure Srch (nx : Nat → Nat → Nat) (m : Nat) (ok : Nat → Prop) (q : Nat) (F : Nat → Bool) (D T : List Nat) : Prop where
  on : ∀ x, x ∈ D ∨ x ∈ T → ok x ∧ Rch nx m q x
  seen : ∀ x, F x = true ↔ x ∈ D ∨ x ∈ T
  apart : (D ++ T).Nodup
  closed : ∀ x ∈ D, ∀ face, 1 ≤ face → face ≤ m → F (nx x face) = true
  has : F q = true
section
variable {nx : Nat → Nat → Nat} {m q : Nat} {ok : Nat → Prop} {F : Nat → Bool} {D T : List Nat} {x y face : Nat}
theorem Srch.start (hq : ok q) : Srch nx m ok q (fun i => i == q) [] [q] where
  on := fun x h => by
    obtain rfl : x = q := by simpa using h
    exact ⟨hq, .refl⟩
  seen := fun x => by simp
  apart := by simp
  closed := fun x h => by simp at h
  has := by simp
theorem Srch.push (h : Srch nx m ok q F D T) (hx : x ∈ D ∨ x ∈ T) (h1 : 1 ≤ face) (h2 : face ≤ m) (hc : ∀ x, ok x → ∀ face, 1 ≤ face → face ≤ m → ok (nx x face)) (hy : nx x face = y) (hF : F y = false) : Srch nx m ok q (setB F y) D (T ++ [y]) where
  on := fun z hz => by
    by_cases e : z = y
    · subst e; subst hy
      exact ⟨hc x (h.on x hx).1 face h1 h2, (h.on x hx).2.step h1 h2⟩
    · exact h.on z (by simpa [e] using hz)
  seen := fun z => by
    unfold setB
    by_cases e : z = y
    · simp [e]
    · have := h.seen z
      simp [e, this]
  apart := by
    rw [← List.append_assoc]
    have hn : ¬ (y ∈ D ∨ y ∈ T) := fun hy => by rw [(h.seen y).2 hy] at hF; cases hF
    rw [List.nodup_append]
    refine ⟨h.apart, by simp, fun a ha b hb => ?_⟩
    rintro rfl
    obtain rfl : a = y := by simpa using hb
    exact hn (by simpa using ha)
  closed := fun z hz face h1 h2 => by
    unfold setB
    have := h.closed z hz face h1 h2
    split
    · rfl
    · exact this
  has := by
    unfold setB
    split
    · rfl
    · exact h.has
theorem Srch.perm {T' : List Nat} (h : Srch nx m ok q F D T) (hp : T.Perm T') : Srch nx m ok q F D T' where
  on := fun z hz => h.on z (by rcases hz with hz | hz; exact .inl hz; exact .inr (hp.mem_iff.2 hz))
  seen := fun z => by rw [h.seen z, hp.mem_iff]
  apart := ((List.Perm.append_left D hp).nodup_iff).1 h.apart
  closed := h.closed
  has := h.has
theorem Srch.finish (h : Srch nx m ok q F D (x :: T)) (hf : ∀ face, 1 ≤ face → face ≤ m → F (nx x face) = true) : Srch nx m ok q F (D ++ [x]) T where
  on := fun z hz => h.on z (by simp at hz ⊢; rcases hz with (hz | hz) | hz <;> simp [hz])
  seen := fun z => by rw [h.seen z]; simp [or_assoc]
  apart := by have := h.apart; simpa using this
  closed := fun z hz face h1 h2 => by
    rcases List.mem_append.1 hz with hz | hz
    · exact h.closed z hz face h1 h2
    · obtain rfl : z = x := by simpa using hz
      exact hf face h1 h2
  has := h.has
theorem Srch.all (h : Srch nx m ok q F D []) (z : Nat) : F z = true ↔ Rch nx m q z := by
  constructor
  · intro hz
    exact (h.on z ((h.seen z).1 hz)).2
  · intro hz
    induction hz with
    | refl => exact h.has
    | @step x face hx h1 h2 ih =>
      rcases (h.seen x).1 ih with hd | hd
      · exact h.closed x hd face h1 h2
      · simp at hd
theorem pigeonN : ∀ (l : List Nat) (n : Nat), l.Nodup → (∀ x ∈ l, x < n) → l.length ≤ n := fun l n hp hs => by
  have key : ∀ (l u : List Nat), l.Nodup → (∀ x ∈ l, x ∈ u) → l.length ≤ u.length := by
    intro l
    induction l with
    | nil => intro u _ _; simp
    | cons x l ih =>
      intro u hp hs
      obtain ⟨h1, h2⟩ := List.nodup_cons.1 hp
      obtain ⟨a, b, rfl⟩ := List.append_of_mem (hs x (by simp))
      have := ih (a ++ b) h2 fun y hy => by
        have hy' := hs y (by simp [hy])
        simp only [List.mem_append, List.mem_cons] at hy' ⊢
        rcases hy' with h | h | h
        · exact .inl h
        · exact absurd (h ▸ hy) h1
        · exact .inr h
      simp at this ⊢; omega
  have := key l (List.range n) hp fun x hx => by simpa using hs x hx
  simpa using this
theorem Srch.len {n : Nat} (h : Srch nx m ok q F D T) (hn : ∀ x, ok x → x < n) : D.length + T.length ≤ n := by
  have := pigeonN _ n h.apart fun x hx => hn x (h.on x (by simpa using hx)).1
  simpa using this
end

/-- The square behind a face, as a number; the squares that a token can be on. -/
def nxB (s o : Int) (js : List (Int × Int)) (x face : Nat) : Nat := (thrown s o js x face).toNat
def okB (s : Int) (js : List (Int × Int)) (x : Nat) : Prop := (x : Int) ≤ s ∧ jumpOf js x = x
theorem nxB_eq {s f o : Int} {js : List (Int × Int)} (hg : good ⟨s, f, o, js⟩ = true) {x face : Nat} (hx : (x : Int) ≤ s) (h1 : 1 ≤ face) : thrown s o js x face = (nxB s o js x face : Int) := by
  have := thrown_in (o := o) hg (show 0 ≤ (x : Int) by omega) hx (show (1 : Int) ≤ face by omega)
  unfold nxB; omega
theorem okB_next {s f o : Int} {js : List (Int × Int)} (hg : good ⟨s, f, o, js⟩ = true) (m : Nat) : ∀ x, okB s js x → ∀ face, 1 ≤ face → face ≤ m → okB s js (nxB s o js x face) := fun x hx face h1 _ => by
  have h2 := thrown_in (o := o) hg (show 0 ≤ (x : Int) by omega) hx.1 (show (1 : Int) ≤ face by omega)
  have h3 := nxB_eq hg hx.1 h1
  refine ⟨by rw [← h3]; exact h2.2, ?_⟩
  rw [← h3]
  exact thrown_fix hg hx.2
theorem okB_lt {s : Int} {js : List (Int × Int)} : ∀ x, okB s js x → x < s.toNat + 1 := fun x hx => by have := hx.1; omega
theorem okB_of {s : Int} {js : List (Int × Int)} {x : Nat} (h : onSq s js x = true) : okB s js x := ⟨(onSq_in h).2, onSq_fix h⟩
end Go.Proofs.Ytmhffdgfkgdmlab

/-
  Races: a throw, states as numbers, lists of throws that win, the first of the shortest ones. Plain mathematics.
-/
import Derived.Test.YtknclgfjoajldabM9
namespace Go.Proofs.Ytknclgfjoajldab

/-- Shorter, or as long and less at the first place where they part. -/
def lexlt : List Nat → List Nat → Prop
  | x :: xs, y :: ys => x < y ∨ (x = y ∧ lexlt xs ys)
  | _, _ => False
def slt (a b : List Nat) : Prop := a.length < b.length ∨ (a.length = b.length ∧ lexlt a b)
theorem lexlt_irrefl : ∀ a : List Nat, ¬ lexlt a a
  | [], h => h
  | x :: xs, h => by
    rcases h with h | ⟨_, h⟩
    · omega
    · exact lexlt_irrefl xs h
theorem lexlt_asymm : ∀ a b : List Nat, lexlt a b → ¬ lexlt b a
  | [], _, h, _ => by cases h
  | _ :: _, [], h, _ => by cases h
  | x :: xs, y :: ys, h, k => by
    rcases h with h | ⟨e, h⟩
    · rcases k with k | ⟨e, _⟩
      · omega
      · omega
    · rcases k with k | ⟨_, k⟩
      · omega
      · exact lexlt_asymm xs ys h k
theorem lexlt_trans : ∀ a b c : List Nat, lexlt a b → lexlt b c → lexlt a c
  | [], _, _, h, _ => by cases h
  | _ :: _, [], _, h, _ => by cases h
  | _ :: _, _ :: _, [], _, k => by cases k
  | x :: xs, y :: ys, z :: zs, h, k => by
    rcases h with h | ⟨e, h⟩
    · rcases k with k | ⟨e, _⟩
      · exact .inl (by omega)
      · exact .inl (by omega)
    · rcases k with k | ⟨e2, k⟩
      · exact .inl (by omega)
      · exact .inr ⟨by omega, lexlt_trans xs ys zs h k⟩
theorem lexlt_app : ∀ (a b c d : List Nat), a.length = b.length → lexlt a b → lexlt (a ++ c) (b ++ d)
  | [], _, _, _, _, h => by cases h
  | _ :: _, [], _, _, _, h => by cases h
  | x :: xs, y :: ys, c, d, hl, h => by
    rcases h with h | ⟨e, h⟩
    · exact .inl h
    · exact .inr ⟨e, lexlt_app xs ys c d (by simpa using hl) h⟩
theorem lexlt_tail : ∀ (a c d : List Nat), lexlt c d → lexlt (a ++ c) (a ++ d)
  | [], _, _, h => h
  | _ :: xs, c, d, h => .inr ⟨rfl, lexlt_tail xs c d h⟩
theorem slt_irrefl (a : List Nat) : ¬ slt a a := fun h => by
  rcases h with h | ⟨_, h⟩
  · omega
  · exact lexlt_irrefl a h
theorem slt_trans {a b c : List Nat} (h : slt a b) (k : slt b c) : slt a c := by
  rcases h with h | ⟨e, h⟩
  · rcases k with k | ⟨e, _⟩
    · exact .inl (by omega)
    · exact .inl (by omega)
  · rcases k with k | ⟨e2, k⟩
    · exact .inl (by omega)
    · exact .inr ⟨by omega, lexlt_trans a b c h k⟩
theorem slt_asymm {a b : List Nat} (h : slt a b) (k : slt b a) : False := slt_irrefl a (slt_trans h k)
/-- One throw more keeps the order. -/
theorem slt_snoc {a b : List Nat} (h : slt a b) (x y : Nat) : slt (a ++ [x]) (b ++ [y]) := by
  rcases h with h | ⟨e, h⟩
  · exact .inl (by simp; omega)
  · exact .inr ⟨by simp; omega, lexlt_app a b _ _ e h⟩
theorem slt_last (a : List Nat) {x y : Nat} (h : x < y) : slt (a ++ [x]) (a ++ [y]) := .inr ⟨by simp, lexlt_tail a _ _ (.inl h)⟩
theorem slt_more (a : List Nat) (x : Nat) : slt a (a ++ [x]) := .inl (by simp)

section
variable (nx : Nat → Nat → Nat) (won : Nat → Int) (m : Nat)
/-- A list of throws by which who wins, from a state on. -/
inductive WinL (who : Int) : Nat → List Nat → Prop
  | nil {q : Nat} (h : won q = who) : WinL who q []
  | cons {q face : Nat} {xs : List Nat} (h : won q = 0) (h1 : 1 ≤ face) (h2 : face ≤ m) (hs : WinL who (nx q face) xs) : WinL who q (face :: xs)
/-- The first of the shortest such lists. -/
def FirstW (who : Int) (q : Nat) (xs : List Nat) : Prop := WinL nx won m who q xs ∧ ∀ ys, WinL nx won m who q ys → xs = ys ∨ slt xs ys
/-- The least number of throws. -/
def DistW (who : Int) (q t : Nat) : Prop := Least (fun t => ∃ xs, xs.length = t ∧ WinL nx won m who q xs) t
variable {nx won m} {who : Int} {q t : Nat}
theorem FirstW.uniq {xs ys : List Nat} (h : FirstW nx won m who q xs) (k : FirstW nx won m who q ys) : xs = ys := by
  rcases h.2 ys k.1 with e | e
  · exact e
  · rcases k.2 xs h.1 with e2 | e2
    · exact e2.symm
    · exact absurd (slt_asymm e e2) id
theorem FirstW.dist {xs : List Nat} (h : FirstW nx won m who q xs) : DistW nx won m who q xs.length :=
  ⟨⟨xs, rfl, h.1⟩, fun t' ⟨ys, hl, hy⟩ => by
    rcases h.2 ys hy with e | e
    · rw [← hl, e]; exact Nat.le_refl _
    · rcases e with e | e <;> omega⟩
theorem DistW.zero (h : DistW nx won m who q 0) : won q = who := by
  obtain ⟨⟨xs, hl, hx⟩, _⟩ := h
  cases hx with
  | nil h => exact h
  | cons => simp at hl
theorem DistW.next (_ : 0 < who) (h : DistW nx won m who q (t + 1)) : won q = 0 ∧ ∃ face, 1 ≤ face ∧ face ≤ m ∧ DistW nx won m who (nx q face) t := by
  obtain ⟨⟨xs, hl, hx⟩, hmin⟩ := h
  cases hx with
  | nil => simp at hl
  | @cons _ face ys h0 h1 h2 hs =>
    refine ⟨h0, face, h1, h2, ⟨ys, by simpa using hl, hs⟩, fun t' ⟨zs, hz, hw⟩ => ?_⟩
    have := hmin (t' + 1) ⟨face :: zs, by simp [hz], .cons h0 h1 h2 hw⟩
    omega
/-- The greedy list is the first one. -/
theorem FirstW.cons (hw : 0 < who) {face : Nat} {xs : List Nat} (h : DistW nx won m who q (xs.length + 1)) (h1 : 1 ≤ face) (h2 : face ≤ m) (hs : FirstW nx won m who (nx q face) xs) (hno : ∀ face', 1 ≤ face' → face' < face → ¬ DistW nx won m who (nx q face') xs.length) : FirstW nx won m who q (face :: xs) := by
  obtain ⟨h0, _⟩ := h.next hw
  refine ⟨.cons h0 h1 h2 hs.1, fun ys hy => ?_⟩
  have hle := h.2 ys.length ⟨ys, rfl, hy⟩
  cases hy with
  | nil h => omega
  | @cons _ g zs k0 k1 k2 kz =>
    simp only [List.length_cons] at hle
    by_cases hlen : xs.length = zs.length
    · have hd : DistW nx won m who (nx q g) xs.length := ⟨⟨zs, hlen.symm, kz⟩, fun t' ⟨vs, hv, hvw⟩ => by
        have := h.2 (t' + 1) ⟨g :: vs, by simp [hv], .cons k0 k1 k2 hvw⟩
        omega⟩
      rcases Nat.lt_trichotomy face g with hl | he | hg
      · exact .inr (.inr ⟨by simp [hlen], .inl hl⟩)
      · subst he
        rcases hs.2 zs kz with e | e
        · exact .inl (by rw [e])
        · rcases e with e | ⟨_, e⟩
          · omega
          · exact .inr (.inr ⟨by simp [hlen], .inr ⟨rfl, e⟩⟩)
      · exact absurd hd (hno g k1 hg)
    · exact .inr (.inl (by simp; omega))
theorem FirstW.nil (h : won q = who) : FirstW nx won m who q [] := ⟨.nil h, fun ys hy => by
  cases ys with
  | nil => exact .inl rfl
  | cons => exact .inr (.inl (by simp))⟩
theorem DistW.exists (hw : 0 < who) : ∀ {t q : Nat}, DistW nx won m who q t → ∃ xs, xs.length = t ∧ FirstW nx won m who q xs := by
  intro t
  induction t with
  | zero => exact fun {q} h => ⟨[], rfl, .nil h.zero⟩
  | succ t ih =>
    intro q h
    obtain ⟨h0, face, h1, h2, h3⟩ := h.next hw
    obtain ⟨k, hk, hle, hno⟩ := least_nat (p := fun face => 1 ≤ face ∧ DistW nx won m who (nx q face) t) face ⟨h1, h3⟩
    obtain ⟨xs, hl, hx⟩ := ih hk.2
    subst hl
    exact ⟨k :: xs, rfl, FirstW.cons hw h hk.1 (by omega) hx fun face' a b c => hno face' b ⟨a, c⟩⟩
theorem WinL.app {ys : List Nat} : ∀ {xs : List Nat} {q : Nat}, WinL nx won m who q (xs ++ ys) → ∃ z, WinL nx won m who z ys := by
  intro xs
  induction xs with
  | nil => exact fun {q} h => ⟨q, h⟩
  | cons x xs ih =>
    intro q h
    cases h with
    | cons _ _ _ hs => exact ih hs
end

/-- Two ways to number the states come to the same lists, where the one is the other with some states held for one. -/
theorem winL_map {nx nx' : Nat → Nat → Nat} {won won' : Nat → Int} {m : Nat} {μ : Nat → Nat} {ok : Nat → Prop} (hw : ∀ q, ok q → won' (μ q) = won q) (hn : ∀ q, ok q → won q = 0 → ∀ face, 1 ≤ face → face ≤ m → nx' (μ q) face = μ (nx q face) ∧ ok (nx q face)) {who : Int} :
    ∀ (xs : List Nat) (q : Nat), ok q → (WinL nx' won' m who (μ q) xs ↔ WinL nx won m who q xs) := by
  intro xs
  induction xs with
  | nil =>
    intro q hq
    constructor
    · intro h; cases h with | nil h => exact .nil ((hw q hq).symm.trans h)
    · intro h; cases h with | nil h => exact .nil ((hw q hq).trans h)
  | cons x xs ih =>
    intro q hq
    constructor
    · intro h
      cases h with
      | cons h0 h1 h2 hs =>
        have h0' := (hw q hq).symm.trans h0
        obtain ⟨e, hk⟩ := hn q hq h0' x h1 h2
        rw [e] at hs
        exact .cons h0' h1 h2 ((ih _ hk).1 hs)
    · intro h
      cases h with
      | cons h0 h1 h2 hs =>
        obtain ⟨e, hk⟩ := hn q hq h0 x h1 h2
        exact .cons ((hw q hq).trans h0) h1 h2 (by rw [e]; exact (ih _ hk).2 hs)
theorem firstW_map {nx nx' : Nat → Nat → Nat} {won won' : Nat → Int} {m : Nat} {who : Int} {q q' : Nat} (h : ∀ xs, WinL nx' won' m who q' xs ↔ WinL nx won m who q xs) {xs : List Nat} : FirstW nx' won' m who q' xs ↔ FirstW nx won m who q xs := by
  unfold FirstW
  simp only [h]
theorem distW_map {nx nx' : Nat → Nat → Nat} {won won' : Nat → Int} {m : Nat} {who : Int} {q q' : Nat} (h : ∀ xs, WinL nx' won' m who q' xs ↔ WinL nx won m who q xs) {t : Nat} : DistW nx' won' m who q' t ↔ DistW nx won m who q t := by
  unfold DistW
  simp only [h]
end Go.Proofs.Ytknclgfjoajldab

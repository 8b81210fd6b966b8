/-
  The lexicographically first of the shortest ways to the end. Plain mathematics.
-/
import Derived.Test.YtknclgfjoajldabM8
namespace Go.Proofs.Ytknclgfjoajldab

/-- The end is just t throws away. -/
def DistB (s f o : Int) (js : List (Int × Int)) (x t : Nat) : Prop := Least (fun t => Way (eB s f o js) x t s.toNat) t
theorem way_split {E : Nat → Nat → Prop} : ∀ {t x y : Nat}, Way E x (t + 1) y → ∃ z, E x z ∧ Way E z t y := by
  intro t
  induction t with
  | zero =>
    intro x y h
    cases h with
    | step h e =>
      cases h
      exact ⟨_, e, .refl⟩
  | succ t ih =>
    intro x y h
    cases h with
    | step h e =>
      obtain ⟨z, h1, h2⟩ := ih h
      exact ⟨z, h1, h2.step e⟩
section
variable {s f o : Int} {js : List (Int × Int)} {x t : Nat}
theorem DistB.next (h : DistB s f o js x (t + 1)) : ∃ face, 1 ≤ face ∧ face ≤ f.toNat ∧ DistB s f o js (nxB s o js x face) t := by
  obtain ⟨z, ⟨face, h1, h2, rfl⟩, hw⟩ := way_split h.1
  exact ⟨face, h1, h2, hw, fun t' ht' => by have := h.2 _ (way_front ⟨face, h1, h2, rfl⟩ ht'); omega⟩
/-- The least face that leads nearer to the end. -/
def FaceB (s f o : Int) (js : List (Int × Int)) (x t face : Nat) : Prop := 1 ≤ face ∧ face ≤ f.toNat ∧ DistB s f o js (nxB s o js x face) t ∧ ∀ face', 1 ≤ face' → face' < face → ¬ DistB s f o js (nxB s o js x face') t
theorem FaceB.uniq {a b : Nat} (h : FaceB s f o js x t a) (k : FaceB s f o js x t b) : a = b := by
  rcases Nat.lt_trichotomy a b with hl | he | hg
  · exact absurd h.2.2.1 (k.2.2.2 a h.1 hl)
  · exact he
  · exact absurd k.2.2.1 (h.2.2.2 b k.1 hg)
theorem least_nat {p : Nat → Prop} (n : Nat) (h : p n) : ∃ m, p m ∧ m ≤ n ∧ ∀ k, k < m → ¬ p k := by
  induction n using Nat.strongRecOn with
  | ind n ih =>
    rcases Classical.em (∃ k, k < n ∧ p k) with ⟨k, h1, h2⟩ | hn
    · obtain ⟨m, h3, h4, h5⟩ := ih k h1 h2
      exact ⟨m, h3, by omega, h5⟩
    · exact ⟨n, h, Nat.le_refl _, fun k hk hp => hn ⟨k, hk, hp⟩⟩
theorem DistB.face (h : DistB s f o js x (t + 1)) : ∃ face, FaceB s f o js x t face := by
  obtain ⟨face, h1, h2, h3⟩ := h.next
  obtain ⟨m, hm, hle, hno⟩ := least_nat (p := fun face => 1 ≤ face ∧ DistB s f o js (nxB s o js x face) t) face ⟨h1, h3⟩
  exact ⟨m, hm.1, by omega, hm.2, fun k hk1 hk2 hd => hno k hk2 ⟨hk1, hd⟩⟩
/-- The throws, in turn. -/
inductive FirstB (s f o : Int) (js : List (Int × Int)) : Nat → Nat → List Int → Prop
  | nil {x : Nat} : FirstB s f o js x 0 []
  | cons {x t face : Nat} {xs : List Int} (h : FaceB s f o js x t face) (hs : FirstB s f o js (nxB s o js x face) t xs) : FirstB s f o js x (t + 1) ((face : Int) :: xs)
theorem FirstB.uniq : ∀ {t x : Nat} {xs ys : List Int}, FirstB s f o js x t xs → FirstB s f o js x t ys → xs = ys := by
  intro t
  induction t with
  | zero =>
    intro x xs ys h k
    cases h; cases k; rfl
  | succ t ih =>
    intro x xs ys h k
    cases h with
    | cons h hs =>
      cases k with
      | cons k ks =>
        obtain rfl := h.uniq k
        rw [ih hs ks]
theorem FirstB.len : ∀ {t x : Nat} {xs : List Int}, FirstB s f o js x t xs → xs.length = t := by
  intro t
  induction t with
  | zero => intro x xs h; cases h; rfl
  | succ t ih =>
    intro x xs h
    cases h with
    | cons h hs => rw [List.length_cons, ih hs]
theorem DistB.first : ∀ {t x : Nat}, DistB s f o js x t → ∃ xs, FirstB s f o js x t xs := by
  intro t
  induction t with
  | zero => exact fun _ => ⟨[], .nil⟩
  | succ t ih =>
    intro x h
    obtain ⟨face, hf⟩ := h.face
    obtain ⟨xs, hx⟩ := ih hf.2.2.1
    exact ⟨_, .cons hf hx⟩
/-- The squares along a shortest way are all different. -/
theorem DistB.trail (hg : good ⟨s, f, o, js⟩ = true) : ∀ {t x : Nat}, okB s js x → DistB s f o js x t → ∃ l : List Nat, l.length = t + 1 ∧ l.Nodup ∧ (∀ y ∈ l, okB s js y) ∧ ∀ y ∈ l, ∃ t' ≤ t, DistB s f o js y t' := by
  intro t
  induction t with
  | zero => exact fun {x} hx h => ⟨[x], rfl, by simp, by simpa using hx, by simpa using h⟩
  | succ t ih =>
    intro x hx h
    obtain ⟨face, h1, h2, h3⟩ := h.next
    obtain ⟨l, hl, hn, ho, hd⟩ := ih (okB_next hg f.toNat x hx face h1 h2) h3
    refine ⟨x :: l, by simp [hl], List.nodup_cons.2 ⟨fun hm => ?_, hn⟩, ?_, ?_⟩
    · obtain ⟨t', ht', hd'⟩ := hd x hm
      have := Least.uniq h hd'
      omega
    · intro y hy
      rcases List.mem_cons.1 hy with rfl | hy
      · exact hx
      · exact ho y hy
    · intro y hy
      rcases List.mem_cons.1 hy with rfl | hy
      · exact ⟨t + 1, Nat.le_refl _, h⟩
      · obtain ⟨t', ht', hd'⟩ := hd y hy
        exact ⟨t', by omega, hd'⟩
theorem DistB.lt (hg : good ⟨s, f, o, js⟩ = true) (hx : okB s js x) (h : DistB s f o js x t) : t < s.toNat + 1 := by
  obtain ⟨l, hl, hn, ho, _⟩ := DistB.trail hg hx h
  have := pigeonN l (s.toNat + 1) hn fun y hy => okB_lt y (ho y hy)
  omega
theorem on_of_okB (hx : okB s js x) : onSq s js x = true := by
  rw [onSq, inB_iff.2 ⟨by omega, hx.1⟩, Bool.true_and, hx.2]; simp
end
end Go.Proofs.Ytknclgfjoajldab

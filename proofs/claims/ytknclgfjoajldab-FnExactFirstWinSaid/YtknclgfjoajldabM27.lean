/-
  Races: the first of the fewest throws, found throw by throw from a table of distances. Plain mathematics.
-/
import Derived.Test.YtknclgfjoajldabM24
namespace Go.Proofs.Ytknclgfjoajldab

/-- Where the model's FirstWin is: the throws ys are found, t more are to come, from the state q on. -/
structure StW (s o : Int) (js : List (Int × Int)) (me : Int) (m : Nat) (who : Int) (q0 : Nat) (p : List Nat) (q t : Nat) (ys : List Nat) : Prop where
  reach : Rch (nxS s o js me) m q0 q
  on : okQ s js q
  dist : DistW (nxS s o js me) (wonQ s) m who q t
  tok : 0 < t → Dt q = ys.length % 2
  rest : ∀ zs, FirstW (nxS s o js me) (wonQ s) m who q zs → p = ys ++ zs
section
variable {s f o : Int} {js : List (Int × Int)} {me who : Int} {m q0 q t : Nat} {p ys : List Nat}
theorem StW.end (h : StW s o js me m who q0 p q 0 ys) : p = ys := by
  have := h.rest [] (.nil h.dist.zero)
  simpa using this
theorem StW.won (hw : 0 < who) (h : StW s o js me m who q0 p q (t + 1) ys) : wonQ s q = 0 := (h.dist.next hw).1
theorem StW.step (hw : 0 < who) (hg : good ⟨s, f, o, js⟩ = true) (h : StW s o js me m who q0 p q (t + 1) ys) :
    ∃ face : Nat, 1 ≤ face ∧ face ≤ m ∧ DistW (nxS s o js me) (wonQ s) m who (nxS s o js me q face) t ∧ (∀ face', 1 ≤ face' → face' < face → ¬ DistW (nxS s o js me) (wonQ s) m who (nxS s o js me q face') t) ∧ StW s o js me m who q0 p (nxS s o js me q face) t (ys ++ [face]) := by
  obtain ⟨h0, face0, h1, h2, hd⟩ := h.dist.next hw
  have least : ∀ n face, face ≤ n → 1 ≤ face → face ≤ m → DistW (nxS s o js me) (wonQ s) m who (nxS s o js me q face) t → ∃ face, 1 ≤ face ∧ face ≤ m ∧ DistW (nxS s o js me) (wonQ s) m who (nxS s o js me q face) t ∧ (∀ face', 1 ≤ face' → face' < face → ¬ DistW (nxS s o js me) (wonQ s) m who (nxS s o js me q face') t) := by
    intro n
    induction n with
    | zero => intro face a b; omega
    | succ n ih =>
      intro face ha hb hc hd
      by_cases hx : ∃ j, 1 ≤ j ∧ j < face ∧ DistW (nxS s o js me) (wonQ s) m who (nxS s o js me q j) t
      · obtain ⟨j, j1, j2, j3⟩ := hx
        exact ih j (by omega) j1 (by omega) j3
      · exact ⟨face, hb, hc, hd, fun j a b c => hx ⟨j, a, b, c⟩⟩
  obtain ⟨face, f1, f2, f3, f4⟩ := least face0 face0 (Nat.le_refl _) h1 h2 hd
  refine ⟨face, f1, f2, f3, f4, ⟨h.reach.step f1 f2, okQ_nxS hg h.on f1, f3, fun ht => ?_, fun zs hz => ?_⟩⟩
  · obtain ⟨u, rfl⟩ : ∃ u, t = u + 1 := ⟨t - 1, by omega⟩
    have hwn := (f3.next hw).1
    have htk := h.tok (by omega)
    have e1 : nxS s o js me q face = muQ s (nxP s o js me q face) := by unfold nxS; rw [if_neg (by simp [h0])]
    rw [e1, wonQ_mu] at hwn
    have e2 : nxS s o js me q face = nxP s o js me q face := by rw [e1]; unfold muQ; rw [if_neg (by simp [hwn])]
    rw [e2]
    unfold nxP
    rw [if_neg (by simp [h0]), Dt_cd (by omega), htk, List.length_append]
    simp
    omega
  · have hl : zs.length = t := Least.uniq hz.dist f3
    subst hl
    rw [h.rest _ (FirstW.cons hw h.dist f1 f2 hz f4), List.append_assoc]
    rfl
end
end Go.Proofs.Ytknclgfjoajldab

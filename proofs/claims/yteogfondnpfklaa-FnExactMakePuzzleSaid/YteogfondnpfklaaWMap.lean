/-
  A map from int to int that the call made, read as a partial function. Over any program.
-/
import Derived.Test.YteogfondnpfklaaW
import Derived.Test.YteogfondnpfklaaM1
import Derived.Maps.Own
import Derived.Maps.OwnOps
import Derived.Maps.OwnSet
import Derived.Deep.Draws
namespace Go.Proofs.Yteogfondnpfklaa
open Go.RowKit Go.Maps



/-- Block b is a map of at most n entries that reads as f. -/
def IM (P : Program) (K E : TypeId) (w : World) (b n : Nat) (f : Int → Option Int) : Prop :=
  ∃ D : DataW Unit, w.ownsMap P K (plainElem P E) b n D ∧ IsMap D ∧ ∀ x, wfi x = true → Maps.has D (.int .i64 x) = (f x).isSome ∧ ∀ y, f x = some y → D.atKey (.int .i64 x) (.lit (.int .i64 0)) = .lit (.int .i64 y)

section
variable {P : Program} {K E : TypeId} {w w' : World} {b n : Nat} {f : Int → Option Int}
theorem IM.made (P : Program) (K E : TypeId) (w : World) : IM P K E (w.alloc (.map #[] 0)) w.heap.size 0 (fun _ => none) :=
  ⟨.map [], World.ownsMap_made _ _ _ _, isMap_empty, fun x _ => ⟨rfl, fun y h => by cases h⟩⟩
theorem IM.lt (h : IM P K E w b n f) : b < w.heap.size := by obtain ⟨D, h, _⟩ := h; exact h.lt
theorem IM.kept {row : Option Nat} (h : IM P K E w b n f) (hg : w.grownBy w' row) (hne : some b ≠ row) : IM P K E w' b n f := by
  obtain ⟨D, h, r⟩ := h; exact ⟨D, h.kept hg hne, r⟩
theorem IM.alloc (h : IM P K E w b n f) (o : Obj) : IM P K E (w.alloc o) b n f := by
  obtain ⟨D, h, r⟩ := h; exact ⟨D, h.alloc o, r⟩
theorem IM.drew (h : IM P K E w b n f) : IM P K E w.drew b n f := h
theorem IM.drewN (h : IM P K E w b n f) (m : Nat) : IM P K E (w.drewN m) b n f := h
theorem IM.below {B : Nat} (h : IM P K E w b n f) (hb : Below B w w') (hB : b < B) : IM P K E w' b n f := by
  obtain ⟨D, ⟨es, clock, hh, r⟩, r'⟩ := h
  exact ⟨D, ⟨es, clock, (hb.block b hB).trans hh, r⟩, r'⟩
theorem IM.setCell (h : IM P K E w b n f) (p : Addr) (u : Value) (hp : b ≠ p.block) : IM P K E (w.setCell p u) b n f := by
  obtain ⟨D, ⟨es, clock, hh, r⟩, r'⟩ := h
  exact ⟨D, ⟨es, clock, (Below.heap_setCell w p u b hp).trans hh, r⟩, r'⟩

variable {ops : Array Oper} {rest : List Oper} {o : Oper} {a : Act} {Q : Exit → Act → World → Prop}
/-- v, ok := m[k] -/
theorem IM.look (hg : o.guard = none) (m x : Operand) (t : TypeId) (hop : o.op = Op.lookup t m x true)
    (ht : P.underlying t = some (.map K E)) (hK : P.underlying K = some (.int .i64)) (hE : P.underlying E = some (.int .i64)) (hz : (zeroValue E).run P w = .ok (.int .i64 0) w)
    (h : IM P K E w b n f) (v : Int) (hm : a.eval m = .map (some b)) (hx : a.eval x = .int .i64 v) (hv : wfi v = true)
    (hk : wpList P ops Q rest (a.put o.dst (.tuple #[.int .i64 ((f v).getD 0), .bool (f v).isSome])) w) : wpList P ops Q (o :: rest) a w := by
  obtain ⟨D, hown, hD, hf⟩ := h
  refine wpList_lookup_own_ok_int _ hg m x t hop K E .i64 (int_keyed hK) ht hE hz b n D hm hown _ _ hx (keyOf_int_mk hK hv) ?_
  intro c hat hwc
  obtain ⟨h1, h2⟩ := hf v hv
  rw [h1]
  have hc : c = (f v).getD 0 := by
    cases hfv : f v with
    | none =>
      rw [hfv] at h1
      rw [atKey_of_not_has h1] at hat
      injection hat with hat; injection hat with _ hat; exact hat.symm
    | some y =>
      rw [h2 y hfv] at hat
      injection hat with hat; injection hat with _ hat; exact hat.symm
  rw [hc]
  exact hk
/-- m[k] = v -/
theorem IM.store (hg : o.guard = none) (m x v : Operand) (t : TypeId) (hop : o.op = Op.mapUpdate t m x v)
    (ht : P.underlying t = some (.map K E)) (hK : P.underlying K = some (.int .i64)) (hE : P.underlying E = some (.int .i64))
    (h : IM P K E w b n f) (hn : n < maxLen) (kx vx : Int) (hm : a.eval m = .map (some b)) (hx : a.eval x = .int .i64 kx) (hv : a.eval v = .int .i64 vx) (hwk : wfi kx = true) (hwv : wfi vx = true)
    (hk : ∀ w', IM P K E w' b (n + 1) (updF f kx vx) → w.grownBy w' (some b) → wpList P ops Q rest (a.put o.dst undef) w') : wpList P ops Q (o :: rest) a w := by
  obtain ⟨D, hown, hD, hf⟩ := h
  refine wpList_mapUpdate_own _ hg m x v t hop K E (int_keyed hK) ht _ b n D hm hown hn _ _ _ hx hv (keyOf_int_mk hK hwk) _ [] (plainElem_int hE hwv) ?_
  intro w1 hown1 hgrow1
  refine hk w1 ⟨_, hown1, hD.put _ _, fun z hz => ?_⟩ hgrow1
  by_cases he : z = kx
  · subst he
    refine ⟨by rw [has_put_same hD (show WideAt.IsKeyLit (Lit.int .i64 z) from trivial)]; simp [updF], fun y hy => ?_⟩
    simp [updF] at hy
    subst hy
    exact atKey_put_same hD (show WideAt.IsKeyLit (Lit.int .i64 z) from trivial) _ _
  · have hne : Lit.int .i64 z ≠ .int .i64 kx := fun h => he (by injection h)
    rw [has_put_other hne]
    simp only [updF, he, if_false]
    refine ⟨(hf z hz).1, fun y hy => ?_⟩
    rw [atKey_put_other hne]
    exact (hf z hz).2 y hy
end
end Go.Proofs.Yteogfondnpfklaa

/-
  Pairs: the model's table of means, and who moves.
-/
import Derived.Test.YtblpfjjnlfjloaaC5x
import Derived.Test.YtblpfjjnlfjloaaM36
namespace Go.Proofs.Ytblpfjjnlfjloaa
open Go.RowKit

theorem infoFrS : (Try.prog.info? 78).map (fun i => (i.zero, i.size, i.bytes)) = some (some (.agg #[.int .i64 0, .int .i64 0]), 2, 16) := by kernel_rfl
theorem infoSlS : (Try.prog.info? 30).map (fun i => (i.zero, i.size, i.bytes)) = some (some (.slice none 0 0), 1, 24) := by kernel_rfl
/-- Block gw holds n slices; where D holds, the i-th has the numbers F i, in a block of its own from base on. -/
def WhoS (w : World) (gw n f base : Nat) (D : Nat → Bool) (F : Nat → Nat → Int) : Prop :=
  ∃ (cs : Array Value) (V : Nat → Value), w.heap[gw]? = some (.cells cs 30 (0, 0)) ∧ n ≤ cs.size ∧ (∀ i < n, cs[i]? = some (V i)) ∧ ∀ i < n, D i = true → ∃ b c, V i = .slice (some ⟨b, 0, none⟩) f c ∧ base ≤ b ∧ RowI w b 3 f (F i)
section
variable {w w' : World} {gw n f base : Nat} {D : Nat → Bool} {F : Nat → Nat → Int}
theorem WhoS.lt (h : WhoS w gw n f base D F) : gw < w.heap.size := by obtain ⟨cs, V, h, _⟩ := h; exact heap_lt h
theorem WhoS.below (h : WhoS w gw n f base D F) (hb : Below w.heap.size w w') : WhoS w' gw n f base D F := by
  obtain ⟨cs, V, h1, h2, h3, h4⟩ := h
  refine ⟨cs, V, (hb.block _ (heap_lt h1)).trans h1, h2, h3, fun i hi hd => ?_⟩
  obtain ⟨b, c, e, hb', hr⟩ := h4 i hi hd
  exact ⟨b, c, e, hb', hr.below hb hr.lt⟩
theorem WhoS.cell (h : WhoS w gw n f base D F) {i : Nat} (hi : i < n) : (∃ v, w.cell? ⟨gw, i, none⟩ = some v) ∧ w.frozen? ⟨gw, i, none⟩ = false := by
  obtain ⟨cs, V, h1, h2, h3, h4⟩ := h
  exact ⟨⟨_, (cell_of_row _ _ _ _ _ _ h1).trans (h3 i hi)⟩, frozen_row h1⟩
theorem WhoS.far (h : WhoS w gw n f base D F) {p : Addr} (hp : p.block < base) (hg : p.block ≠ gw) (u : Value) : WhoS (w.setCell p u) gw n f base D F := by
  obtain ⟨cs, V, h1, h2, h3, h4⟩ := h
  refine ⟨cs, V, (Below.heap_setCell _ _ _ _ (Ne.symm hg)).trans h1, h2, h3, fun i hi hd => ?_⟩
  obtain ⟨b, c, e, hb', hr⟩ := h4 i hi hd
  exact ⟨b, c, e, hb', hr.far (by omega) _⟩
theorem WhoS.put (h : WhoS w gw n f base D F) (hgb : gw < base) {i b c : Nat} {g : Nat → Int} (hi : i < n) (hb : base ≤ b) (hr : RowI w b 3 f g) : WhoS (w.setCell ⟨gw, i, none⟩ (.slice (some ⟨b, 0, none⟩) f c)) gw n f base (fun j => if j = i then true else D j) (fun j => if j = i then g else F j) := by
  obtain ⟨cs, V, h1, h2, h3, h4⟩ := h
  refine ⟨_, fun j => if j = i then .slice (some ⟨b, 0, none⟩) f c else V j, heap_set _ _ _ _ _ _ h1, by simpa using h2, fun j hj => ?_, fun j hj hd => ?_⟩
  · by_cases e : j = i
    · subst e
      simp [Array.getElem?_setIfInBounds]
      omega
    · have e1 : ¬ i = j := fun h => e h.symm
      simp [e, e1, h3 j hj]
  · by_cases e : j = i
    · subst e
      simp only [if_true]
      exact ⟨b, c, rfl, hb, hr.far (by simp; omega) _⟩
    · simp only [e, if_false] at hd ⊢
      obtain ⟨b', c', e', hb', hr'⟩ := h4 j hj hd
      exact ⟨b', c', e', hb', hr'.far (by simp; omega) _⟩
theorem WhoS.made {A : Option Addr} {c base0 : Nat} (h : w.ownsRow base0 30 1 (.slice A n c) n (madeCells #[.slice none 0 0] (n * 1)).toList) (hA : A = some ⟨gw, 0, none⟩) : WhoS w gw n f base (fun _ => false) F := by
  obtain ⟨h0, ⟨hv, _⟩ | ⟨g', cap, cs, hv, _, hh, hn, _, hsz, htk⟩⟩ := h
  · subst hA; injection hv with hv; cases hv
  · subst hA
    injection hv with hv _ _
    injection hv with hv; injection hv with hv _ _
    subst hv
    refine ⟨cs, fun _ => .slice none 0 0, hh, by omega, fun k hk => ?_, fun _ _ hd => by cases hd⟩
    have : (cs.toList.take (n * 1))[k]? = (madeCells #[.slice none 0 0] (n * 1)).toList[k]? := by rw [htk]
    rw [List.getElem?_take_of_lt (by omega), Array.getElem?_toList, Array.getElem?_toList] at this
    rw [this]
    simp [madeCells, hk, Nat.mod_one]
end
theorem TabS.below {w w' : World} {gt s : Nat} {T : Tab} (h : TabS w gt s T) (hb : Below w.heap.size w w') : TabS w' gt s T := RowJ.below h hb (RowJ.lt h)
theorem TabS.set {w : World} {gt s : Nat} {T : Tab} (h : TabS w gt s T) {x y : Nat} (hx : x ≤ s) (hy : y ≤ s) (p : Fr) :
    TabS ((w.setCell ⟨gt, (x * (s + 1) + y) * 2, none⟩ (.int .i64 (p.1 : Nat))).setCell ⟨gt, (x * (s + 1) + y) * 2 + 1, none⟩ (.int .i64 (p.2 : Nat))) gt s (setT T x y p) := by
  have hlt := (h.at_ hx hy).1
  refine (RowJ.set h hlt (p.1 : Int) (p.2 : Int)).congr (fun i hi => ?_)
  have hdm := Nat.div_add_mod i (s + 1)
  have hml := Nat.mod_lt i (show s + 1 > 0 by omega)
  by_cases e : i = x * (s + 1) + y
  · subst e
    have hd : (x * (s + 1) + y) / (s + 1) = x := by rw [Nat.mul_comm, Nat.mul_add_div (by omega), Nat.div_eq_of_lt (by omega)]; omega
    have hm : (x * (s + 1) + y) % (s + 1) = y := by rw [Nat.mul_comm, Nat.mul_add_mod, Nat.mod_eq_of_lt (by omega)]
    simp [setT, hd, hm]
  · have hn : ¬ (i / (s + 1) = x ∧ i % (s + 1) = y) := fun ⟨h1, h2⟩ => e (by rw [← hdm, h1, h2, Nat.mul_comm])
    simp [setT, hn, e]
/-- What the model's rule asks holds wherever both move. -/
def GoodS (G : Tab → Nat → Nat → Nat → Prop) (s f : Nat) (T : Tab) : Prop := ∀ x y face, x ≤ s → y ≤ s → 1 ≤ face → face ≤ f → x + face ≤ s → y + face ≤ s → G (partS T s (x + y) x) x y face
/-- The model's rule tells who moves. -/
def RuleS (r : Int) (s : Nat) (ch : Tab → Nat → Nat → Nat → Nat) (G : Tab → Nat → Nat → Nat → Prop) : Prop :=
  ∀ (gt x y face c : Nat) (T : Tab) (W : World), TabS W gt s T → x ≤ s → y ≤ s → 1 ≤ face → face ≤ 8 → (∀ u v, (T u v).1 ≤ 10000000 ∧ (T u v).2 ≤ 10000000) → (x + face ≤ s → y + face ≤ s → G T x y face) →
    Calls Try.prog 63 #[.slice (some ⟨gt, 0, none⟩) ((s + 1) * (s + 1)) c, .int .i64 s, .int .i64 r, .int .i64 x, .int .i64 y, .int .i64 face] W fun e w' => e = .returned (.int .i64 (whoI (movP ch T s x y face))) ∧ Below W.heap.size W w'
theorem lead_ruleS (s : Nat) (hs : s ≤ 6) : RuleS 2 s chLead noG := by
  intro gt x y face c T W hT hx hy h1 hf _ _
  by_cases h : x + face ≤ s ∧ y + face ≤ s
  · refine (oiWho_lead s x y face gt c T W hT hs hf h.1 h.2).mono fun e w' h' => ⟨?_, h'.2⟩
    rw [h'.1]
    unfold movP chLead
    rw [if_pos h.1, if_pos h.2]
    by_cases hl : x < y <;> simp [hl, whoI]
  · exact oiWho_none s x y face 2 _ _ c chLead T W hs hx hy hf h
theorem other_ruleS (s : Nat) (hs : s ≤ 6) : RuleS 3 s chFoll noG := by
  intro gt x y face c T W hT hx hy h1 hf _ _
  by_cases h : x + face ≤ s ∧ y + face ≤ s
  · refine (oiWho_other s x y face gt c T W hT hs hf h.1 h.2).mono fun e w' h' => ⟨?_, h'.2⟩
    rw [h'.1]
    unfold movP chFoll
    rw [if_pos h.1, if_pos h.2]
    by_cases hl : x < y <;> simp [hl, whoI]
  · exact oiWho_none s x y face 3 _ _ c chFoll T W hs hx hy hf h
end Go.Proofs.Ytblpfjjnlfjloaa

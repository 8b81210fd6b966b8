/-
  Races: slices.Reverse at ints; how long the program's ways are.
-/
import Derived.Test.YtknclgfjoajldabC4q
import Derived.Shelf.SlicesG.Reverse
import Derived.Lib.OwnBridge
import Derived.Ground.SlgnProg
namespace Go.Proofs.Ytknclgfjoajldab
open Go.RowKit Go.Shelf

shelf_lay_g SlLaysN.n35 Slgn 35 at Try 72 as revInts

/-- The slice's elements reversed in their place. -/
theorem rev_any (B n : Nat) (v : Value) (zs : List Int) (w : World) (h : w.ownsRow B 3 1 v n (zs.map (Value.int .i64))) (hz : zs.length ≤ 1048576) :
    Calls Try.prog 72 #[v] w fun e w' => e = .returned (.tuple #[]) ∧ w'.ownsRow B 3 1 v n (zs.reverse.map (Value.int .i64)) ∧ ∀ w0, Below B w0 w → Below B w0 w' := by
  by_cases hv : v = .slice none 0 0
  · subst hv
    have hn : n = 0 := by
      rcases h.2 with ⟨_, e⟩ | ⟨g, cap, cs, e, _⟩
      · exact e
      · cases e
    subst hn
    have hz0 : zs = [] := by
      have := h.1
      simpa using this
    subst hz0
    have hc := AnyG.slices_Reverse_int_empty revInts none 0 w
    change Calls Try.prog 72 _ _ _ at hc
    refine hc.mono ?_
    rintro e w' ⟨rfl, rfl⟩
    exact ⟨rfl, h, fun _ hb => hb⟩
  · obtain ⟨g, cap, rfl, hB, hg, hn, hm, hl, hH⟩ := Lib.holds_of_ownsRow h hv
    subst hl
    have hc := AnyG.slices_Reverse_int revInts g 0 cap zs w hH (by omega)
    change Calls Try.prog 72 _ _ _ at hc
    refine hc.mono ?_
    rintro e w' ⟨rfl, q, rfl⟩
    have ho := Lib.ownsRow_putRow (enc := Value.int .i64) (q := q) (k := zs.length) (ys := zs.reverse) h (by simp) (Nat.le_refl _)
    rw [List.take_of_length_le (by simp)] at ho
    exact ⟨rfl, ho, fun w0 hb => Lib.below_putRow hb hB⟩

theorem Ways.short {nx : Nat → Nat → Nat} {won : Nat → Int} {m : Nat} {ok : Nat → Prop} {q0 : Nat} {L : List We} {d j : Nat} (h : Ways nx won m ok q0 L d j) : ∀ n i (hi : i < L.length), i ≤ n → (L[i]).path.length ≤ i := by
  intro n
  induction n with
  | zero =>
    intro i hi h0
    obtain rfl : i = 0 := by omega
    rw [h.start hi]
    simp
  | succ n ih =>
    intro i hi hin
    by_cases h0 : i = 0
    · subst h0
      rw [h.start hi]
      simp
    · obtain ⟨hb, _, _, _, _, hp, _⟩ := h.par i hi (by omega)
      have := ih L[i].before (by omega) (by omega)
      rw [hp, List.length_append]
      simp
      omega
end Go.Proofs.Ytknclgfjoajldab

/-
  Rows of numbers that the call owns, told by a function. Over any program.
-/
import Derived.Test.YtblpfjjnlfjloabWRow
import Derived.Maps.AppendAt
namespace Go.Proofs.Ytblpfjjnlfjloab
open Go.RowKit

def numL (n : Nat) (G : Nat → Nat) : List Value := (List.range n).map (fun i => Value.int .i64 (G i))
theorem numL_len (n : Nat) (G : Nat → Nat) : (numL n G).length = n := by simp [numL]
theorem numL_snoc (n : Nat) (G : Nat → Nat) (x : Int) (h : (G n : Int) = x) : numL n G ++ [.int .i64 x] = numL (n + 1) G := by subst h; simp [numL, List.range_succ]
theorem numL_at (n : Nat) (G : Nat → Nat) (i : Nat) (h : i < n) : (numL n G)[i]? = some (.int .i64 (G i)) := by simp [numL, h]
theorem numL_congr {n : Nat} {G H : Nat → Nat} (h : ∀ i, i < n → G i = H i) : numL n G = numL n H := by
  unfold numL
  exact List.map_congr_left fun i hi => by rw [h i (by simpa using hi)]
theorem numL_set (n : Nat) (G : Nat → Nat) (j : Nat) (x : Nat) : (numL n G).set j (.int .i64 (x : Int)) = numL n (fun i => if i = j then x else G i) := by
  apply List.ext_getElem?
  intro i
  rw [List.getElem?_set, numL_len]
  by_cases hi : i < n
  · rw [numL_at _ _ _ hi, numL_at _ _ _ hi]
    by_cases e : j = i
    · rw [if_pos e, if_pos (by omega), if_pos e.symm]
    · rw [if_neg e, if_neg (fun h => e h.symm)]
  · rw [List.getElem?_eq_none (by rw [numL_len]; omega), List.getElem?_eq_none (by rw [numL_len]; omega)]
    by_cases e : j = i
    · rw [if_pos e, if_neg (by omega)]
    · rw [if_neg e]
theorem own_sliceN {w : World} {base e size n : Nat} {v : Value} {xs : List Value} (h : w.ownsRow base e size v n xs) : ∃ A c, v = .slice A n c := by
  rcases h.2 with ⟨rfl, h0⟩ | ⟨g', cap, cs, rfl, _⟩
  · exact ⟨none, 0, by rw [h0]⟩
  · exact ⟨_, _, rfl⟩
theorem own_ltN {w : World} {base e size n : Nat} {v : Value} {xs : List Value} (h : w.ownsRow base e size v n xs) : ∀ g, v.ownBlock = some g → g < w.heap.size := by
  intro g hg
  rcases h.2 with ⟨rfl, _⟩ | ⟨g', cap, cs, rfl, _, hh, _⟩
  · cases hg
  · injection hg with hg
    subst hg
    exact heap_lt hh
/-- Where such a row lies. -/
theorem own_num {w : World} {t base n : Nat} {v : Value} {G : Nat → Nat} (h : w.ownsRow base t 1 v n (numL n G)) (h0 : 0 < n) :
    ∃ g c, v = .slice (some ⟨g, 0, none⟩) n c ∧ base ≤ g ∧ n ≤ c ∧ RowI w g t n (fun i => (G i : Int)) := by
  rcases h.2 with ⟨rfl, hz⟩ | ⟨g, cap, cs, rfl, hg, hh, hn, _, hsz, htk⟩
  · omega
  · refine ⟨g, cap, rfl, hg, hn, cs, hh, by omega, fun k hk => ?_⟩
    have : (cs.toList.take (n * 1))[k]? = (numL n G)[k]? := by rw [htk]
    rw [List.getElem?_take_of_lt (by omega), Array.getElem?_toList] at this
    rw [this, numL_at _ _ _ hk]
theorem own_newN (w : World) (u : Value) (t : TypeId) (base : Nat) {g : Nat} (hg : g = w.heap.size) (hb : base ≤ g) : (w.alloc (.cells #[u] t)).ownsRow base t 1 (.slice (some ⟨g, 0, none⟩) 1 1) 1 [u] := by
  subst hg
  exact ⟨rfl, .inr ⟨w.heap.size, 1, #[u], rfl, hb, heap_alloc_at _ _ _ rfl, Nat.le_refl _, by decide, rfl, rfl⟩⟩
theorem own_baseN {w : World} {base b0 e size n : Nat} {v : Value} {xs : List Value} (h : w.ownsRow base e size v n xs) (hb : b0 ≤ base) : w.ownsRow b0 e size v n xs := by
  obtain ⟨h1, h2 | ⟨g, cap, cs, e1, e2, e3⟩⟩ := h
  · exact ⟨h1, .inl h2⟩
  · exact ⟨h1, .inr ⟨g, cap, cs, e1, by omega, e3⟩⟩
end Go.Proofs.Ytblpfjjnlfjloab

/-
  Tracks: a list copied.
-/
import Derived.Test.YtmhffdgfkgdmlaaC7v
import Derived.Test.YtmhffdgfkgdmlaaC7p
import Derived.Test.YtmhffdgfkgdmlaaM60
namespace Go.Proofs.Ytmhffdgfkgdmlaa
open Go.RowKit

theorem own_made1 {N : Nat} {w : World} (hN : N ≤ w.heap.size) (t : TypeId) (g : Nat) (hg : g = w.heap.size) : (w.alloc (.cells #[] t)).ownsRow N t 1 (.slice (some ⟨g, 0, none⟩) 0 0) 0 [] :=
  ⟨rfl, .inr ⟨g, 0, #[], rfl, by omega, heap_alloc_at _ _ _ hg, Nat.le_refl _, by decide, rfl, rfl⟩⟩
theorem l1Own_any (b off c : Nat) (xs : List Int) (w : World) (hb : b < w.heap.size) (hc : ∀ k (h : k < xs.length), w.cell? ⟨b, off + k, none⟩ = some (.int .i64 xs[k])) (hl : xs.length ≤ 1048576) :
    Calls Try.prog 102 #[.slice (some ⟨b, off, none⟩) xs.length c] w fun e w' => ∃ A c', e = .returned (.slice A xs.length c') ∧ OI w' w.heap.size 3 A xs.length (fun k => xs.getD k 0) ∧ Below w.heap.size w w' := by
  obtain ⟨i0, hi, hz0, hz1, hz2⟩ := info_parts infoInt1
  have hcell : ∀ j u, (xs.map (Value.int .i64))[j]? = some u → (w.alloc (.cells #[] 3)).cell? ((⟨b, off, none⟩ : Addr).add j) = some u := by
    intro j u h
    have hj : j < xs.length := by
      rcases Nat.lt_or_ge j xs.length with h1 | h1
      · exact h1
      · rw [List.getElem?_eq_none (by simpa using h1)] at h; cases h
    simp only [List.getElem?_map, List.getElem?_eq_getElem hj, Option.map_some, Option.some.injEq] at h
    rw [← h]
    rw [show (⟨b, off, none⟩ : Addr).add j = ⟨b, off + j, none⟩ by simp [Addr.add]]; exact (bcell (below1 w _) hb).trans (hc j hj)
  have hone : ∀ u ∈ xs.map (Value.int .i64), u.oneCell' = true := by
    intro u hu
    rw [List.mem_map] at hu
    obtain ⟨i, _, rfl⟩ := hu
    rfl
  go_enter Try.func102, Try.ntmps102
  go_wp2_with (at_builtin; go_loud (refine wpList_append_own _ rfl _ _ 22 rfl w.heap.size 3 i0 (.int .i64 0) 1 8 Try.underlying22 hi hz0 hz1 hz2 rfl (by decide) _ 0 [] rfl (own_made1 (Nat.le_refl _) _ _ rfl) ⟨b, off, none⟩ xs.length c (xs.map (Value.int .i64)) rfl (by simp) hcell hone (by unfold maxLen; omega) (by omega) (by simp) ?_; intro v1 w6 hown6 hg6 _))
  have hown7 : w6.ownsRow w.heap.size 3 1 v1 xs.length (xs.map (Value.int .i64)) := by simpa using hown6
  obtain ⟨A, c', rfl, hO⟩ := own_oi hown7 rfl
  go_wp2_with fail
  go_ret
  exact ⟨A, c', rfl, hO, (below1 w _).grown hg6 (by simp) (fun k h => own_from (own_made1 (Nat.le_refl w.heap.size) 3 _ rfl) k h)⟩
end Go.Proofs.Ytmhffdgfkgdmlaa

/-
  Puzzles that are made: which clue comes from a kind and a number.
-/
import Derived.Test.YteogfondnpfklaaC9i
namespace Go.Proofs.Yteogfondnpfklaa
open Go.RowKit

/-- The number that follows one. -/
def nxZ (z : Nat) : Nat := (193 * z + 2459) % 10007
theorem nxZ_lt (z : Nat) : nxZ z < 10007 := Nat.mod_lt _ (by omega)
/-- A jump begins at a square of a good board just where no token can stay. -/
theorem jcnt_on {s f o : Int} {js : List (Int × Int)} (hg : good ⟨s, f, o, js⟩ = true) {a : Int} (h0 : 0 ≤ a) (h1 : a ≤ s) : onSq s js a = !decide (0 < jcnt js a) := by
  have hz := good_sizes hg
  cases ho : onSq s js a
  · rw [onSq, inB_iff.2 ⟨h0, h1⟩, Bool.true_and] at ho
    have hne : jumpOf js a ≠ a := by simpa using ho
    have : 0 < jcnt js a := by
      rcases Nat.eq_zero_or_pos (js.filter (fun j => j.1 == a)).length with h | h
      · exfalso
        refine hne (jumpOf_none _ _ fun j hj e => ?_)
        have h2 := List.length_eq_zero_iff.1 h
        have h3 : j ∈ js.filter (fun j => j.1 == a) := List.mem_filter.2 ⟨hj, by simp [e]⟩
        rw [h2] at h3
        cases h3
      · unfold jcnt; omega
    rw [decide_eq_true this]; rfl
  · rw [onSq, inB_iff.2 ⟨h0, h1⟩, Bool.true_and] at ho
    have he : jumpOf js a = a := by simpa using ho
    have : ¬ 0 < jcnt js a := fun hp => by
      unfold jcnt at hp
      obtain ⟨j, hj⟩ := List.exists_mem_of_length_pos (show 0 < (js.filter (fun j => j.1 == a)).length by omega)
      have hm := List.mem_filter.1 hj
      have hja : j.1 = a := by simpa using hm.2
      obtain ⟨j2, hj2, e1, e2⟩ := jumpOf_hit js a ⟨j, hm.1, hja⟩
      have hne := good_ne hg j2 hj2
      rw [e1, ← e2, he] at hne
      exact hne rfl
    rw [decide_eq_false this]; rfl
end Go.Proofs.Yteogfondnpfklaa

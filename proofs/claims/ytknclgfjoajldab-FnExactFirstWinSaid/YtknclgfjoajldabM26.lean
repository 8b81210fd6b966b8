/-
  Races: which states have been met, as a row of booleans. Plain mathematics.
-/
import Derived.Test.YtknclgfjoajldabM23
namespace Go.Proofs.Ytknclgfjoajldab
open Go.RowKit

/-- A state's place among the booleans. -/
def ixQ (W q : Nat) : Nat := Dt q * 1681 + Dx W q * 41 + Dy W q
theorem ixQ_cd {W x y t : Nat} (hy : y < W) (ht : t < 2) : ixQ W (cd W x y t) = t * 1681 + x * 41 + y := by
  unfold ixQ; rw [Dx_cd hy ht, Dy_cd hy ht, Dt_cd ht]
theorem ixQ_lt {W q : Nat} (hx : Dx W q ≤ 40) (hy : Dy W q ≤ 40) : ixQ W q < 3362 := by
  have : Dt q < 2 := by unfold Dt; omega
  unfold ixQ; omega
theorem ixQ_inj {W q q' : Nat} (hx : Dx W q ≤ 40) (hy : Dy W q ≤ 40) (hx' : Dx W q' ≤ 40) (hy' : Dy W q' ≤ 40) (h : ixQ W q = ixQ W q') : q = q' := by
  have h1 : Dt q < 2 := by unfold Dt; omega
  have h2 : Dt q' < 2 := by unfold Dt; omega
  unfold ixQ at h
  rw [← cd_D (W := W) (q := q), ← cd_D (W := W) (q := q'), show Dt q = Dt q' by omega, show Dx W q = Dx W q' by omega, show Dy W q = Dy W q' by omega]
/-- The booleans. -/
def arrM (P : Nat → Bool) : Array Value := ((List.range 3362).map (fun i => Value.bool (P i))).toArray
theorem arrM_size (P : Nat → Bool) : (arrM P).size = 3362 := by simp [arrM]
theorem arrM_at (P : Nat → Bool) {i : Nat} (hi : i < 3362) : (arrM P)[i]? = some (.bool (P i)) := by simp [arrM, hi]
theorem arrM_one (P : Nat → Bool) : ∀ u ∈ (arrM P).toList, u.oneCell' = true := by
  intro u hu
  simp only [arrM, List.mem_map] at hu
  obtain ⟨i, _, rfl⟩ := hu
  rfl
theorem arrM_set (P : Nat → Bool) {k : Nat} (hk : k < 3362) (v : Bool) : (arrM P).setIfInBounds k (.bool v) = arrM (fun i => if i = k then v else P i) := by
  apply Array.ext_getElem?
  intro i
  rw [Array.getElem?_setIfInBounds, arrM_size]
  by_cases hi : i < 3362
  · rw [arrM_at _ hi, arrM_at _ hi]
    by_cases e : k = i
    · subst e; simp [hk]
    · have e1 : ¬ i = k := fun h => e h.symm
      simp [e, e1]
  · have h1 : (arrM P)[i]? = none := by simp [arrM]; omega
    have h2 : (arrM (fun i => if i = k then v else P i))[i]? = none := by simp [arrM]; omega
    rw [h1, h2]
    have : ¬ k = i := by omega
    simp [this]
end Go.Proofs.Ytknclgfjoajldab

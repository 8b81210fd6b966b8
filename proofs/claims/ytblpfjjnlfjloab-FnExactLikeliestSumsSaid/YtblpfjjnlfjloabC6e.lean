/-
  Dice: throws are compared.
-/
import Derived.Test.YtblpfjjnlfjloabC6a
import Derived.ChangeKeysEq
namespace Go.Proofs.Ytblpfjjnlfjloab
open Go.RowKit

theorem cells_intT : Try.prog.cellsOf 3 = 1 := by kernel_rfl
theorem zero_intT (w : World) : (zeroValue 3).run Try.prog w = .ok (.int .i64 0) w := by kernel_rfl
def thEq (S T : Nat → Nat) : Bool := (List.range 8).all fun i => S i == T i
theorem thEq_yes {S T : Nat → Nat} (h : ∀ i, S i = T i) : thEq S T = true := by simp [thEq, h]
theorem thEq_no {S T : Nat → Nat} {i : Nat} (hi : i < 8) (h : S i ≠ T i) : thEq S T = false := by
  rw [Bool.eq_false_iff]
  intro e
  unfold thEq at e
  rw [List.all_eq_true] at e
  exact h (by simpa using e i (by simpa using hi))
theorem part_thr (T : Nat → Nat) (i : Nat) (hi : i < 8) (w : World) : (part 3 (thC T) (i * 1)).run Try.prog w = .ok (.int .i64 (T i)) w := by
  obtain ⟨i0, h0, _, h2, _⟩ := info_parts infoInt1
  have := thC_at T hi
  simp [part, go_sem, this]
theorem eq_items (S T : Nat → Nat) : ∀ (is : List Nat) (w : World), (∀ i ∈ is, i < 8) → (Op.eqItems 9999 3 1 (thC S) (thC T) is).run Try.prog w = .ok (is.all fun i => S i == T i) w
  | [], w, _ => by simp [Op.eqItems]
  | i :: is, w, h => by
    have h1 := part_thr S i (h i (by simp)) w
    have h2 := part_thr T i (h i (by simp)) w
    have ih := eq_items S T is w (fun j hj => h j (by simp [hj]))
    have he : (Op.equalIn 9999 3 (.int .i64 (S i : Nat)) (.int .i64 (T i : Nat))).run Try.prog w = .ok (S i == T i) w := by
      have hc : (((S i : Nat) : Int) == ((T i : Nat) : Int)) = (S i == T i) := by rw [Bool.eq_iff_iff]; simp; omega
      simp [go_sem, hc]
    simp only [Op.eqItems, Sem.run_bind, h1, h2, he, Result.andThen_ok, List.all_cons]
    cases hb : (S i == T i)
    · simp
    · simpa using ih
theorem eq_throws (S T : Nat → Nat) (w : World) : (Op.equalIn 10000 57 (.agg (thC S)) (.agg (thC T))).run Try.prog w = .ok (thEq S T) w := by
  obtain ⟨i0, hi, _, _, _⟩ := info_parts infoInt1
  have e : (Op.equalIn 10000 57 (.agg (thC S)) (.agg (thC T))).run Try.prog w = (Op.eqItems 9999 3 1 (thC S) (thC T) (List.range 8)).run Try.prog w := by
    rw [← cells_intT]
    exact run_equalIn_array w 9999 _ _ Try.underlying57 hi
  rw [e]
  exact eq_items S T _ w (fun i hi => by simpa using hi)
end Go.Proofs.Ytblpfjjnlfjloab

/-
  Pairs: PairByRule on both sides, with the tables written out.
-/
import Derived.Test.YtblpfjjnlfjloaaC5zc
import Derived.Test.YtblpfjjnlfjloaaM50
namespace Go.Proofs.Ytblpfjjnlfjloaa
open Go.RowKit

theorem pairByRule_both (s f a b : Int) (l : Bool) : ∃ (x y : Int) (ok : Bool),
    (∀ w, Calls Try.prog 16 #[.int .i64 s, .int .i64 f, .int .i64 a, .int .i64 b, .bool l] w fun e w' => e = .returned (.tuple #[.int .i64 x, .int .i64 y, .bool ok]) ∧ Below w.heap.size w w') ∧
    (∀ w, Calls Try.prog 17 #[.int .i64 s, .int .i64 f, .int .i64 a, .int .i64 b, .bool l] w fun e w' => e = .returned (.tuple #[.int .i64 x, .int .i64 y, .bool ok]) ∧ Below w.heap.size w w') := by
  cases hp : pairOk s f a b
  · exact ⟨0, 0, false, fun w => specByRule_no s f a b l w hp, fun w => implByRule_no s f a b l w hp⟩
  · have h := pairOk_iff.1 hp
    obtain ⟨m, rfl⟩ : ∃ m : Nat, s = m := ⟨s.toNat, by omega⟩
    obtain ⟨n, rfl⟩ : ∃ n : Nat, f = n := ⟨f.toNat, by omega⟩
    obtain ⟨x, rfl⟩ : ∃ x : Nat, a = x := ⟨a.toNat, by omega⟩
    obtain ⟨y, rfl⟩ : ∃ y : Nat, b = y := ⟨b.toNat, by omega⟩
    obtain ⟨h1, h2, h3⟩ := ruleTab_all l m n (by omega) (by omega) (by omega) (by omega)
    have hch : chBool l = chBoolM leadM follM l := by cases l <;> rfl
    have hb := smallB_iff (s := m) h1
    have hT : TabOk (chBool l) m n (rowsTab m (ruleTab l m n)) := by rw [hch]; exact ⟨fun u v _ _ => hb u v, okPB_iff h2⟩
    have hS : TabOkS (chBool l) m n (rowsTab m (ruleTab l m n)) := by rw [hch]; exact okSB_iff h3
    exact ⟨_, _, _, fun w => specByRule_yes m n x y l _ w hp hS hb (by omega) (by omega) (by omega) (by omega) (by omega), fun w => implByRule_yes m n x y l _ w hp hT⟩
end Go.Proofs.Ytblpfjjnlfjloaa

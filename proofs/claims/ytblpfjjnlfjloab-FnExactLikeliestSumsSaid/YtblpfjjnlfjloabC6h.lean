/-
  Dice: sumsKept, sumsOf, and what is told of them.
-/
import Derived.Test.YtblpfjjnlfjloabC6g
namespace Go.Proofs.Ytblpfjjnlfjloab
open Go.RowKit

/-- The tally that a cup's sums hand back. -/
def TallyBack (w : World) (d f k : Nat) (e : Ending) (w' : World) : Prop :=
  ∃ gr, e = .returned (.tuple #[.slice (some ⟨gr, 0, none⟩) (k * f + 1) (k * f + 1), .bool true]) ∧ w.heap.size ≤ gr ∧ TallyAt w' gr (k * f + 1) (kq d f k) ∧ Below w.heap.size w w'

set_option maxRecDepth 100000 in
theorem sumsKept_yes (d f k : Nat) (w : World) (hd : d ≤ 8) (hf1 : 1 ≤ f) (hf : f ≤ 12) (hk1 : 1 ≤ k) (hk : k ≤ d) :
    Calls Try.prog 45 #[.int .i64 d, .int .i64 f, .int .i64 k] w (TallyBack w d f k) := by
  have hc : cupB (d : Int) (f : Int) = true := cupB_iff.2 (by omega)
  have h1 : ¬ (k : Int) < 1 := by omega
  have h2 : ¬ (d : Int) < (k : Int) := by omega
  go_enter Try.func45, Try.ntmps45
  go_wp2_with fail
  refine (cupOf_yes _ _ _ hc).mono ?_
  rintro e w1 ⟨rfl, hx1⟩
  have hb := (hx1.alloc hx1.size (.cells #[.int .i64 d, .int .i64 f] 50))
  go_wp2_with fail
  refine (sums_any d f k _ hd hf1 hf hk1 hk).mono ?_
  rintro e w2 ⟨gr, rfl, hgr, hr, hx2⟩
  have hz := hx1.size
  simp only [World.size_alloc] at hgr
  have hb2 := hb.trans (hx2.mono (by simp; omega))
  clear hc
  go_wp2
  go_ret2
  exact ⟨gr, rfl, by omega, hr, hb2⟩

set_option maxRecDepth 100000 in
theorem sumsKept_no (d f k : Int) (w : World) (h : keptB d f k = false) :
    Calls Try.prog 45 #[.int .i64 d, .int .i64 f, .int .i64 k] w fun e w' => e = .returned (.tuple #[.slice none 0 0, .bool false]) ∧ Below w.heap.size w w' := by
  cases hc : cupB d f
  · go_enter Try.func45, Try.ntmps45
    go_wp2_with fail
    refine (cupOf_no _ _ _ hc).mono ?_
    rintro e w1 ⟨rfl, hx1⟩
    have hb := (hx1.alloc hx1.size (.cells #[.int .i64 0, .int .i64 0] 50))
    go_wp2
    go_ret2
    exact ⟨rfl, hb⟩
  · have hk : k < 1 ∨ d < k := by
      have h1 := cupB_iff.1 hc
      have : ¬ (1 ≤ k ∧ k ≤ d) := fun e => by rw [keptB_iff.2 ⟨h1, e⟩] at h; cases h
      omega
    clear h
    by_cases h1 : k < 1
    · go_enter Try.func45, Try.ntmps45
      go_wp2_with fail
      refine (cupOf_yes _ _ _ hc).mono ?_
      rintro e w1 ⟨rfl, hx1⟩
      have hb := (hx1.alloc hx1.size (.cells #[.int .i64 d, .int .i64 f] 50))
      go_wp2
      go_ret2
      exact ⟨rfl, hb⟩
    · have h2 : d < k := by omega
      go_enter Try.func45, Try.ntmps45
      go_wp2_with fail
      refine (cupOf_yes _ _ _ hc).mono ?_
      rintro e w1 ⟨rfl, hx1⟩
      have hb := (hx1.alloc hx1.size (.cells #[.int .i64 d, .int .i64 f] 50))
      go_wp2
      go_ret2
      exact ⟨rfl, hb⟩

theorem sumsOf_yes (d f : Nat) (w : World) (hd1 : 1 ≤ d) (hd : d ≤ 8) (hf1 : 1 ≤ f) (hf : f ≤ 12) :
    Calls Try.prog 36 #[.int .i64 d, .int .i64 f] w (TallyBack w d f d) := by
  go_enter Try.func36, Try.ntmps36
  go_wp2_with fail
  refine (sumsKept_yes d f d _ hd hf1 hf hd1 (Nat.le_refl _)).mono ?_
  rintro e w1 ⟨gr, rfl, hgr, hr, hx⟩
  go_wp2
  go_ret2
  exact ⟨gr, rfl, hgr, hr, hx⟩
theorem sumsOf_no (d f : Int) (w : World) (h : cupB d f = false) :
    Calls Try.prog 36 #[.int .i64 d, .int .i64 f] w fun e w' => e = .returned (.tuple #[.slice none 0 0, .bool false]) ∧ Below w.heap.size w w' := by
  go_enter Try.func36, Try.ntmps36
  go_wp2_with fail
  refine (sumsKept_no d f d _ (by rw [keptB_self]; exact h)).mono ?_
  rintro e w1 ⟨rfl, hx⟩
  go_wp2
  go_ret2
  exact ⟨rfl, hx⟩
end Go.Proofs.Ytblpfjjnlfjloab

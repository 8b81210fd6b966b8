/-
  Puzzles: the program's check of a clue, which raises it if it is none.
-/
import Derived.Test.YteogfondnpfklaaC9b
namespace Go.Proofs.Yteogfondnpfklaa
open Go.RowKit

theorem limits_in (q f k a b c : Int) (h0 : 0 ≤ k) (h5 : k ≤ 5) (w : World) : Calls Try.prog 143 #[.agg #[.int .i64 q, .int .i64 f], .agg #[.int .i64 k, .int .i64 a, .int .i64 b, .int .i64 c]] w fun e w' => e = .returned (.tuple #[.agg #[.int .i64 0, .int .i64 0, .int .i64 (leB k), .int .i64 0], .agg #[.int .i64 0, .int .i64 (moA q k), .int .i64 (moB f k), .int .i64 (moC q k)]]) ∧ Below w.heap.size w w' := by
  rcases (show k = 0 ∨ k = 1 ∨ k = 2 ∨ k = 3 ∨ k = 4 ∨ k = 5 by omega) with rfl | rfl | rfl | rfl | rfl | rfl
  · exact limits0 q f a b c w
  · exact limits1 q f a b c w
  · exact limits2 q f a b c w
  · exact limits3 q f a b c w
  · exact limits4 q f a b c w
  · exact limits5 q f a b c w

/-- What check hands back. -/
def CheckBack (r : Bool) (k a b c : Int) (w : World) (e : Ending) (w' : World) : Prop :=
  Below w.heap.size w w' ∧ ((r = true ∧ e = .returned (.tuple #[])) ∨ (r = false ∧ e = .panicked (chainQ k a b c)))

set_option maxRecDepth 100000 in
set_option maxHeartbeats 1000000 in
theorem check_any (q f k a b c : Int) (w : World) : Calls Try.prog 125 #[.agg #[.int .i64 q, .int .i64 f], .agg #[.int .i64 k, .int .i64 a, .int .i64 b, .int .i64 c]] w (CheckBack (clB q f k a b c) k a b c w) := by
  obtain ⟨r, hr⟩ : ∃ r, r = clB q f k a b c := ⟨_, rfl⟩
  rw [← hr]
  by_cases hk : 0 ≤ k ∧ k ≤ 5
  · rw [clB_eq hk.1 hk.2] at hr
    obtain ⟨A, hA⟩ : ∃ A, A = moA q k := ⟨_, rfl⟩
    obtain ⟨B, hB⟩ : ∃ B, B = moB f k := ⟨_, rfl⟩
    obtain ⟨C, hC⟩ : ∃ C, C = moC q k := ⟨_, rfl⟩
    obtain ⟨l, hl⟩ : ∃ l, l = leB k := ⟨_, rfl⟩
    rw [← hA, ← hB, ← hC, ← hl] at hr
    have HR := Lib.hid hr; have HA := Lib.hid hA; have HB := Lib.hid hB; have HC := Lib.hid hC; have HL := Lib.hid hl
    clear hr hA hB hC hl
    cases h1 : inB a 0 A
    all_goals cases h2 : inB b l B
    all_goals cases h3 : inB c 0 C
    all_goals
      have hrr := HR.out
      rw [h1, h2, h3] at hrr
      simp only [Bool.and_self, Bool.and_false, Bool.and_true] at hrr
      have HRR := Lib.hid hrr
      clear hrr
      go_enter Try.func125, Try.ntmps125
      go_wp2_with fail
      refine (limits_in q f k a b c hk.1 hk.2 _).mono ?_
      rintro e w1 ⟨rfl, hx⟩
      simp only [World.size_alloc] at hx
      rw [← HA.out, ← HB.out, ← HC.out, ← HL.out]
      have hb1 := (below2 w (.cells #[.int .i64 q, .int .i64 f] 96) (.cells #[.int .i64 k, .int .i64 a, .int .i64 b, .int .i64 c] 44)).trans (hx.mono (by omega))
      have qq : ∀ i, w1.cell? ⟨w.heap.size + 1, i, none⟩ = #[Value.int .i64 k, .int .i64 a, .int .i64 b, .int .i64 c][i]? := fun i => cell_of_row w1 (w.heap.size + 1) i _ _ _ ((hx.block (w.heap.size + 1) (by omega)).trans (heap_alloc_at _ _ _ (by simp)))
      have hs1 : w.heap.size + 1 < w1.heap.size := by have := hx.size; simp at this; omega
      go_upto_region 2 with fail
      have q3 : ∀ i, ((w1.alloc (.cells #[.int .i64 0, .int .i64 0, .int .i64 l, .int .i64 0] 44)).alloc (.cells #[.int .i64 0, .int .i64 A, .int .i64 B, .int .i64 C] 44)).cell? ⟨w.heap.size + 1, i, none⟩ = #[Value.int .i64 k, .int .i64 a, .int .i64 b, .int .i64 c][i]? := fun i => (bcell (below2 w1 _ _) hs1).trans (qq i)
      have q4 : ∀ i, ((w1.alloc (.cells #[.int .i64 0, .int .i64 0, .int .i64 l, .int .i64 0] 44)).alloc (.cells #[.int .i64 0, .int .i64 A, .int .i64 B, .int .i64 C] 44)).cell? ⟨w1.heap.size, i, none⟩ = #[Value.int .i64 0, .int .i64 0, .int .i64 l, .int .i64 0][i]? := fun i => cell_of_row _ w1.heap.size i _ _ _ ((Below.heap_alloc _ _ _ (by simp)).trans (heap_alloc_at _ _ _ rfl))
      have q5 : ∀ i, ((w1.alloc (.cells #[.int .i64 0, .int .i64 0, .int .i64 l, .int .i64 0] 44)).alloc (.cells #[.int .i64 0, .int .i64 A, .int .i64 B, .int .i64 C] 44)).cell? ⟨w1.heap.size + 1, i, none⟩ = #[Value.int .i64 0, .int .i64 A, .int .i64 B, .int .i64 C][i]? := fun i => cell_of_row _ (w1.heap.size + 1) i _ _ _ (heap_alloc_at _ _ _ (by simp))
      have hb3 : Below w.heap.size w ((w1.alloc (.cells #[.int .i64 0, .int .i64 0, .int .i64 l, .int .i64 0] 44)).alloc (.cells #[.int .i64 0, .int .i64 A, .int .i64 B, .int .i64 C] 44)) := hb1.trans ((below2 w1 _ _).mono hb1.size)
      obtain ⟨W3, hW3⟩ : ∃ W3, W3 = (w1.alloc (.cells #[.int .i64 0, .int .i64 0, .int .i64 l, .int .i64 0] 44)).alloc (.cells #[.int .i64 0, .int .i64 A, .int .i64 B, .int .i64 C] 44) := ⟨_, rfl⟩
      rw [← hW3] at q3 q4 q5 hb3 ⊢
      clear hW3 qq hx hb1
      go_wp2_with (go_at_call 55; refine (isWithin9_any _ _ _ _).mono ?_; rintro e w' ⟨rfl, rfl⟩)
    all_goals first
      | exact ⟨rfl, hb3, .inr ⟨HRR.out, rfl⟩⟩
      | (go_end0; exact ⟨hb3, .inl ⟨HRR.out, rfl⟩⟩)
  · rw [clB_out (by omega)] at hr
    have HR := Lib.hid hr
    clear hr
    go_enter Try.func125, Try.ntmps125
    go_wp2_with fail
    refine (limits_out q f k a b c _ (by omega)).mono ?_
    rintro e w1 ⟨rfl, hx⟩
    simp only [World.size_alloc] at hx
    go_wp2_with fail
    exact ⟨rfl, (below2 w _ _).trans (hx.mono (by omega)), .inr ⟨HR.out, rfl⟩⟩
end Go.Proofs.Yteogfondnpfklaa

/-
  Tracks: the program's movesOf: all moves of a player.
-/
import Derived.Test.YtbheegdmamcgaabC7i
import Derived.Test.YtbheegdmamcgaabM64
namespace Go.Proofs.Ytbheegdmamcgaab
open Go.RowKit

theorem infoMove : (Try.prog.info? 143).map (fun i => (i.zero, i.size, i.bytes)) = some (some (.agg #[.int .i64 0, .int .i64 0, .int .i64 0]), 3, 24) := by kernel_rfl
theorem cells_three (w : World) (u v x : Value) (t : TypeId) : ∀ (j : Nat) y, [u, v, x][j]? = some y → (w.alloc (.cells #[u, v, x] t)).cell? ((⟨w.heap.size, 0, none⟩ : Addr).add j) = some y := by
  intro j y h
  match j, h with
  | 0, h => simp at h; subst h; simp [Addr.add, World.cell?_alloc_at _ _ _ _ rfl]
  | 1, h => simp at h; subst h; simp [Addr.add, World.cell?_alloc_at _ _ _ _ rfl]
  | 2, h => simp at h; subst h; simp [Addr.add, World.cell?_alloc_at _ _ _ _ rfl]
theorem three_ints (x y z : Int) : ∀ u ∈ [Value.int .i64 x, .int .i64 y, .int .i64 z], u.oneCell' = true := by intro u hu; simp at hu; rcases hu with rfl | rfl | rfl <;> rfl

set_option maxRecDepth 100000 in
set_option maxHeartbeats 2000000 in
theorem movesOf_any (g : Nat) (q f k : Int) (A : Option Addr) (n c : Nat) (S : Nat → Bool) (p : Int) (w : World) (hR : RA w g 81 q f k A n c S) (hf0 : 0 ≤ f) (hf8 : f ≤ 8) (hk : 0 ≤ k) (hk4 : k ≤ 4) :
    Calls Try.prog 100 #[.pointer (some ⟨g, 0, none⟩), .int .i64 p] w fun e w' =>
      ∃ v, e = .returned v ∧ w'.ownsRow w.heap.size 143 3 v (k.toNat * f.toNat) (mvsC p f.toNat (k.toNat * f.toNat)) ∧ Below w.heap.size w w' := by
  have hgw := hR.lt
  obtain ⟨i0, hi, hz0, hz1, hz2⟩ := info_parts infoMove
  obtain ⟨K, hK⟩ := Int.eq_ofNat_of_zero_le hk
  obtain ⟨E, hE⟩ := Int.eq_ofNat_of_zero_le hf0
  subst hK hE
  rw [Int.toNat_natCast, Int.toNat_natCast]
  go_enter Try.func100, Try.ntmps100
  have d2 := hR.c2
  go_wp2
  go_loopw [5, 6, 7, 12] (fun v _ _ i wr => ∃ t : Nat, t ≤ K ∧ i = .int .i64 t ∧ Below w.heap.size w wr ∧ wr.ownsRow w.heap.size 143 3 v (t * E) (mvsC p E (t * E))) (fun _ _ _ i _ => K - (intOf i).toNat)
  case atStart => exact ⟨0, Nat.zero_le _, rfl, Below.refl _ _, by rw [Nat.zero_mul]; exact World.ownsRow_nil _ _ _ _⟩
  case round =>
    obtain ⟨t, ht, rfl, hB, hown⟩ := hrel
    by_cases htl : t < K
    · go_wp2
      go_loopw [5, 7] (fun v i wi => ∃ j : Nat, j ≤ E ∧ i = .int .i64 ((j : Int) + 1) ∧ Below w.heap.size w wi ∧ wi.ownsRow w.heap.size 143 3 v (t * E + j) (mvsC p E (t * E + j))) (fun _ i _ => E + 1 - (intOf i).toNat)
      case atStart => exact ⟨0, Nat.zero_le _, rfl, hB, by rw [Nat.add_zero]; exact hown⟩
      case round =>
        clear hB hown
        obtain ⟨j, hj, rfl, hB, hown⟩ := hrel
        have R1 := hR.below hB hgw
        have d1 := R1.c1
        have hsz := hB.size
        by_cases hjl : j < E
        · have h4 : (j : Int) + 1 ≤ (E : Int) := by omega
          have hml : t * E + j ≤ 100 := by
            have : t * E ≤ 4 * 8 := Nat.mul_le_mul (by omega) (by omega)
            omega
          have HN := Lib.hid (mvsC_next p (t := t) hjl)
          obtain ⟨m, hm⟩ : ∃ m, m = t * E + j := ⟨_, rfl⟩
          obtain ⟨C, hC⟩ : ∃ C, C = mvsC p E m := ⟨_, rfl⟩
          rw [← hm] at hown hml
          rw [← hC] at hown
          have HM := Lib.hid hm; have HC := Lib.hid hC
          clear hm hC
          go_wp2_with (at_builtin; go_loud (refine wpList_append_own _ rfl _ _ 140 rfl w.heap.size 143 i0 (.agg #[.int .i64 0, .int .i64 0, .int .i64 0]) 3 24 Try.underlying140 hi hz0 hz1 hz2 rfl (by decide) _ _ _ rfl (hown.alloc _) ⟨wr.heap.size, 0, none⟩ 1 1 [.int .i64 p, .int .i64 (t : Int), .int .i64 ((j : Int) + 1)] rfl rfl (cells_three _ _ _ _ _) (three_ints _ _ _) (by unfold maxLen; omega) (by omega) (by simp; omega) ?_; intro v1 w6 hown6 hg6 _))
          go_roundw
          case rel =>
            refine ⟨j + 1, by omega, by go_num, (hB.alloc hsz _).grown hg6 (by simp; omega) (fun i h => own_from hown i h), ?_⟩
            rw [← Nat.add_assoc, HN.out, ← HM.out, ← HC.out]
            exact hown6
          case measure => simp [intOf]; omega
        · obtain rfl : j = E := by omega
          have h4 : ¬ (j : Int) + 1 ≤ (j : Int) := by omega
          go_wp2
          go_roundw
          case rel => exact ⟨t + 1, by omega, by go_num, hB, by rw [Nat.succ_mul]; exact hown⟩
          case measure => simp [intOf]; omega
    · obtain rfl : t = K := by omega
      go_wp2
      go_ret
      exact ⟨_, rfl, hown, hB⟩
end Go.Proofs.Ytbheegdmamcgaab

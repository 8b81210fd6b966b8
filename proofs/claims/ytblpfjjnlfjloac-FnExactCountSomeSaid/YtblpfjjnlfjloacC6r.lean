/-
  Dice: how often a face comes, the most often, the longest run.
-/
import Derived.Test.YtblpfjjnlfjloacC6q
import Derived.Test.YtblpfjjnlfjloacM46
import Derived.WalkLawsBesides
namespace Go.Proofs.Ytblpfjjnlfjloac
open Go.RowKit

theorem index_thr0 (T : Nat → Nat) (w : World) : (Instr.index 37 (.agg (thC T)) (.int .i64 0)).run Try.prog w = .ok (.int .i64 (T 0)) w := by kernel_rfl
theorem index_thr1 (T : Nat → Nat) (w : World) : (Instr.index 37 (.agg (thC T)) (.int .i64 1)).run Try.prog w = .ok (.int .i64 (T 1)) w := by kernel_rfl
theorem index_thr2 (T : Nat → Nat) (w : World) : (Instr.index 37 (.agg (thC T)) (.int .i64 2)).run Try.prog w = .ok (.int .i64 (T 2)) w := by kernel_rfl
theorem index_thr3 (T : Nat → Nat) (w : World) : (Instr.index 37 (.agg (thC T)) (.int .i64 3)).run Try.prog w = .ok (.int .i64 (T 3)) w := by kernel_rfl
theorem index_thr4 (T : Nat → Nat) (w : World) : (Instr.index 37 (.agg (thC T)) (.int .i64 4)).run Try.prog w = .ok (.int .i64 (T 4)) w := by kernel_rfl
theorem index_thr5 (T : Nat → Nat) (w : World) : (Instr.index 37 (.agg (thC T)) (.int .i64 5)).run Try.prog w = .ok (.int .i64 (T 5)) w := by kernel_rfl
theorem index_thr6 (T : Nat → Nat) (w : World) : (Instr.index 37 (.agg (thC T)) (.int .i64 6)).run Try.prog w = .ok (.int .i64 (T 6)) w := by kernel_rfl
theorem index_thr7 (T : Nat → Nat) (w : World) : (Instr.index 37 (.agg (thC T)) (.int .i64 7)).run Try.prog w = .ok (.int .i64 (T 7)) w := by kernel_rfl
theorem index_thr (T : Nat → Nat) (k : Nat) (hk : k < 8) (w : World) : (Instr.index 37 (.agg (thC T)) (.int .i64 (k : Int))).run Try.prog w = .ok (.int .i64 (T k)) w := by
  match k, hk with
  | 0, _ => exact index_thr0 T w
  | 1, _ => exact index_thr1 T w
  | 2, _ => exact index_thr2 T w
  | 3, _ => exact index_thr3 T w
  | 4, _ => exact index_thr4 T w
  | 5, _ => exact index_thr5 T w
  | 6, _ => exact index_thr6 T w
  | 7, _ => exact index_thr7 T w
theorem count_step (t : List Nat) (face k : Nat) (hf : 1 ≤ face) : (t.take (k + 1)).count face = if gt t k = face then (t.take k).count face + 1 else (t.take k).count face := by
  rcases Nat.lt_or_ge k t.length with h | h
  · rw [gt_take t k h, List.count_append]
    by_cases e : gt t k = face
    · rw [if_pos e, e]; simp
    · rw [if_neg e]
      have : [gt t k].count face = 0 := List.count_eq_zero_of_not_mem (by simpa using fun h => e h.symm)
      omega
  · rw [List.take_of_length_le (by omega), List.take_of_length_le h, gt_over t k h, if_neg (by omega)]

set_option maxRecDepth 100000 in
set_option maxHeartbeats 1000000 in
theorem times_any (d f face : Nat) (t : List Nat) (w : World) (hd : d ≤ 8) (hf : f ≤ 12) (ht : t ∈ ups d f) (h1 : 1 ≤ face) (h2 : face ≤ 12) :
    Calls Try.prog 28 #[.agg (thC (gt t)), .int .i64 face] w fun e w' => e = .returned (.int .i64 (t.count face : Nat)) ∧ Below w.heap.size w w' := by
  have kb : TA (w.alloc (.cells (thC (gt t)) 37)) w.heap.size 37 (gt t) := heap_alloc_at _ _ _ rfl
  have hB := below1 w (.cells (thC (gt t)) 37)
  have hall : (t.take 8) = t := List.take_of_length_le (by rw [ups_len d f t ht]; omega)
  have HALL := Lib.hid hall
  clear hall
  go_enter Try.func28, Try.ntmps28
  go_wp2_with (refine wpList_load_row rfl 37 (.tmp 2) rfl w.heap.size rfl _ _ _ _ kb Try.underlying37 rfl ?_ ?_; (rw [thC_size]; exact sizeThr))
  go_loop [5, 7, 9] (fun v _ i => ∃ k V : Nat, k ≤ 8 ∧ i = .int .i64 k ∧ v = .int .i64 V ∧ V = (t.take k).count face ∧ V ≤ k) (fun _ _ i => 8 - (intOf i).toNat)
  case atStart => exact ⟨0, 0, Nat.zero_le _, rfl, rfl, by simp, Nat.le_refl _⟩
  case round =>
    obtain ⟨k, V, hk, rfl, rfl, hV, hVk⟩ := hrel
    by_cases hlt : k < 8
    · have hlt8 : (k : Int) < 8 := by omega
      have hix := index_thr (gt t) k hlt
      have hst := count_step t face k h1
      rw [← hV] at hst
      have hgl := gt_le ht k
      obtain ⟨a, ha⟩ : ∃ a, a = gt t k := ⟨_, rfl⟩
      rw [← ha] at hix hst hgl
      by_cases e : a = face
      · subst e
        rw [if_pos rfl] at hst
        have HST := Lib.hid hst
        clear hV hst ha
        go_wp2
        go_round
        case rel => exact ⟨k + 1, V + 1, by omega, by go_num, by go_num, HST.out.symm, by omega⟩
        case measure => simp [intOf]; omega
      · rw [if_neg e] at hst
        have HST := Lib.hid hst
        have hne : ((a : Int) == (face : Int)) = false := beq_eq_false_iff_ne.2 (by omega)
        clear hV hst ha e
        go_wp2
        go_round
        case rel => exact ⟨k + 1, V, by omega, by go_num, rfl, HST.out.symm, by omega⟩
        case measure => simp [intOf]; omega
    · obtain rfl : k = 8 := by omega
      rw [HALL.out] at hV
      have HV := Lib.hid hV
      clear hV
      go_wp2
      go_ret
      exact ⟨ret_int (by rw [HV.out]), hB⟩
end Go.Proofs.Ytblpfjjnlfjloac

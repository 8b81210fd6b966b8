/-
  Dice: cupOf, isSum, alike.
-/
import Derived.Test.YtblpfjjnlfjloabChecked
import Derived.Test.YtblpfjjnlfjloabWThr
import Derived.Test.YtblpfjjnlfjloabC1i
import Derived.BigQuiet
import Derived.Deep.QuietTactic
import Derived.Deep.CutRange
namespace Go.Proofs.Ytblpfjjnlfjloab
open Go.RowKit

def cupB (d f : Int) : Bool := decide (1 ≤ d ∧ d ≤ 8 ∧ 1 ≤ f ∧ f ≤ 12)
theorem cupB_iff {d f : Int} : cupB d f = true ↔ 1 ≤ d ∧ d ≤ 8 ∧ 1 ≤ f ∧ f ≤ 12 := by simp [cupB]
theorem cupB_nat {d f : Int} (h : cupB d f = true) : ∃ m n : Nat, d = m ∧ f = n ∧ 1 ≤ m ∧ m ≤ 8 ∧ 1 ≤ n ∧ n ≤ 12 := by
  have := cupB_iff.1 h
  exact ⟨d.toNat, f.toNat, by omega, by omega, by omega, by omega, by omega, by omega⟩

theorem cupOf_yes (d f : Int) (w : World) (h : cupB d f = true) :
    Calls Try.prog 54 #[.int .i64 d, .int .i64 f] w fun e w' => e = .returned (.tuple #[.agg #[.int .i64 d, .int .i64 f], .bool true]) ∧ Below w.heap.size w w' := by
  obtain ⟨h1, h2, h3, h4⟩ := cupB_iff.1 h
  clear h
  go_enter Try.func54, Try.ntmps54
  go_wp2
  exact bodyPost_ret (v := .tuple #[.agg #[.int .i64 d, .int .i64 f], .bool true]) (by simp [results, Try.results54, go_sem]) rfl ⟨rfl, below1 _ _⟩
theorem cupOf_no (d f : Int) (w : World) (h : cupB d f = false) :
    Calls Try.prog 54 #[.int .i64 d, .int .i64 f] w fun e w' => e = .returned (.tuple #[.agg #[.int .i64 0, .int .i64 0], .bool false]) ∧ Below w.heap.size w w' := by
  have hn : d < 1 ∨ 8 < d ∨ f < 1 ∨ 12 < f := by
    have : ¬ (1 ≤ d ∧ d ≤ 8 ∧ 1 ≤ f ∧ f ≤ 12) := fun e => by rw [cupB_iff.2 e] at h; cases h
    omega
  clear h
  by_cases h1 : d < 1
  · go_enter Try.func54, Try.ntmps54
    go_wp2
    exact bodyPost_ret (v := .tuple #[.agg #[.int .i64 0, .int .i64 0], .bool false]) (by simp [results, Try.results54, go_sem]) rfl ⟨rfl, below1 _ _⟩
  by_cases h2 : 8 < d
  · go_enter Try.func54, Try.ntmps54
    go_wp2
    exact bodyPost_ret (v := .tuple #[.agg #[.int .i64 0, .int .i64 0], .bool false]) (by simp [results, Try.results54, go_sem]) rfl ⟨rfl, below1 _ _⟩
  by_cases h3 : f < 1
  · go_enter Try.func54, Try.ntmps54
    go_wp2
    exact bodyPost_ret (v := .tuple #[.agg #[.int .i64 0, .int .i64 0], .bool false]) (by simp [results, Try.results54, go_sem]) rfl ⟨rfl, below1 _ _⟩
  have h4 : 12 < f := by omega
  go_enter Try.func54, Try.ntmps54
  go_wp2
  exact bodyPost_ret (v := .tuple #[.agg #[.int .i64 0, .int .i64 0], .bool false]) (by simp [results, Try.results54, go_sem]) rfl ⟨rfl, below1 _ _⟩

def sumB (s : Int) : Bool := decide (0 ≤ s ∧ s ≤ 200)
theorem sumB_iff {s : Int} : sumB s = true ↔ 0 ≤ s ∧ s ≤ 200 := by simp [sumB]
theorem isSum_any (s : Int) (w : World) : Calls Try.prog 40 #[.int .i64 s] w fun e w' => e = .returned (.bool (sumB s)) ∧ w = w' := by
  by_cases h : 0 ≤ s
  · have hb : sumB s = decide (s ≤ 200) := by simp [sumB, h]
    rw [hb]
    clear hb
    go_enter Try.func40, Try.ntmps40
    go_wp2
    go_ret
    exact ⟨rfl, rfl⟩
  · have hb : sumB s = false := by simp [sumB, h]
    rw [hb]
    clear hb
    go_enter Try.func40, Try.ntmps40
    go_wp2
    go_ret
    exact ⟨rfl, rfl⟩

theorem sizeThr : (Try.prog.info? 57).map (·.size) = some 8 := by kernel_rfl
set_option maxRecDepth 100000 in
set_option maxHeartbeats 400000 in
theorem alike_any (d f face : Nat) (w : World) (hd : d ≤ 8) :
    Calls Try.prog 59 #[.agg #[.int .i64 d, .int .i64 f], .int .i64 face] w fun e w' => e = .returned (.agg (thC (fun i => if i < d then face else 0))) ∧ Below w.heap.size w w' := by
  have hz := zeroThr
  go_enter Try.func59, Try.ntmps59
  go_wp2_with fail
  go_loopw [6, 9] (fun _ i wr => ∃ k : Nat, k ≤ d ∧ i = .int .i64 k ∧ Below w.heap.size w wr ∧ TA wr (w.heap.size + 1) 57 (fun _ => 0) ∧ TA wr (w.heap.size + 2) 57 (fun i => if i < k then face else 0)) (fun _ i _ => d - (intOf i).toNat)
  case atStart => exact ⟨0, Nat.zero_le _, rfl, below3 _ _ _ _, (Below.heap_alloc _ _ _ (by simp)).trans (heap_alloc_at _ _ _ (by simp)), TA.congr (T := fun _ => 0) (heap_alloc_at _ _ _ (by simp)) (fun i _ => by simp)⟩
  case round =>
    obtain ⟨k, hk, rfl, hB, hR, hT⟩ := hrel
    have hk8 : (k : Int) < 8 ∨ ¬ k < d := by omega
    have cd := hB
    by_cases hlt : k < d
    · have c1 := hT.at_ (show k < 8 by omega)
      have c2 := hT.free k
      have hk8 : (k : Int) < 8 := by omega
      go_wp2
      go_roundw
      case rel => exact ⟨k + 1, by omega, by go_num, hB.setCell (show w.heap.size ≤ w.heap.size + 1 + 1 by omega) _, hR.far (by simp) _, (hT.set (by omega) face).congr (fun i _ => by simp only [updT]; by_cases h1 : i = k <;> by_cases h2 : i < k <;> simp [h1, h2] <;> omega)⟩
      case measure => simp [intOf]; omega
    · obtain rfl : k = d := by omega
      go_wp2_with (first | (refine wpList_load_row rfl 57 (.tmp 5) rfl (w.heap.size + 2) rfl _ _ _ _ hT Try.underlying57 rfl ?_ ?_; (rw [thC_size]; exact sizeThr)) | (refine wpList_store_row rfl 57 (.tmp 4) (.tmp 16) rfl (w.heap.size + 1) rfl _ _ _ rfl hR ?_ ?_ (thC_one _) ?_; (rw [thC_size, thC_size]); (rw [thC_size]; exact sizeThr); intro w4 hC4 hg4 hs4))
      exact bodyPost_ret (v := .agg (thC (fun i => if i < k then face else 0))) (results_cell1k Try.results59 _ _ _ _ _ _ _ rfl hC4 Try.underlying57 rfl (by rw [thC_size]; exact sizeThr)) rfl
        ⟨rfl, hB.grown hg4 hB.size (fun k h => by cases h; omega)⟩
end Go.Proofs.Ytblpfjjnlfjloab

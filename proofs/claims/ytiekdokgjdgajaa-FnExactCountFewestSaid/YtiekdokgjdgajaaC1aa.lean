/-
  CountFewest, the program's: listsToEnd and the whole.
-/
import Derived.Test.YtiekdokgjdgajaaC1z
import Derived.Test.YtiekdokgjdgajaaC1q
namespace Go.Proofs.Ytiekdokgjdgajaa
open Go.RowKit

/-- A number that is told only up to 1000000000000000. -/
def CntIs (v : Int) (R : Int × Bool) : Prop := (v ≤ 1000000000000000 ∧ R = (v, true)) ∨ (1000000000000000 < v ∧ R = (0, false))

set_option maxRecDepth 100000 in
set_option maxHeartbeats 1000000 in
theorem listsToEnd_any (g : Nat) (s f o : Int) (q t : Nat) (js : List (Int × Int)) (R : Int × Bool) (w : World) (hC : CV w g s f o (fun i => jumpOf js i)) (hgw : g < w.heap.size) (ha : asked s f o js q = true) (ht : t ≤ 100) (hR : CntIs (pl s f o js q t s) R) :
    Calls Try.prog 87 #[.pointer (some ⟨g, 0, none⟩), .agg (arrN (fun i => sat (pl s f o js q 0 i))), .int .i64 t] w (NumIs w R) := by
  have hz := good_sizes (asked_good ha)
  obtain ⟨S, rfl⟩ := Int.eq_ofNat_of_zero_le (show 0 ≤ s by omega)
  have iS : (S : Int) < 101 := by omega
  have iSn : S < 101 := by omega
  have hsz : (arrN (fun i => sat (pl S f o js q 0 i))).size = 101 := arrN_size _
  have HA := Lib.hid ha; have HR := Lib.hid hR; clear ha hR
  have hW1 : (w.alloc (.cells (arrN (fun i => sat (pl S f o js q 0 i))) 66)).heap[w.heap.size]? = some (.cells (arrN (fun i => sat (pl S f o js q 0 i))) 66 (0, 0)) := heap_alloc_at _ _ _ rfl
  go_enter Try.func87, Try.ntmps87
  go_wp2_with fail
  go_loopw [9] (fun i wr => ∃ k : Nat, k ≤ t ∧ i = .int .i64 (k : Int) ∧ wr.heap[w.heap.size]? = some (.cells (arrN (fun i => sat (pl S f o js q k i))) 66 (0, 0)) ∧ Below w.heap.size w wr ∧ w.heap.size < wr.heap.size) (fun i _ => t - (intOf i).toNat)
  case atStart => exact ⟨0, Nat.zero_le _, rfl, hW1, below1 _ _, by simp⟩
  case round =>
    clear hW1
    obtain ⟨k, hk, rfl, hL, hB, hsw⟩ := hrel
    have hCw : CV wr g S f o (fun i => jumpOf js i) := hC.below hB hgw
    have hBs := hB.size
    by_cases hlt : k < t
    · have h3 : (k : Int) < (t : Int) := by omega
      go_wp2_with (first
        | (refine wpList_load_row rfl 66 _ rfl w.heap.size rfl _ _ _ _ hL Try.underlying66 rfl ?_ ?_; (rw [arrN_size]; exact sizeSquares))
        | (go_at_call 97; refine (onward_any g S f o js (fun i => pl S f o js q k i) wr hCw (by omega) (asked_good HA.out) (fun i => pl_nonneg _ _ _ _ _ _ _) (fun i h1 h2 => ⟨h1, (pl_on (asked_good HA.out) (asked_on HA.out) k i h2).2.2⟩)).mono ?_; rintro e w5 ⟨rfl, hx5⟩; have hL5 := (hx5.block w.heap.size hsw).trans hL)
        | (refine wpList_store_row rfl 66 _ _ rfl w.heap.size rfl _ _ _ rfl hL5 ?_ ?_ (arrN_one _) ?_; (rw [arrN_size, arrN_size]); (rw [arrN_size]; exact sizeSquares); intro w7 h7 g7 s7))
      go_roundw
      case rel =>
        have hs5 := hx5.size
        exact ⟨k + 1, hlt, by go_num, h7, (hB.trans (hx5.mono hBs)).grown g7 (by omega) (fun j h => by cases h; omega), by have := hx5.size; omega⟩
      case measure => simp [intOf]; omega
    · have h3 : ¬ (k : Int) < (t : Int) := by omega
      obtain rfl : k = t := by omega
      have c0 := hCw.sq
      obtain ⟨v, hv⟩ : ∃ v, sat (pl S f o js q k S) = v := ⟨_, rfl⟩
      have c1 : wr.cell? ⟨w.heap.size, S, none⟩ = some (.int .i64 v) := by rw [cell_of_row _ _ _ _ _ _ hL, arrN_at _ iSn, hv]
      rcases HR.out with ⟨hle, rfl⟩ | ⟨hgt, rfl⟩
      · have e : v = pl S f o js q k S := by rw [← hv]; unfold sat; rw [if_pos (by omega)]
        have h4 : ¬ v > 1000000000000000 := by omega
        have HE := Lib.hid e
        clear hv e hle hL
        go_wp2
        go_ret2
        rw [HE.out]
        exact ⟨rfl, hB⟩
      · have h4 : v > 1000000000000000 := by rw [← hv]; unfold sat; split <;> omega
        clear hv hgt hL
        go_wp2
        go_ret2
        exact ⟨rfl, hB⟩
end Go.Proofs.Ytiekdokgjdgajaa

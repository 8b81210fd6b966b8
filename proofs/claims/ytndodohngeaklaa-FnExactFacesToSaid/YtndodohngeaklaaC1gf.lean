/-
  The program's faces that lead from a square to another one: (*course).facesTo.
-/
import Derived.Test.YtndodohngeaklaaC1d
namespace Go.Proofs.Ytndodohngeaklaa
open Go.RowKit

set_option maxRecDepth 100000 in
set_option maxHeartbeats 400000 in
theorem crsFacesTo_any (g : Nat) (s f o : Int) (js : List (Int × Int)) (sq to : Int) (w : World) (hC : CV w g s f o (fun i => jumpOf js i)) (hgl : g < w.heap.size) (ha : asked s f o js sq = true) :
    Calls Try.prog 35 #[.pointer (some ⟨g, 0, none⟩), .int .i64 sq, .int .i64 to] w fun e w' => e = .returned (.int .i64 (facesTo s o js sq to f.toNat)) ∧ Below w.heap.size w w' := by
  have hz := good_sizes (asked_good ha)
  have hq := onSq_in (asked_on ha)
  have HA := Lib.hid ha; clear ha
  go_enter Try.func35, Try.ntmps35
  go_wp2_with fail
  go_loopw [7, 8] (fun n i wr => ∃ k : Nat, k ≤ f.toNat ∧ i = .int .i64 ((k : Int) + 1) ∧ n = .int .i64 (facesTo s o js sq to k) ∧ Below w.heap.size w wr) (fun _ i _ => f.toNat + 1 - (intOf i).toNat)
  case atStart => exact ⟨0, Nat.zero_le _, rfl, rfl, Below.refl _ _⟩
  case round =>
    obtain ⟨k, hk, rfl, rfl, hB⟩ := hrel
    have hCn := hC.below hB hgl
    have c1 := hCn.fa
    have hn := facesTo_le s o js sq to k
    have hBs := hB.size
    by_cases hlt : k < f.toNat
    · have h3 : (k : Int) + 1 ≤ f := by omega
      go_wp2_with (go_at_call 58; refine (behind_bel _ _ _ _ _ _ _ _ hCn hz.1.1 hz.1.2 hz.2.2.1.1 hz.2.2.1.2 hq.1 hq.2 (good_end (asked_good HA.out)) (onSq_fix (asked_on HA.out)) (by omega) (by omega)).mono ?_; rintro e w' ⟨rfl, hxd, hsd⟩)
      · have he : thrown s o js sq ((k : Int) + 1) = to := by simpa using (show (thrown s o js sq ((k : Int) + 1) == to) = true by assumption)
        go_roundw
        case rel => exact ⟨k + 1, by omega, by go_num, by rw [facesTo, if_pos he], keepB hB (by omega) hxd⟩
        case measure => simp [intOf]; omega
      · have he : ¬ thrown s o js sq ((k : Int) + 1) = to := by simpa using (show (thrown s o js sq ((k : Int) + 1) == to) = false by assumption)
        go_roundw
        case rel => exact ⟨k + 1, by omega, by go_num, by rw [facesTo, if_neg he]; simp, keepB hB (by omega) hxd⟩
        case measure => simp [intOf]; omega
    · have h3 : ¬ (k : Int) + 1 ≤ f := by omega
      obtain rfl : k = f.toNat := by omega
      go_wp2
      go_ret
      exact ⟨rfl, hB⟩
end Go.Proofs.Ytndodohngeaklaa

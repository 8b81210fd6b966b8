/-
  Contracts of the program's functions on boards: jumpsByFrom, IsBoard.
-/
import Derived.Test.YteogfondnpfklaaChecked
import Derived.Test.YteogfondnpfklaaW
import Derived.Test.YteogfondnpfklaaWMap
import Derived.Test.YteogfondnpfklaaM1
import Derived.KernelRfl
namespace Go.Proofs.Yteogfondnpfklaa
open Go.RowKit

theorem zeroInt (w : World) : (zeroValue 3).run Try.prog w = .ok (.int .i64 0) w := by kernel_rfl
theorem run_makeMapII (w : World) (n : Int) : (Instr.makeMap 154 (some (.int .i64 n))).run Try.prog w = .ok (.map (some w.heap.size)) (w.alloc (.map #[] 0)) := by kernel_rfl

set_option maxHeartbeats 400000 in
theorem jumpsByFrom_any (A : Option Addr) (c : Nat) (js : List (Int × Int)) (w : World) (hj : RJ w w.heap.size A js) :
    Calls Try.prog 116 #[.slice A js.length c] w fun e w' => e = .returned (.map (some w.heap.size)) ∧ IM Try.prog 3 3 w' w.heap.size js.length (jfrom js) ∧ Below w.heap.size w w' := by
  have hl := hj.1
  have hmm := run_makeMapII
  go_enter Try.func116, Try.ntmps116
  go_wp2
  go_loopw [11] (fun i wr => ∃ k : Nat, k ≤ js.length ∧ i = .int .i64 k ∧ Below w.heap.size w wr ∧ IM Try.prog 3 3 wr w.heap.size k (jfrom (js.take k))) (fun i _ => js.length - (intOf i).toNat)
  case atStart => exact ⟨0, Nat.zero_le _, rfl, (Below.refl _ _).alloc (Nat.le_refl _) _, IM.made _ _ _ _⟩
  case round =>
    obtain ⟨k, hk, rfl, hb, hm⟩ := hrel
    have hs := hb.size
    by_cases hlt : k < js.length
    · obtain ⟨b, off, rfl, hB, h1, h2⟩ := hj.at_ hb hlt
      have hwf := hj.2.1.at_ hlt
      go_wp2_with (at_mapUpdate; refine IM.store rfl _ _ _ 154 rfl Try.underlying154 Try.underlying3 Try.underlying3 (hm.alloc _) (by unfold maxLen; omega) _ _ rfl rfl rfl hwf.1 hwf.2 ?_; intro w1 hm1 hg1)
      go_roundw
      case rel => exact ⟨k + 1, by omega, by go_num, (hb.alloc (by omega) _).grown hg1 (by simp; omega) (fun j h => by cases h; omega), by rw [jfrom_snoc _ _ hlt]; exact hm1⟩
      case measure => simp [intOf]; omega
    · obtain rfl : k = js.length := by omega
      go_wp2
      go_ret
      exact ⟨rfl, by simpa using hm, hb⟩

set_option maxHeartbeats 400000 in
theorem implIsBoard_any (s f o : Int) (A : Option Addr) (c : Nat) (js : List (Int × Int)) (w : World) (hj : RJ w w.heap.size A js) :
    Calls Try.prog 89 #[.agg #[.int .i64 s, .int .i64 f, .int .i64 o, .slice A js.length c]] w fun e w' => e = .returned (.bool (good ⟨s, f, o, js⟩)) ∧ Below w.heap.size w w' := by
  have hl := hj.1
  have hw0 : Below w.heap.size w (w.alloc (.cells #[.int .i64 s, .int .i64 f, .int .i64 o, .slice A js.length c] 33)) := (Below.refl _ _).alloc (Nat.le_refl _) _
  go_enter Try.func89, Try.ntmps89
  go_wp2_with fail
  all_goals try (go_ret; exact ⟨ret_bool (good_bad (by omega)).symm, hw0⟩)
  have hz : sizes ⟨s, f, o, js⟩ = true := sizes_iff.2 (by omega)
  have HZ := Lib.hid hz; clear hz
  refine (jumpsByFrom_any _ _ _ _ ((hj.below hw0).more (by simp))).mono ?_
  rintro e w1 ⟨rfl, hm1, hb1⟩
  simp only [World.size_alloc] at hm1 hb1
  have c3 : w1.cell? ⟨w.heap.size, 3, none⟩ = some (.slice A js.length c) := boxcell hb1 3 _ rfl
  go_wp2_with fail
  go_loopw [4, 47] (fun p i wr => ∃ k : Nat, k ≤ js.length ∧ i = .int .i64 k ∧ p = .int .i64 (prevFrom js k) ∧ Below (w.heap.size + 1) (w.alloc (.cells #[.int .i64 s, .int .i64 f, .int .i64 o, .slice A js.length c] 33)) wr ∧ IM Try.prog 3 3 wr (w.heap.size + 1) js.length (jfrom js) ∧ implOk s (jfrom js) 0 js = implOk s (jfrom js) (prevFrom js k) (js.drop k)) (fun _ i _ => js.length - (intOf i).toNat)
  case atStart => exact ⟨0, Nat.zero_le _, rfl, rfl, hb1, hm1, rfl⟩
  case round =>
    clear hm1 c3
    obtain ⟨k, hk, rfl, rfl, hb, hm, hd⟩ := hrel
    have Hd := Lib.hid hd; clear hd
    have hb' := hw0.trans (hb.mono (by omega))
    have hs : w.heap.size < wr.heap.size := by have := hb.size; simp at this; omega
    have c0 : wr.cell? ⟨w.heap.size, 0, none⟩ = some (.int .i64 s) := boxcell hb 0 _ rfl
    by_cases hlt : k < js.length
    · obtain ⟨b, off, rfl, hB, h1, h2⟩ := hj.at_ hb' hlt
      have hwf := hj.2.1.at_ hlt
      have hBr : b < wr.heap.size := by omega
      go_wp2_with (at_lookup; refine IM.look rfl _ _ 154 rfl Try.underlying154 Try.underlying3 Try.underlying3 (zeroInt _) (hm.alloc _) _ rfl rfl hwf.2 ?_)
      all_goals first
        | (go_ret; exact ⟨ret_bool (by rw [← good_impl, HZ.out, Hd.out, implOk_bad hlt (by first | (right; assumption) | (left; omega))]; rfl), by first | exact hb'.alloc (by omega) _ | exact (hb'.alloc (by omega) _).drew⟩)
        | (go_roundw; (case rel => exact ⟨k + 1, by omega, by go_num, by rw [prevFrom_succ _ _ hlt], hb.alloc (by omega) _, hm.alloc _, by rw [Hd.out, implOk_drop _ _ _ _ _ hlt, prevFrom_succ _ _ hlt, show (jfrom js js[k].2).isSome = false by assumption, inB_iff.2 (by omega)]; simp; omega⟩); (case measure => simp [intOf]; omega))
    · go_wp2
      go_ret
      exact ⟨ret_bool (by rw [← good_impl, HZ.out, Hd.out, List.drop_eq_nil_of_le (by omega)]; rfl), hb'⟩
end Go.Proofs.Yteogfondnpfklaa

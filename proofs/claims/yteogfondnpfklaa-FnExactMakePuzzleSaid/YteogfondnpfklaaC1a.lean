/-
  Contracts of the model's functions on boards: l1In, sqJump, sqGood, sqSquare, sqAsked, sqThrow.
-/
import Derived.Test.YteogfondnpfklaaChecked
import Derived.Test.YteogfondnpfklaaW
import Derived.Test.YteogfondnpfklaaM1
import Derived.BigQuiet
import Derived.Deep.QuietTactic
import Derived.Deep.RegionHeld3
namespace Go.Proofs.Yteogfondnpfklaa
open Go.RowKit

theorem l1In_any (n lo hi : Int) (w : World) : Calls Try.prog 50 #[.int .i64 n, .int .i64 lo, .int .i64 hi] w fun e w' => e = .returned (.bool (inB n lo hi)) ∧ w = w' := by
  go_enter Try.func50, Try.ntmps50
  by_cases h : lo ≤ n
  · have h1 : decide (lo ≤ n) = true := by simpa using h
    go_wp2
    go_ret
    exact ⟨ret_bool (by simp [inB, h1]), rfl⟩
  · have h1 : decide (lo ≤ n) = false := by simpa using h
    go_wp2
    go_ret
    exact ⟨ret_bool (by simp [inB, h1]), rfl⟩

set_option maxHeartbeats 400000 in
theorem sqJump_any (s f o : Int) (A : Option Addr) (c : Nat) (sq : Int) (js : List (Int × Int)) (w : World) (hj : RJ w w.heap.size A js) :
    Calls Try.prog 112 #[.agg #[.int .i64 s, .int .i64 f, .int .i64 o, .slice A js.length c], .int .i64 sq] w fun e w' => e = .returned (.int .i64 (jumpOf js sq)) ∧ Below w.heap.size w w' := by
  have hl := hj.1
  go_enter Try.func112, Try.ntmps112
  go_wp2
  go_loopw [10] (fun i wr => ∃ k : Nat, k ≤ js.length ∧ i = .int .i64 k ∧ Below w.heap.size w wr ∧ jumpOf js sq = jumpOf (js.drop k) sq) (fun i _ => js.length - (intOf i).toNat)
  case atStart => exact ⟨0, Nat.zero_le _, rfl, (Below.refl _ _).alloc (Nat.le_refl _) _, rfl⟩
  case round =>
    obtain ⟨k, hk, rfl, hb, hd⟩ := hrel
    have Hd := Lib.hid hd; clear hd
    by_cases hlt : k < js.length
    · obtain ⟨b, off, rfl, hB, h1, h2⟩ := hj.at_ hb hlt
      have hs := hb.size
      go_wp2
      · have he : js[k].1 = sq := by simpa using (show (js[k].1 == sq) = true by assumption)
        go_ret
        exact ⟨ret_int (by rw [Hd.out, jumpOf_drop _ _ _ hlt, if_pos he]), hb.alloc (by omega) _⟩
      · have he : ¬ js[k].1 = sq := by simpa using (show (js[k].1 == sq) = false by assumption)
        go_roundw
        case rel => exact ⟨k + 1, by omega, by go_num, hb.alloc (by omega) _, by rw [Hd.out, jumpOf_drop _ _ _ hlt, if_neg he]⟩
        case measure => simp [intOf]; omega
    · go_wp2
      go_ret
      exact ⟨ret_int (by rw [Hd.out, List.drop_eq_nil_of_le (by omega)]; rfl), hb⟩

set_option maxHeartbeats 400000 in
theorem sqGood_any (s f o : Int) (A : Option Addr) (c : Nat) (js : List (Int × Int)) (w : World) (hj : RJ w w.heap.size A js) :
    Calls Try.prog 85 #[.agg #[.int .i64 s, .int .i64 f, .int .i64 o, .slice A js.length c]] w fun e w' => e = .returned (.bool (good ⟨s, f, o, js⟩)) ∧ Below w.heap.size w w' := by
  have hl := hj.1
  go_enter Try.func85, Try.ntmps85
  go_wp2_with (go_at_call 50; refine (l1In_any _ _ _ _).mono ?_; rintro e w' ⟨rfl, rfl⟩)
  · go_ret
    exact ⟨ret_bool (by simp [good, sizes]; omega), (Below.refl _ _).alloc (Nat.le_refl _) _⟩
  · have hs1 := inB_iff.1 (show inB s 1 100 = true by assumption)
    have hz : sizes ⟨s, f, o, js⟩ = true := by simp_all [sizes]; omega
    have HZ := Lib.hid hz; clear hz
    go_loopw [32] (fun i wr => ∃ k : Nat, k ≤ js.length ∧ i = .int .i64 k ∧ Below (w.heap.size + 1) (w.alloc (.cells #[.int .i64 s, .int .i64 f, .int .i64 o, .slice A js.length c] 33)) wr ∧ jumpsOk s 0 js = jumpsOk s (prevFrom js k) (js.drop k)) (fun i _ => js.length - (intOf i).toNat)
    case atStart => exact ⟨0, Nat.zero_le _, rfl, Below.refl _ _, rfl⟩
    case round =>
      obtain ⟨k, hk, rfl, hb, hd⟩ := hrel
      have Hd := Lib.hid hd; clear hd
      have hw0 : Below w.heap.size w (w.alloc (.cells #[.int .i64 s, .int .i64 f, .int .i64 o, .slice A js.length c] 33)) := (Below.refl _ _).alloc (Nat.le_refl _) _
      have hb' := hw0.trans (hb.mono (by omega))
      have hs : w.heap.size < wr.heap.size := by have := hb.size; simp at this; omega
      have c0 : wr.cell? ⟨w.heap.size, 0, none⟩ = some (.int .i64 s) := boxcell hb 0 _ rfl
      have c3 : wr.cell? ⟨w.heap.size, 3, none⟩ = some (.slice A js.length c) := boxcell hb 3 _ rfl
      by_cases hlt : k < js.length
      · obtain ⟨b, off, rfl, hB, h1, h2⟩ := hj.at_ hb' hlt
        go_wp2_with (go_at_call 50; refine (l1In_any _ _ _ _).mono ?_; rintro e w' ⟨rfl, rfl⟩)
        · have he : (js[k].1 == js[k].2) = true := by assumption
          go_ret
          exact ⟨ret_bool (by rw [good, HZ.out, Hd.out, drop_step _ _ hlt, jumpsOk, he]; simp), hb'.alloc (by omega) _⟩
        · have he : (js[k].1 == js[k].2) = false := by assumption
          have e1 : inB js[k].1 1 (s - 1) = true := by assumption
          have e2 : inB js[k].2 0 s = true := by assumption
          have HE := Lib.hid (show jumpsOk s 0 js = (decide (prevFrom js k < js[k].1) && jumpsOk s js[k].1 (js.drop (k + 1))) by rw [Hd.out, drop_step _ _ hlt, jumpsOk, he, e1, e2]; simp)
          by_cases hk0 : 0 < k
          · have hg : decide (0 < (k : Int)) = true := by simpa using hk0
            have hp : prevFrom js k = js[k - 1].1 := by simp [prevFrom, show k ≠ 0 by omega, List.getElem?_eq_getElem (show k - 1 < js.length by omega)]
            obtain ⟨b', off', e', _, h3, h4⟩ := hj.at_ hb' (show k - 1 < js.length by omega)
            simp at e'
            obtain ⟨rfl, rfl⟩ := e'
            have i0 : (0 : Int) ≤ (k : Int) - 1 := by omega
            have i4 : (1 : Int) ≤ (k : Int) := by omega
            have hBr : b < wr.heap.size := by omega
            have i1 : (k : Int) - 1 < (js.length : Int) := by omega
            have i2 : ((k : Int) - 1).toNat = k - 1 := by omega
            have i3 : IntKind.i64.wrap ((k : Int) - 1) = (k : Int) - 1 := IntWalk.i64_in _ (by omega)
            go_quiet (fail)
            clear i2 i3
            go_wp2
            · have h5 : js[k].1 ≤ js[k - 1].1 := by assumption
              go_ret
              exact ⟨ret_bool (by rw [good, HE.out, hp]; simp; omega), drewB (hb'.alloc (by omega) _) _⟩
            · have h5 : js[k - 1].1 < js[k].1 := by assumption
              go_roundw
              case rel => exact ⟨k + 1, by omega, by go_num, drewB (hb.alloc (by omega) _) _, by rw [HE.out, hp]; simp [prevFrom, h5, List.getElem?_eq_getElem hlt]⟩
              case measure => simp [intOf]; omega
          · have hg : decide (0 < (k : Int)) = false := by simpa using hk0
            obtain rfl : k = 0 := by omega
            have h5 : (0 : Int) < js[0].1 := by have := inB_iff.1 e1; omega
            go_quiet (fail)
            go_wp2
            go_roundw
            case rel => exact ⟨0 + 1, by omega, by go_num, drewB (hb.alloc (by omega) _) _, by rw [HE.out]; simp [prevFrom, h5, List.getElem?_eq_getElem hlt]⟩
            case measure => simp [intOf]; omega
        all_goals (go_ret; exact ⟨ret_bool (by rw [good, HZ.out, Hd.out, drop_step _ _ hlt, jumpsOk]; simp_all), hb'.alloc (by omega) _⟩)
      · have HJ := Lib.hid (show jumpsOk s 0 js = true by rw [Hd.out, List.drop_eq_nil_of_le (by omega)]; rfl)
        clear Hd
        go_wp2
        obtain ⟨wo, rfl⟩ : ∃ wo : World, wo = wr := ⟨_, rfl⟩
        go_loopw [77] (fun i w1 => ∃ m : Nat, m ≤ js.length ∧ i = .int .i64 m ∧ Below (w.heap.size + 1) (w.alloc (.cells #[.int .i64 s, .int .i64 f, .int .i64 o, .slice A js.length c] 33)) w1 ∧ js.all (fun j => jumpOf js j.2 == j.2) = (js.drop m).all (fun j => jumpOf js j.2 == j.2)) (fun i _ => js.length - (intOf i).toNat)
        case atStart => exact ⟨0, Nat.zero_le _, rfl, hb, rfl⟩
        case round =>
          clear hb c0 c3 hb' hs
          obtain ⟨m, hm, rfl, hb, hd⟩ := hrel
          have Hd := Lib.hid hd; clear hd
          have hb' := hw0.trans (hb.mono (by omega))
          have hs : w.heap.size < wr.heap.size := by have := hb.size; simp at this; omega
          have c0 : wr.cell? ⟨w.heap.size, 0, none⟩ = some (.int .i64 s) := boxcell hb 0 _ rfl
          have c1 : wr.cell? ⟨w.heap.size, 1, none⟩ = some (.int .i64 f) := boxcell hb 1 _ rfl
          have c2 : wr.cell? ⟨w.heap.size, 2, none⟩ = some (.int .i64 o) := boxcell hb 2 _ rfl
          have c3 : wr.cell? ⟨w.heap.size, 3, none⟩ = some (.slice A js.length c) := boxcell hb 3 _ rfl
          by_cases hlt : m < js.length
          · obtain ⟨b, off, rfl, hB, h1, h2⟩ := hj.at_ hb' hlt
            go_wp2
            have hb1 := (hb.alloc (by omega) (.cells #[.int .i64 js[m].1, .int .i64 js[m].2] 113)).drew
            go_region_held3 (fun w' => Below (w.heap.size + 1) (w.alloc (.cells #[.int .i64 s, .int .i64 f, .int .i64 o, .slice (some ⟨b, off, none⟩) js.length c] 33)) w' ∧ w'.cell? ⟨wr.heap.size, 1, none⟩ = some (.int .i64 js[m].2) ∧ w'.cell? ⟨w.heap.size, 0, none⟩ = some (.int .i64 s) ∧ w'.cell? ⟨w.heap.size, 1, none⟩ = some (.int .i64 f) ∧ w'.cell? ⟨w.heap.size, 2, none⟩ = some (.int .i64 o) ∧ w'.cell? ⟨w.heap.size, 3, none⟩ = some (.slice (some ⟨b, off, none⟩) js.length c)) (go_keep)
              (first | (go_at_call 112; have g := ‹Below (w.heap.size + 1) _ _ ∧ World.cell? _ ⟨wr.heap.size, 1, none⟩ = _ ∧ _›; refine (sqJump_any _ _ _ _ _ _ _ _ ((hj.below (hw0.trans (g.1.mono (by omega)))).more ?_)).mono ?_; (simp; omega); rintro e w' ⟨rfl, hx⟩; have k0 := keepB g.1 (by simp) hx; have k1 := keepcell hx g.2.1; have k2 := keepcell hx g.2.2.1; have k3 := keepcell hx g.2.2.2.1; have k4 := keepcell hx g.2.2.2.2.1; have k5 := keepcell hx g.2.2.2.2.2))
            go_wp2
            · have hn : ¬ jumpOf js js[m].2 = js[m].2 := by simpa using (show (jumpOf js js[m].2 != js[m].2) = true by assumption)
              go_ret
              have hf : (jumpOf js js[m].2 == js[m].2) = false := by simpa using hn
              exact ⟨ret_bool (by rw [good, Hd.out, drop_step _ _ hlt, List.all_cons, hf, Bool.false_and, Bool.and_false]), hw0.trans (Below.mono (by assumption) (by omega))⟩
            · have hn : jumpOf js js[m].2 = js[m].2 := by simpa using (show (jumpOf js js[m].2 != js[m].2) = false by assumption)
              go_roundw
              case rel => exact ⟨m + 1, by omega, by go_num, by assumption, by rw [Hd.out, drop_step _ _ hlt, List.all_cons]; simp only [hn, beq_self_eq_true, Bool.true_and]⟩
              case measure => simp [intOf]; omega
          · go_wp2
            go_ret
            exact ⟨ret_bool (by rw [good, HZ.out, HJ.out, Hd.out, List.drop_eq_nil_of_le (by omega)]; rfl), hb'⟩
  all_goals (go_ret; exact ⟨ret_bool (by simp_all [good, sizes]), (Below.refl _ _).alloc (Nat.le_refl _) _⟩)

end Go.Proofs.Yteogfondnpfklaa

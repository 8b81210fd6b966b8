/- Several texts, one behind the other: L8. -/
import Derived.Test.YtmiefdjbhcpnbaaChecked
import Derived.BigQuiet
import Derived.Deep.QuietTactic
import Derived.Test.YtmiefdjbhcpnbaaZPCad

namespace Go.Proofs.Ytmiefdjbhcpnbaa
open Go.RowKit

/-- What marks write, from k on. -/
def marksI (k : Int) (i : Nat) : Int := k + i

theorem infoInt : (Try.prog.info? 3).map (fun i => (i.zero, i.size, i.bytes)) = some (some (.int .i64 0), 1, 8) := by kernel_rfl

set_option maxHeartbeats 400000 in
theorem toIntS_any (A : Option Addr) (c : Nat) (xs : List Int) (w : World) (hj : RI w w.heap.size A xs) :
    Calls Try.prog 10 #[.slice A xs.length c] w fun e w' => e = .returned (.slice (some ⟨w.heap.size, 0, none⟩) xs.length xs.length) ∧ RowI w' w.heap.size 3 xs.length (fun k => xs.getD k 0) ∧ Below w.heap.size w w' := by
  have hl := hj.1
  obtain ⟨i0, hi, hz0, hz1, hz2⟩ := info_parts infoInt
  go_enter Try.func10, Try.ntmps10
  go_wp2_with (at_make; refine wpList_make_full _ rfl _ _ 25 rfl w.heap.size 3 i0 _ 1 Try.underlying25 hi hz0 hz1 _ _ _ _ xs.length rfl rfl rfl rfl (by rw [hz2]; omega) (by unfold maxLen; omega) (Nat.le_refl _) ?_; intro w1 hown hgrow)
  have hrow := madeI hown rfl
  go_loopw [4] (fun i wr => ∃ k : Nat, k ≤ xs.length ∧ i = .int .i64 k ∧ Below w.heap.size w wr ∧ RowI wr w.heap.size 3 xs.length (fun i => if i < k then xs.getD i 0 else 0)) (fun i _ => xs.length - (intOf i).toNat)
  case atStart => exact ⟨0, Nat.zero_le _, rfl, (Below.refl _ _).grown hgrow (Nat.le_refl _) (fun j h => by cases h), hrow.congr (by simp)⟩
  case round =>
    clear hrow hown hgrow
    obtain ⟨k, hk, rfl, hb, hrow⟩ := hrel
    by_cases hlt : k < xs.length
    · obtain ⟨b, off, rfl, hB, h1⟩ := hj.at_ hb hlt
      have d1 := hrow.cell hlt
      have d3 := hrow.free k
      go_wp2
      go_roundw
      case rel => exact ⟨k + 1, by omega, by go_num, hb.setCell (Nat.le_refl _) _, (hrow.set hlt _).congr (fun i hi => by
        by_cases e : i = k
        · subst e; simp [hlt]
        · have e2 : (i < k + 1) = (i < k) := by apply propext; omega
          simp [e, e2])⟩
      case measure => simp [intOf]; omega
    · obtain rfl : k = xs.length := by omega
      go_wp2
      go_ret
      exact ⟨rfl, hrow.congr (fun i hi => by simp [hi]), hb⟩

set_option maxHeartbeats 400000 in
theorem markIntS_any (A : Option Addr) (n c lo : Nat) (F : Nat → Int) (k0 : Int) (w : World) (h : OI w lo 3 A n F) (hn : n ≤ 1048576) (h0 : 0 ≤ k0) (h1 : k0 ≤ 1000000000) :
    Calls Try.prog 14 #[.slice A n c, .int .i64 k0] w fun e w' => e = .returned (.int .i64 (k0 + n)) ∧ OI w' lo 3 A n (marksI k0) ∧ (∀ B, B ≤ lo → Below B w w') ∧ w'.heap.size = w.heap.size := by
  go_enter Try.func14, Try.ntmps14
  go_wp2
  go_loopw [1, 5] (fun v i wr => ∃ k : Nat, k ≤ n ∧ i = .int .i64 k ∧ v = .int .i64 (k0 + k) ∧ OI wr lo 3 A n (fun j => if j < k then marksI k0 j else F j) ∧ Hid (∀ B, B ≤ lo → Below B w wr) ∧ Hid (wr.heap.size = w.heap.size)) (fun _ i _ => n - (intOf i).toNat)
  case atStart => exact ⟨0, Nat.zero_le _, rfl, by simp, h.congr (by simp), Lib.hid (fun _ _ => Below.refl _ _), Lib.hid rfl⟩
  case round =>
    obtain ⟨k, hk, rfl, rfl, ho, hg, hsz⟩ := hrel
    by_cases hlt : k < n
    · obtain ⟨g, rfl, hlo, hr⟩ := ho.get hlt
      have c1 := hr.cell hlt
      have f1 := hr.free k
      go_wp2
      go_roundw
      case rel => exact ⟨k + 1, by omega, by go_num, by go_num, .inr ⟨g, rfl, hlo, (hr.set hlt _).congr (fun j hj => by
        by_cases e : j = k
        · subst e; simp [marksI]
        · have e2 : (j < k + 1) = (j < k) := by apply propext; omega
          simp [e, e2])⟩, Lib.hid (fun B hB => (hg.out B hB).setCell (by dsimp only; omega) _), Lib.hid (by simp; exact hsz.out)⟩
      case measure => simp [intOf]; omega
    · obtain rfl : k = n := by omega
      go_wp2
      go_ret
      exact ⟨rfl, ho.congr (fun j hj => by simp [hj]), hg.out, hsz.out⟩

set_option maxHeartbeats 400000 in
theorem heldIntS_any (A : Option Addr) (n c lo : Nat) (k0 : Int) (w : World) (h : OI w lo 3 A n (marksI k0)) (hn : n ≤ 1048576) (h0 : 0 ≤ k0) (h1 : k0 ≤ 1000000000) :
    Calls Try.prog 21 #[.slice A n c, .int .i64 k0] w fun e w' => e = .returned (.int .i64 (k0 + n)) ∧ w = w' := by
  go_enter Try.func21, Try.ntmps21
  go_wp2
  go_loop [1, 5] (fun v i => ∃ k : Nat, k ≤ n ∧ i = .int .i64 k ∧ v = .int .i64 (k0 + k)) (fun _ i => n - (intOf i).toNat)
  case atStart => exact ⟨0, Nat.zero_le _, rfl, by simp⟩
  case round =>
    obtain ⟨k, hk, rfl, rfl⟩ := hrel
    by_cases hlt : k < n
    · obtain ⟨g, rfl, hlo, hr⟩ := h.get hlt
      have c1 : w.cell? ⟨g, k, none⟩ = some (.int .i64 (k0 + k)) := hr.cell hlt
      go_wp2
      go_round
      case rel => exact ⟨k + 1, by omega, by go_num, by go_num⟩
      case measure => simp [intOf]; omega
    · obtain rfl : k = n := by omega
      go_wp2
      go_ret
      exact ⟨rfl, rfl⟩

set_option maxHeartbeats 400000 in
theorem heldIntS_big (A : Option Addr) (n c lo : Nat) (k0 : Int) (w : World) (h : OI w lo 3 A n (marksI k0)) (hn : n ≤ 1048576) (h0 : 0 ≤ k0) (h1 : k0 ≤ 10000000000000) :
    Calls Try.prog 21 #[.slice A n c, .int .i64 k0] w fun e w' => e = .returned (.int .i64 (k0 + n)) ∧ w = w' := by
  go_enter Try.func21, Try.ntmps21
  go_wp2
  go_loop [1, 5] (fun v i => ∃ k : Nat, k ≤ n ∧ i = .int .i64 k ∧ v = .int .i64 (k0 + k)) (fun _ i => n - (intOf i).toNat)
  case atStart => exact ⟨0, Nat.zero_le _, rfl, by simp⟩
  case round =>
    obtain ⟨k, hk, rfl, rfl⟩ := hrel
    by_cases hlt : k < n
    · obtain ⟨g, rfl, hlo, hr⟩ := h.get hlt
      have c1 : w.cell? ⟨g, k, none⟩ = some (.int .i64 (k0 + k)) := hr.cell hlt
      go_wp2
      go_round
      case rel => exact ⟨k + 1, by omega, by go_num, by go_num⟩
      case measure => simp [intOf]; omega
    · obtain rfl : k = n := by omega
      go_wp2
      go_ret
      exact ⟨rfl, rfl⟩

set_option maxRecDepth 100000 in
set_option maxHeartbeats 400000 in
theorem eqIntS_any (A A' : Option Addr) (c c' : Nat) (xs ys : List Int) (w : World) (hj : RI w w.heap.size A xs) (hj' : RI w w.heap.size A' ys) :
    Calls Try.prog 13 #[.slice A xs.length c, .slice A' ys.length c'] w fun e w' => e = .returned (.bool (xs == ys)) ∧ Below w.heap.size w w' := by
  have hl := hj.1
  have hl' := hj'.1
  by_cases hne : xs.length = ys.length
  · have hq : ((xs.length : Int) != (ys.length : Int)) = false := bne_eq_false_iff_eq.2 (by omega)
    go_enter Try.func13, Try.ntmps13
    go_wp2
    have hne' := Lib.hid hne; clear hne
    go_loopw [5] (fun i wr => ∃ k : Nat, k ≤ xs.length ∧ i = .int .i64 k ∧ Below w.heap.size w wr ∧ (xs == ys) = (xs.drop k == ys.drop k)) (fun i _ => xs.length - (intOf i).toNat)
    case atStart => exact ⟨0, Nat.zero_le _, rfl, Below.refl _ _, rfl⟩
    case round =>
      obtain ⟨k, hk, rfl, hb, hd⟩ := hrel
      have Hd := Lib.hid hd; clear hd
      by_cases hlt : k < xs.length
      · have hlt' : k < ys.length := by have := hne'.out; omega
        obtain ⟨b, off, rfl, hB, h1⟩ := hj.at_ hb hlt
        obtain ⟨b', off', rfl, hB', h3⟩ := hj'.at_ hb hlt'
        go_wp2
        go_quiet (fail)
        go_wp2
        · have hn : (xs[k] == ys[k]) = false := by simpa using (show (xs[k] != ys[k]) = true by assumption)
          go_ret
          exact ⟨ret_bool (by rw [Hd.out, drop_step _ _ hlt, drop_step _ _ hlt', List.cons_beq_cons, hn]; rfl), drewB hb _⟩
        · have hn : (xs[k] == ys[k]) = true := by simpa using (show (xs[k] != ys[k]) = false by assumption)
          go_roundw
          case rel => exact ⟨k + 1, by omega, by go_num, drewB hb _, by rw [Hd.out, drop_step _ _ hlt, drop_step _ _ hlt', List.cons_beq_cons, hn, Bool.true_and]⟩
          case measure => simp [intOf]; omega
      · go_wp2
        go_ret
        exact ⟨ret_bool (by rw [Hd.out, List.drop_eq_nil_of_le (by omega), List.drop_eq_nil_of_le (by have := hne'.out; omega)]; rfl), hb⟩
  · have hq : ((xs.length : Int) != (ys.length : Int)) = true := bne_iff_ne.2 (by omega)
    go_enter Try.func13, Try.ntmps13
    go_wp2
    go_ret
    exact ⟨ret_bool (by have h2 : ¬ xs = ys := fun e => hne (by rw [e]); simpa using h2), Below.refl _ _⟩
end Go.Proofs.Ytmiefdjbhcpnbaa

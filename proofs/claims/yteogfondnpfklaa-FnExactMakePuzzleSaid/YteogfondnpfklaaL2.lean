/-
  Contracts of the laws' helpers on marks and on slices of integers.
-/
import Derived.Test.YteogfondnpfklaaL1
import Derived.BigQuiet
import Derived.Deep.QuietTactic
namespace Go.Proofs.Yteogfondnpfklaa
open Go.RowKit

/-- What marks write, from k on. -/
def marksJ (k : Int) (i : Nat) : Int × Int := (k + 2 * i, k + 2 * i + 1)
def marksI (k : Int) (i : Nat) : Int := k + i

set_option maxHeartbeats 400000 in
theorem markJumpS_any (A : Option Addr) (n c lo : Nat) (F : Nat → Int × Int) (k0 : Int) (w : World) (h : OJ w lo 113 A n F) (hn : n ≤ 1048576) (h0 : 0 ≤ k0) (h1 : k0 ≤ 1000000000) :
    Calls Try.prog 60 #[.slice A n c, .int .i64 k0] w fun e w' => e = .returned (.int .i64 (k0 + 2 * n)) ∧ OJ w' lo 113 A n (marksJ k0) ∧ w.grownBy w' (A.map (·.block)) ∧ w'.heap.size = w.heap.size ∧ (∀ B, B ≤ lo → Below B w w') := by
  go_enter Try.func60, Try.ntmps60
  go_wp2
  go_loopw [1, 5] (fun v i wr => ∃ k : Nat, k ≤ n ∧ i = .int .i64 k ∧ v = .int .i64 (k0 + 2 * k) ∧ OJ wr lo 113 A n (fun j => if j < k then marksJ k0 j else F j) ∧ w.grownBy wr (A.map (·.block)) ∧ Hid (wr.heap.size = w.heap.size) ∧ Hid (∀ B, B ≤ lo → Below B w wr)) (fun _ i _ => n - (intOf i).toNat)
  case atStart => exact ⟨0, Nat.zero_le _, rfl, by simp, h.congr (by simp), grown_refl _ _, Lib.hid rfl, Lib.hid (fun _ _ => Below.refl _ _)⟩
  case round =>
    obtain ⟨k, hk, rfl, rfl, ho, hg, hsz, hbl⟩ := hrel
    by_cases hlt : k < n
    · obtain ⟨g, rfl, hlo, hr⟩ := ho.get hlt
      have c1 := hr.cell1 hlt
      have c2 := hr.cell2 hlt
      have f1 := hr.free (k * 2)
      have f2 := hr.free (k * 2 + 1)
      go_wp2
      go_roundw
      case rel => exact ⟨k + 1, by omega, by go_num, by go_num, .inr ⟨g, rfl, hlo, (hr.set hlt _ _).congr (fun j hj => by
        by_cases e : j = k
        · subst e; simp [marksJ]
        · have e2 : (j < k + 1) = (j < k) := by apply propext; omega
          simp [e, e2])⟩, grown_setCell (grown_setCell hg ⟨g, k * 2, none⟩ _ rfl) ⟨g, k * 2 + 1, none⟩ _ rfl, Lib.hid (by simp; exact hsz.out), Lib.hid (fun B hB => ((hbl.out B hB).setCell (by dsimp only; omega) _).setCell (by dsimp only; omega) _)⟩
      case measure => simp [intOf]; omega
    · obtain rfl : k = n := by omega
      go_wp2
      go_ret
      exact ⟨rfl, ho.congr (fun j hj => by simp [hj]), hg, hsz.out, hbl.out⟩

set_option maxHeartbeats 400000 in
theorem heldJumpS_any (A : Option Addr) (n c lo : Nat) (k0 : Int) (w : World) (h : OJ w lo 113 A n (marksJ k0)) (hn : n ≤ 1048576) (h0 : 0 ≤ k0) (h1 : k0 ≤ 1000000000) :
    Calls Try.prog 79 #[.slice A n c, .int .i64 k0] w fun e w' => e = .returned (.int .i64 (k0 + 2 * n)) ∧ w = w' := by
  go_enter Try.func79, Try.ntmps79
  go_wp2
  go_loop [1, 5] (fun v i => ∃ k : Nat, k ≤ n ∧ i = .int .i64 k ∧ v = .int .i64 (k0 + 2 * k)) (fun _ i => n - (intOf i).toNat)
  case atStart => exact ⟨0, Nat.zero_le _, rfl, by simp⟩
  case round =>
    obtain ⟨k, hk, rfl, rfl⟩ := hrel
    by_cases hlt : k < n
    · obtain ⟨g, rfl, hlo, hr⟩ := h.get hlt
      have c1 : w.cell? ⟨g, k * 2, none⟩ = some (.int .i64 (k0 + 2 * k)) := hr.cell1 hlt
      have c2 : w.cell? ⟨g, k * 2 + 1, none⟩ = some (.int .i64 (k0 + 2 * k + 1)) := hr.cell2 hlt
      go_wp2
      go_round
      case rel => exact ⟨k + 1, by omega, by go_num, by go_num⟩
      case measure => simp [intOf]; omega
    · obtain rfl : k = n := by omega
      go_wp2
      go_ret
      exact ⟨rfl, rfl⟩

theorem markBoard_any (s f o : Int) (A : Option Addr) (n c lo : Nat) (F : Nat → Int × Int) (k0 : Int) (w : World) (h : OJ w lo 113 A n F) (hn : n ≤ 1048576) (h0 : 0 ≤ k0) (h1 : k0 ≤ 1000000000) :
    Calls Try.prog 17 #[.agg #[.int .i64 s, .int .i64 f, .int .i64 o, .slice A n c], .int .i64 k0] w fun e w' => e = .returned (.int .i64 (k0 + 2 * n)) ∧ OJ w' lo 113 A n (marksJ k0) ∧ w.grownBy w' (A.map (·.block)) := by
  have ha : OJ (w.alloc (.cells #[.int .i64 s, .int .i64 f, .int .i64 o, .slice A n c] 33)) lo 113 A n F := by
    rcases h with h | ⟨g, e, hl, h⟩
    · exact .inl h
    · exact .inr ⟨g, e, hl, h.alloc _⟩
  go_enter Try.func17, Try.ntmps17
  go_wp2_with (go_at_call 60; refine (markJumpS_any _ _ _ _ _ _ _ ha hn h0 h1).mono ?_; rintro e w2 ⟨rfl, ho, hg, _, _⟩)
  go_ret
  exact ⟨rfl, ho, grown_trans (World.grownBy_alloc w _ _) hg⟩

theorem heldBoard_any (s f o : Int) (A : Option Addr) (n c lo : Nat) (k0 : Int) (w : World) (h : OJ w lo 113 A n (marksJ k0)) (hn : n ≤ 1048576) (h0 : 0 ≤ k0) (h1 : k0 ≤ 1000000000) :
    Calls Try.prog 34 #[.agg #[.int .i64 s, .int .i64 f, .int .i64 o, .slice A n c], .int .i64 k0] w fun e w' => e = .returned (.int .i64 (k0 + 2 * n)) ∧ Below w.heap.size w w' := by
  have ha : OJ (w.alloc (.cells #[.int .i64 s, .int .i64 f, .int .i64 o, .slice A n c] 33)) lo 113 A n (marksJ k0) := h.below (below1 _ _) (Nat.le_refl _)
  have h2 : ¬ k0 + 2 * n < 0 := by omega
  go_enter Try.func34, Try.ntmps34
  go_wp2_with (go_at_call 79; refine (heldJumpS_any _ _ _ _ _ _ ha hn h0 h1).mono ?_; rintro e w2 ⟨rfl, rfl⟩)
  go_ret
  exact ⟨rfl, below1 _ _⟩

theorem infoInt : (Try.prog.info? 3).map (fun i => (i.zero, i.size, i.bytes)) = some (some (.int .i64 0), 1, 8) := by kernel_rfl

set_option maxHeartbeats 400000 in
theorem toIntS_any (A : Option Addr) (c : Nat) (xs : List Int) (w : World) (hj : RI w w.heap.size A xs) :
    Calls Try.prog 41 #[.slice A xs.length c] w fun e w' => e = .returned (.slice (some ⟨w.heap.size, 0, none⟩) xs.length xs.length) ∧ RowI w' w.heap.size 3 xs.length (fun k => xs.getD k 0) ∧ Below w.heap.size w w' := by
  have hl := hj.1
  obtain ⟨i0, hi, hz0, hz1, hz2⟩ := info_parts infoInt
  go_enter Try.func41, Try.ntmps41
  go_wp2_with (at_make; refine wpList_make_full _ rfl _ _ 54 rfl w.heap.size 3 i0 _ 1 Try.underlying54 hi hz0 hz1 _ _ _ _ xs.length rfl rfl rfl rfl (by rw [hz2]; omega) (by unfold maxLen; omega) (Nat.le_refl _) ?_; intro w1 hown hgrow)
  have hrow := madeI hown rfl
  go_loopw [4] (fun i wr => ∃ k : Nat, k ≤ xs.length ∧ i = .int .i64 k ∧ Below w.heap.size w wr ∧ RowI wr w.heap.size 3 xs.length (fun i => if i < k then xs.getD i 0 else 0)) (fun i _ => xs.length - (intOf i).toNat)
  case atStart => exact ⟨0, Nat.zero_le _, rfl, (Below.refl _ _).grown hgrow (Nat.le_refl _) (fun j h => by cases h), hrow.congr (by simp)⟩
  case round =>
    clear hrow hown hgrow
    obtain ⟨k, hk, rfl, hb, hrow⟩ := hrel
    by_cases hlt : k < xs.length
    · obtain ⟨b, off, rfl, hB, h1⟩ := hj.at_ hb hlt
      have d1 := hrow.cell hlt
      have d3 := hrow.free k
      go_wp2
      go_roundw
      case rel => exact ⟨k + 1, by omega, by go_num, hb.setCell (Nat.le_refl _) _, (hrow.set hlt _).congr (fun i hi => by
        by_cases e : i = k
        · subst e; simp [hlt]
        · have e2 : (i < k + 1) = (i < k) := by apply propext; omega
          simp [e, e2])⟩
      case measure => simp [intOf]; omega
    · obtain rfl : k = xs.length := by omega
      go_wp2
      go_ret
      exact ⟨rfl, hrow.congr (fun i hi => by simp [hi]), hb⟩

set_option maxHeartbeats 400000 in
theorem markIntS_any (A : Option Addr) (n c lo : Nat) (F : Nat → Int) (k0 : Int) (w : World) (h : OI w lo 3 A n F) (hn : n ≤ 1048576) (h0 : 0 ≤ k0) (h1 : k0 ≤ 1000000000) :
    Calls Try.prog 30 #[.slice A n c, .int .i64 k0] w fun e w' => e = .returned (.int .i64 (k0 + n)) ∧ OI w' lo 3 A n (marksI k0) ∧ (∀ B, B ≤ lo → Below B w w') ∧ w'.heap.size = w.heap.size := by
  go_enter Try.func30, Try.ntmps30
  go_wp2
  go_loopw [1, 5] (fun v i wr => ∃ k : Nat, k ≤ n ∧ i = .int .i64 k ∧ v = .int .i64 (k0 + k) ∧ OI wr lo 3 A n (fun j => if j < k then marksI k0 j else F j) ∧ Hid (∀ B, B ≤ lo → Below B w wr) ∧ Hid (wr.heap.size = w.heap.size)) (fun _ i _ => n - (intOf i).toNat)
  case atStart => exact ⟨0, Nat.zero_le _, rfl, by simp, h.congr (by simp), Lib.hid (fun _ _ => Below.refl _ _), Lib.hid rfl⟩
  case round =>
    obtain ⟨k, hk, rfl, rfl, ho, hg, hsz⟩ := hrel
    by_cases hlt : k < n
    · obtain ⟨g, rfl, hlo, hr⟩ := ho.get hlt
      have c1 := hr.cell hlt
      have f1 := hr.free k
      go_wp2
      go_roundw
      case rel => exact ⟨k + 1, by omega, by go_num, by go_num, .inr ⟨g, rfl, hlo, (hr.set hlt _).congr (fun j hj => by
        by_cases e : j = k
        · subst e; simp [marksI]
        · have e2 : (j < k + 1) = (j < k) := by apply propext; omega
          simp [e, e2])⟩, Lib.hid (fun B hB => (hg.out B hB).setCell (by dsimp only; omega) _), Lib.hid (by simp; exact hsz.out)⟩
      case measure => simp [intOf]; omega
    · obtain rfl : k = n := by omega
      go_wp2
      go_ret
      exact ⟨rfl, ho.congr (fun j hj => by simp [hj]), hg.out, hsz.out⟩

set_option maxHeartbeats 400000 in
theorem heldIntS_any (A : Option Addr) (n c lo : Nat) (k0 : Int) (w : World) (h : OI w lo 3 A n (marksI k0)) (hn : n ≤ 1048576) (h0 : 0 ≤ k0) (h1 : k0 ≤ 1000000000) :
    Calls Try.prog 31 #[.slice A n c, .int .i64 k0] w fun e w' => e = .returned (.int .i64 (k0 + n)) ∧ w = w' := by
  go_enter Try.func31, Try.ntmps31
  go_wp2
  go_loop [1, 5] (fun v i => ∃ k : Nat, k ≤ n ∧ i = .int .i64 k ∧ v = .int .i64 (k0 + k)) (fun _ i => n - (intOf i).toNat)
  case atStart => exact ⟨0, Nat.zero_le _, rfl, by simp⟩
  case round =>
    obtain ⟨k, hk, rfl, rfl⟩ := hrel
    by_cases hlt : k < n
    · obtain ⟨g, rfl, hlo, hr⟩ := h.get hlt
      have c1 : w.cell? ⟨g, k, none⟩ = some (.int .i64 (k0 + k)) := hr.cell hlt
      go_wp2
      go_round
      case rel => exact ⟨k + 1, by omega, by go_num, by go_num⟩
      case measure => simp [intOf]; omega
    · obtain rfl : k = n := by omega
      go_wp2
      go_ret
      exact ⟨rfl, rfl⟩

set_option maxRecDepth 100000 in
set_option maxHeartbeats 400000 in
theorem eqIntS_any (A A' : Option Addr) (c c' : Nat) (xs ys : List Int) (w : World) (hj : RI w w.heap.size A xs) (hj' : RI w w.heap.size A' ys) :
    Calls Try.prog 29 #[.slice A xs.length c, .slice A' ys.length c'] w fun e w' => e = .returned (.bool (xs == ys)) ∧ Below w.heap.size w w' := by
  have hl := hj.1
  have hl' := hj'.1
  by_cases hne : xs.length = ys.length
  · have hq : ((xs.length : Int) != (ys.length : Int)) = false := bne_eq_false_iff_eq.2 (by omega)
    go_enter Try.func29, Try.ntmps29
    go_wp2
    have hne' := Lib.hid hne; clear hne
    go_loopw [5] (fun i wr => ∃ k : Nat, k ≤ xs.length ∧ i = .int .i64 k ∧ Below w.heap.size w wr ∧ (xs == ys) = (xs.drop k == ys.drop k)) (fun i _ => xs.length - (intOf i).toNat)
    case atStart => exact ⟨0, Nat.zero_le _, rfl, Below.refl _ _, rfl⟩
    case round =>
      obtain ⟨k, hk, rfl, hb, hd⟩ := hrel
      have Hd := Lib.hid hd; clear hd
      by_cases hlt : k < xs.length
      · have hlt' : k < ys.length := by have := hne'.out; omega
        obtain ⟨b, off, rfl, hB, h1⟩ := hj.at_ hb hlt
        obtain ⟨b', off', rfl, hB', h3⟩ := hj'.at_ hb hlt'
        go_wp2
        go_quiet (fail)
        go_wp2
        · have hn : (xs[k] == ys[k]) = false := by simpa using (show (xs[k] != ys[k]) = true by assumption)
          go_ret
          exact ⟨ret_bool (by rw [Hd.out, drop_step _ _ hlt, drop_step _ _ hlt', List.cons_beq_cons, hn]; rfl), drewB hb _⟩
        · have hn : (xs[k] == ys[k]) = true := by simpa using (show (xs[k] != ys[k]) = false by assumption)
          go_roundw
          case rel => exact ⟨k + 1, by omega, by go_num, drewB hb _, by rw [Hd.out, drop_step _ _ hlt, drop_step _ _ hlt', List.cons_beq_cons, hn, Bool.true_and]⟩
          case measure => simp [intOf]; omega
      · go_wp2
        go_ret
        exact ⟨ret_bool (by rw [Hd.out, List.drop_eq_nil_of_le (by omega), List.drop_eq_nil_of_le (by have := hne'.out; omega)]; rfl), hb⟩
  · have hq : ((xs.length : Int) != (ys.length : Int)) = true := bne_iff_ne.2 (by omega)
    go_enter Try.func29, Try.ntmps29
    go_wp2
    go_ret
    exact ⟨ret_bool (by have h2 : ¬ xs = ys := fun e => hne (by rw [e]); simpa using h2), Below.refl _ _⟩
end Go.Proofs.Yteogfondnpfklaa

/-
  Contracts of the laws' helpers: sizes, copies, comparisons, marks.
-/
import Derived.Test.YteogfondnpfklaaChecked
import Derived.Test.YteogfondnpfklaaWRow
import Derived.KernelRfl
import Derived.StillTailTactics
namespace Go.Proofs.Yteogfondnpfklaa
open Go.RowKit

theorem infoJump : (Try.prog.info? 113).map (fun i => (i.zero, i.size, i.bytes)) = some (some (.agg #[.int .i64 0, .int .i64 0]), 2, 16) := by kernel_rfl

theorem szJumpS_any (A : Option Addr) (n c : Nat) (left : Int) (w : World) (hn : n ≤ maxLen) (h0 : 0 ≤ left) (h1 : left ≤ 1048576) :
    Calls Try.prog 48 #[.slice A n c, .int .i64 left] w fun e w' => e = .returned (.int .i64 (if left < n then -1 else left - n)) ∧ w = w' := by
  unfold maxLen at hn
  go_enter Try.func48, Try.ntmps48
  by_cases h : left < n
  · have h2 : left - n < 0 := by omega
    go_wp2
    go_ret
    exact ⟨ret_int rfl, rfl⟩
  · have h2 : ¬ left - n < 0 := by omega
    go_wp2
    go_ret
    exact ⟨ret_int rfl, rfl⟩

theorem szBoard_any (s f o : Int) (A : Option Addr) (n c : Nat) (left : Int) (w : World) (hn : n ≤ maxLen) (h0 : 0 ≤ left) (h1 : left ≤ 1048576) :
    Calls Try.prog 11 #[.agg #[.int .i64 s, .int .i64 f, .int .i64 o, .slice A n c], .int .i64 left] w fun e w' => e = .returned (.int .i64 (if left < n then -1 else left - n)) ∧ Below w.heap.size w w' := by
  have hn' := hn
  unfold maxLen at hn'
  go_enter Try.func11, Try.ntmps11
  by_cases h : left < n
  · go_wp2_with (go_at_call 48; refine (szJumpS_any _ _ _ _ _ hn h0 h1).mono ?_; rintro e w' ⟨rfl, rfl⟩)
    go_ret
    exact ⟨ret_int rfl, (Below.refl _ _).alloc (Nat.le_refl _) _⟩
  · have h2 : ¬ left - n < 0 := by omega
    go_wp2_with (go_at_call 48; refine (szJumpS_any _ _ _ _ _ hn h0 h1).mono ?_; rintro e w' ⟨rfl, rfl⟩)
    go_ret
    exact ⟨ret_int rfl, (Below.refl _ _).alloc (Nat.le_refl _) _⟩

theorem toJump_any (a b : Int) (w : World) : Calls Try.prog 88 #[.agg #[.int .i64 a, .int .i64 b]] w fun e w' => e = .returned (.agg #[.int .i64 a, .int .i64 b]) ∧ Below w.heap.size w w' := by
  go_enter Try.func88, Try.ntmps88
  go_wp2
  exact bodyPost_ret (v := .agg #[.int .i64 a, .int .i64 b]) (by simp [results, Try.results88, go_sem]) rfl ⟨rfl, (((Below.refl _ _).alloc (Nat.le_refl _) _).alloc (by simp) _).alloc (by simp; omega) _⟩

theorem eqJump_any (a b a' b' : Int) (w : World) : Calls Try.prog 93 #[.agg #[.int .i64 a, .int .i64 b], .agg #[.int .i64 a', .int .i64 b']] w fun e w' => e = .returned (.bool (eqJ (a, b) (a', b'))) ∧ Below w.heap.size w w' := by
  have hw : Below w.heap.size w ((w.alloc (.cells #[.int .i64 a, .int .i64 b] 113)).alloc (.cells #[.int .i64 a', .int .i64 b'] 113)) := ((Below.refl _ _).alloc (Nat.le_refl _) _).alloc (by simp) _
  go_enter Try.func93, Try.ntmps93
  by_cases h : a = a'
  · subst h
    by_cases h : b = b'
    · subst h
      go_wp2
      go_ret
      exact ⟨ret_bool (by simp [eqJ_mk]), hw⟩
    · have h1 : (b != b') = true := by simpa using h
      go_wp2
      go_ret
      exact ⟨ret_bool (by simp [eqJ_mk, h]), hw⟩
  · have h1 : (a != a') = true := by simpa using h
    go_wp2
    go_ret
    exact ⟨ret_bool (by simp [eqJ_mk, h]), hw⟩

set_option maxHeartbeats 400000 in
theorem toJumpS_any (A : Option Addr) (c : Nat) (js : List (Int × Int)) (w : World) (hj : RJ w w.heap.size A js) :
    Calls Try.prog 53 #[.slice A js.length c] w fun e w' => e = .returned (.slice (some ⟨w.heap.size, 0, none⟩) js.length js.length) ∧ RowJ w' w.heap.size 113 js.length (fun k => js.getD k (0, 0)) ∧ Below w.heap.size w w' := by
  have hl := hj.1
  obtain ⟨i0, hi, hz0, hz1, hz2⟩ := info_parts infoJump
  go_enter Try.func53, Try.ntmps53
  go_wp2_with (at_make; refine wpList_make_full _ rfl _ _ 31 rfl w.heap.size 113 i0 _ 2 Try.underlying31 hi hz0 hz1 _ _ _ _ js.length rfl rfl rfl rfl (by rw [hz2]; omega) (by unfold maxLen; omega) (Nat.le_refl _) ?_; intro w1 hown hgrow)
  have hrow := madeJ hown rfl
  go_loopw [4] (fun i wr => ∃ k : Nat, k ≤ js.length ∧ i = .int .i64 k ∧ Below w.heap.size w wr ∧ RowJ wr w.heap.size 113 js.length (fun i => if i < k then js.getD i (0, 0) else (0, 0))) (fun i _ => js.length - (intOf i).toNat)
  case atStart => exact ⟨0, Nat.zero_le _, rfl, (Below.refl _ _).grown hgrow (Nat.le_refl _) (fun j h => by cases h), hrow.congr (by simp)⟩
  case round =>
    clear hrow hown hgrow
    obtain ⟨k, hk, rfl, hb, hrow⟩ := hrel
    by_cases hlt : k < js.length
    · obtain ⟨b, off, rfl, hB, h1, h2⟩ := hj.at_ hb hlt
      go_wp2_with (go_at_call 88; refine (toJump_any _ _ _).mono ?_; rintro e w2 ⟨rfl, hb2⟩; have hrow2 := hrow.below hb2 hrow.lt; have d1 := hrow2.cell1 hlt; have d2 := hrow2.cell2 hlt; have d3 := hrow2.free (k * 2); have d4 := hrow2.free (k * 2 + 1))
      go_roundw
      case rel => exact ⟨k + 1, by omega, by go_num, ((hb.trans (hb2.mono hb.size)).setCell (Nat.le_refl _) _).setCell (Nat.le_refl _) _, (hrow2.set hlt _ _).congr (fun i hi => by
        by_cases e : i = k
        · subst e; simp [hlt]
        · have e2 : (i < k + 1) = (i < k) := by apply propext; omega
          simp [e, e2])⟩
      case measure => simp [intOf]; omega
    · obtain rfl : k = js.length := by omega
      go_wp2
      go_ret
      exact ⟨rfl, hrow.congr (fun i hi => by simp [hi]), hb⟩

theorem toBoard_any (s f o : Int) (A : Option Addr) (c : Nat) (js : List (Int × Int)) (w : World) (hj : RJ w w.heap.size A js) :
    Calls Try.prog 13 #[.agg #[.int .i64 s, .int .i64 f, .int .i64 o, .slice A js.length c]] w fun e w' => ∃ g, e = .returned (.agg #[.int .i64 s, .int .i64 f, .int .i64 o, .slice (some ⟨g, 0, none⟩) js.length js.length]) ∧ w.heap.size ≤ g ∧ RowJ w' g 113 js.length (fun k => js.getD k (0, 0)) ∧ Below w.heap.size w w' := by
  have hl := hj.1
  go_enter Try.func13, Try.ntmps13
  go_wp2_with fail
  refine (toJumpS_any _ _ _ _ (hj.go (below3 _ _ _ _))).mono ?_
  rintro e w1 ⟨rfl, hrow, hx⟩
  simp only [World.size_alloc] at hrow hx
  have B1 := (hx.block (w.heap.size + 1) (by omega)).trans ((Below.heap_alloc _ _ _ (by simp)).trans (heap_alloc_at _ _ _ (by simp)))
  have B2 := (hx.block (w.heap.size + 1 + 1) (by omega)).trans (heap_alloc_at _ _ _ (by simp))
  have q1 := fun i => cell_of_row w1 (w.heap.size + 1) i _ _ _ B1
  have q2 := fun i => cell_of_row w1 (w.heap.size + 1 + 1) i _ _ _ B2
  have f1 := fun i => frozen_row (i := i) B1
  have f2 := fun i => frozen_row (i := i) B2
  clear B1 B2
  go_wp2
  have hx0 := (below3 w (.cells #[.int .i64 s, .int .i64 f, .int .i64 o, .slice A js.length c] 24) (.cells #[.int .i64 0, .int .i64 0, .int .i64 0, .slice none 0 0] 33) (.cells #[.int .i64 s, .int .i64 f, .int .i64 o, .slice none 0 0] 33)).trans (hx.mono (by omega))
  exact bodyPost_ret (v := .agg #[.int .i64 s, .int .i64 f, .int .i64 o, .slice (some ⟨w.heap.size + 1 + 1 + 1, 0, none⟩) js.length js.length]) (by simp [results, Try.results13, go_sem, q1]) rfl
    ⟨w.heap.size + 1 + 1 + 1, rfl, by omega, ((((hrow.far (by dsimp only; omega) _).far (by dsimp only; omega) _).far (by dsimp only; omega) _).far (by dsimp only; omega) _).far (by dsimp only; omega) _, ((((hx0.setCell (by dsimp only; omega) _).setCell (by dsimp only; omega) _).setCell (by dsimp only; omega) _).setCell (by dsimp only; omega) _).setCell (by dsimp only; omega) _⟩

set_option maxRecDepth 100000 in
set_option maxHeartbeats 400000 in
theorem eqJumpS_any (A A' : Option Addr) (c c' : Nat) (js js' : List (Int × Int)) (w : World) (hj : RJ w w.heap.size A js) (hj' : RJ w w.heap.size A' js') :
    Calls Try.prog 59 #[.slice A js.length c, .slice A' js'.length c'] w fun e w' => e = .returned (.bool (js == js')) ∧ Below w.heap.size w w' := by
  have hl := hj.1
  have hl' := hj'.1
  by_cases hne : js.length = js'.length
  · have hq : ((js.length : Int) != (js'.length : Int)) = false := bne_eq_false_iff_eq.2 (by omega)
    go_enter Try.func59, Try.ntmps59
    go_wp2
    have hne' := Lib.hid hne; clear hne
    go_loopw [5] (fun i wr => ∃ k : Nat, k ≤ js.length ∧ i = .int .i64 k ∧ Below w.heap.size w wr ∧ (js == js') = (js.drop k == js'.drop k)) (fun i _ => js.length - (intOf i).toNat)
    case atStart => exact ⟨0, Nat.zero_le _, rfl, Below.refl _ _, rfl⟩
    case round =>
      obtain ⟨k, hk, rfl, hb, hd⟩ := hrel
      have Hd := Lib.hid hd; clear hd
      by_cases hlt : k < js.length
      · have hlt' : k < js'.length := by have := hne'.out; omega
        obtain ⟨b, off, rfl, hB, h1, h2⟩ := hj.at_ hb hlt
        obtain ⟨b', off', rfl, hB', h3, h4⟩ := hj'.at_ hb hlt'
        go_wp2
        go_still_tail 8, (by kernel_rfl)
        change wpList _ _ _ _ _ wr.drew
        go_wp2_with (go_at_call 93; refine (eqJump_any _ _ _ _ _).mono ?_; rintro e w2 ⟨rfl, hb2⟩)
        · have hn : (js[k] == js'[k]) = false := by
            have h0 : (!eqJ (js[k].1, js[k].2) (js'[k].1, js'[k].2)) = true := by assumption
            exact (Bool.not_eq_true' _).mp h0
          go_ret
          exact ⟨ret_bool (by rw [Hd.out, drop_step _ _ hlt, drop_step _ _ hlt', List.cons_beq_cons, hn]; rfl), hb.drew.trans (hb2.mono hb.size)⟩
        · have hn : (js[k] == js'[k]) = true := by
            have h0 : (!eqJ (js[k].1, js[k].2) (js'[k].1, js'[k].2)) = false := by assumption
            exact (Bool.not_eq_false' _).mp h0
          go_roundw
          case rel => exact ⟨k + 1, by omega, by go_num, hb.drew.trans (hb2.mono hb.size), by rw [Hd.out, drop_step _ _ hlt, drop_step _ _ hlt', List.cons_beq_cons, hn, Bool.true_and]⟩
          case measure => simp [intOf]; omega
      · go_wp2
        go_ret
        exact ⟨ret_bool (by rw [Hd.out, List.drop_eq_nil_of_le (by omega), List.drop_eq_nil_of_le (by have := hne'.out; omega)]; rfl), hb⟩
  · have hq : ((js.length : Int) != (js'.length : Int)) = true := bne_iff_ne.2 (by omega)
    go_enter Try.func59, Try.ntmps59
    go_wp2
    go_ret
    exact ⟨ret_bool (by have h2 : ¬ js = js' := fun e => hne (by rw [e]); simpa using h2), Below.refl _ _⟩

set_option maxHeartbeats 400000 in
theorem eqBoard_any (s f o s' f' o' : Int) (A A' : Option Addr) (c c' : Nat) (js js' : List (Int × Int)) (w : World) (hj : RJ w w.heap.size A js) (hj' : RJ w w.heap.size A' js') :
    Calls Try.prog 16 #[.agg #[.int .i64 s, .int .i64 f, .int .i64 o, .slice A js.length c], .agg #[.int .i64 s', .int .i64 f', .int .i64 o', .slice A' js'.length c']] w fun e w' => e = .returned (.bool (s == s' && f == f' && o == o' && js == js')) ∧ Below w.heap.size w w' := by
  have hl := hj.1
  have hl' := hj'.1
  go_enter Try.func16, Try.ntmps16
  go_wp2_with (go_at_call 59; refine (eqJumpS_any _ _ _ _ _ _ _ (hj.go (below2 _ _ _)) (hj'.go (below2 _ _ _))).mono ?_; rintro e w2 ⟨rfl, hb2⟩)
  all_goals go_ret
  all_goals first
    | exact ⟨ret_bool (by simp_all), below2 _ _ _⟩
    | exact ⟨ret_bool (by simp_all), (below2 _ _ _).trans (hb2.mono (by simp; omega))⟩
end Go.Proofs.Yteogfondnpfklaa

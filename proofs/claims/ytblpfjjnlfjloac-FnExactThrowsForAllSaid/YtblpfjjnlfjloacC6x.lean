/-
  Dice: ThrowsForAll on both sides.
-/
import Derived.Test.YtblpfjjnlfjloacC5p
import Derived.Test.YtblpfjjnlfjloacC6j
import Derived.Test.YtblpfjjnlfjloacM48
import Derived.Test.YtblpfjjnlfjloacWReg
import Derived.Deep.RegionHeld3
namespace Go.Proofs.Ytblpfjjnlfjloac
open Go.RowKit

set_option maxRecDepth 100000 in
set_option maxHeartbeats 1000000 in
theorem specThrows_yes (f : Nat) (w : World) (hf1 : 1 ≤ f) (hf : f ≤ 12) :
    Calls Try.prog 13 #[.int .i64 f] w fun e w' => e = .returned (.tuple #[.int .i64 ((sF f f).1 : Nat), .int .i64 ((sF f f).2 : Nat), .bool true]) ∧ Below w.heap.size w w' := by
  have hc : cupB 1 (f : Int) = true := cupB_iff.2 (by omega)
  have HC := Lib.hid hc
  clear hc
  go_enter Try.func13, Try.ntmps13
  go_wp2_with fail
  refine (diAsked_any _ _ _).mono ?_
  rintro e w1 ⟨rfl, rfl⟩
  rw [HC.out]
  go_wp2_with fail
  go_loopw [5, 6, 7] (fun a b i wr => ∃ k x y : Nat, k ≤ f ∧ i = .int .i64 ((k : Int) + 1) ∧ a = .int .i64 x ∧ b = .int .i64 y ∧ (x, y) = sF f k ∧ Below w.heap.size w wr) (fun _ _ i _ => f + 1 - (intOf i).toNat)
  case atStart => exact ⟨0, 0, 1, Nat.zero_le _, rfl, rfl, rfl, rfl, Below.refl _ _⟩
  case round =>
    obtain ⟨k, x, y, hk, rfl, rfl, rfl, hxy, hB⟩ := hrel
    have hbd := throws_bd f hf k hk
    rw [← hxy] at hbd
    obtain ⟨b1, b2, b3⟩ := hbd
    by_cases hlt : k < f
    · have h1 : (k : Int) + 1 ≤ (f : Int) := by omega
      have m1 := Nat.mul_le_mul b1 (show k + 1 ≤ 12 by omega)
      have m2 := Nat.mul_le_mul hf b2
      have m3 := Nat.mul_le_mul b2 (show k + 1 ≤ 12 by omega)
      have m4 := Nat.mul_pos b3 (show 0 < k + 1 by omega)
      have hst : sF f (k + 1) = redF (x * (k + 1) + f * y) (y * (k + 1)) := by
        show redF ((sF f k).1 * (k + 1) + f * (sF f k).2) ((sF f k).2 * (k + 1)) = _
        rw [← hxy]
      obtain ⟨P, hP⟩ : ∃ P, P = x * (k + 1) := ⟨_, rfl⟩
      obtain ⟨Q, hQ⟩ : ∃ Q, Q = f * y := ⟨_, rfl⟩
      obtain ⟨R, hR⟩ : ∃ R, R = y * (k + 1) := ⟨_, rfl⟩
      rw [← hP, ← hQ, ← hR] at hst
      rw [← hP] at m1
      rw [← hQ] at m2
      rw [← hR] at m3 m4
      have hPi : (x : Int) * ((k : Int) + 1) = (P : Int) := by rw [hP]; push_cast; rfl
      have hQi : (f : Int) * (y : Int) = (Q : Int) := by rw [hQ]; push_cast; rfl
      have hRi : (y : Int) * ((k : Int) + 1) = (R : Int) := by rw [hR]; push_cast; rfl
      obtain ⟨S, hS⟩ : ∃ S, S = P + Q := ⟨_, rfl⟩
      have hSi : (P : Int) + (Q : Int) = (S : Int) := by omega
      rw [← hS] at hst
      have hl := fun w => chLow_any S R w (by omega) (by omega) m4
      rw [lowA_nat (by omega), lowB_nat (by omega)] at hl
      rw [← hst] at hl
      have HL := Lib.hid hl; have HST := Lib.hid hst
      clear hxy hst hP hQ hR hl hS
      go_wp2_with fail
      refine (HL.out _).mono ?_
      rintro e w3 ⟨rfl, hx3⟩
      have hB3 := hB.trans (hx3.mono hB.size)
      go_wp2
      go_roundw
      case rel => exact ⟨k + 1, _, _, by omega, by go_num, rfl, rfl, rfl, hB3⟩
      case measure => simp [intOf]; omega
    · have h1 : ¬ (k : Int) + 1 ≤ (f : Int) := by omega
      obtain rfl : k = f := by omega
      have HX := Lib.hid hxy
      clear hxy
      go_wp2
      exact bodyPost_ret (v := .tuple #[.int .i64 x, .int .i64 y, .bool true]) (by simp [results, Try.results13]) rfl ⟨by rw [← HX.out], hB⟩
theorem specThrows_no (f : Int) (w : World) (h : cupB 1 f = false) :
    Calls Try.prog 13 #[.int .i64 f] w fun e w' => e = .returned (.tuple #[.int .i64 0, .int .i64 0, .bool false]) ∧ Below w.heap.size w w' := by
  have HC := Lib.hid h
  clear h
  go_enter Try.func13, Try.ntmps13
  go_wp2_with fail
  refine (diAsked_any _ _ _).mono ?_
  rintro e w1 ⟨rfl, rfl⟩
  rw [HC.out]
  go_wp2
  exact bodyPost_ret (v := .tuple #[.int .i64 0, .int .i64 0, .bool false]) (by simp [results, Try.results13]) rfl ⟨rfl, Below.refl _ _⟩

def FrAt (w : World) (g : Nat) (p : Fr) : Prop := w.heap[g]? = some (.cells #[.int .i64 (p.1 : Nat), .int .i64 (p.2 : Nat)] 43 (0, 0))
theorem FrAt.set {w : World} {g : Nat} {p : Fr} (h : FrAt w g p) (q : Fr) : FrAt ((w.setCell ⟨g, 0, none⟩ (.int .i64 (q.1 : Nat))).setCell ⟨g, 1, none⟩ (.int .i64 (q.2 : Nat))) g q := heap_set _ _ _ _ _ _ (heap_set _ _ _ _ _ _ h)
set_option maxRecDepth 100000 in
set_option maxHeartbeats 1000000 in
theorem implThrows_yes (f : Nat) (w : World) (hf1 : 1 ≤ f) (hf : f ≤ 12) :
    Calls Try.prog 14 #[.int .i64 f] w fun e w' => e = .returned (.tuple #[.int .i64 ((pF f f).1 : Nat), .int .i64 ((pF f f).2 : Nat), .bool true]) ∧ Below w.heap.size w w' := by
  have hc : cupB 1 (f : Int) = true := cupB_iff.2 (by omega)
  go_enter Try.func14, Try.ntmps14
  go_wp2_with fail
  refine (cupOf_yes _ _ _ hc).mono ?_
  rintro e w1 ⟨rfl, hx1⟩
  have hb1 := (hx1.alloc hx1.size (.cells #[.int .i64 1, .int .i64 f] 32))
  go_wp2_with fail
  refine (ratioOf_any 0 1 _ (by omega) (by omega) (by omega)).mono ?_
  rintro e w2 ⟨rfl, hx2⟩
  have hb2 := hb1.trans (hx2.mono hb1.size)
  obtain ⟨gb, hgb⟩ : ∃ gb, gb = w2.heap.size := ⟨_, rfl⟩
  have hle : w.heap.size ≤ gb := by rw [hgb]; exact hb2.size
  have hF0 : FrAt (w2.alloc (.cells #[.int .i64 ((pF f 0).1 : Nat), .int .i64 ((pF f 0).2 : Nat)] 43)) gb (pF f 0) := heap_alloc_at _ _ _ hgb
  have hB0 := hb2.alloc hb2.size (.cells #[.int .i64 ((pF f 0).1 : Nat), .int .i64 ((pF f 0).2 : Nat)] 43)
  have HF0 := Lib.hid hF0; have HB0 := Lib.hid hB0
  clear hx1 hx2 hb1 hF0 hB0
  go_wp2_with fail
  rw [← hgb]
  clear hgb
  go_loopw [8] (fun i wr => ∃ j : Nat, j ≤ f ∧ i = .int .i64 ((f : Int) - j) ∧ FrAt wr gb (pF f j) ∧ Below w.heap.size w wr) (fun i _ => (intOf i).toNat)
  case atStart => exact ⟨0, Nat.zero_le _, by simp, HF0.out, HB0.out⟩
  case round =>
    clear HF0 HB0
    obtain ⟨j, hj, rfl, hF, hB⟩ := hrel
    have q0 := fun i => cell_of_row wr gb i _ _ _ hF
    have hgl := heap_lt hF
    by_cases hlt : j < f
    · obtain ⟨l, hl⟩ : ∃ l, l = f - j := ⟨_, rfl⟩
      have hli : (f : Int) - (j : Int) = (l : Int) := by omega
      have hl1 : 1 ≤ l := by omega
      have hl12 : l ≤ 12 := by omega
      have hl0 : (0 : Int) < (l : Int) := by omega
      have hok := throws_ok f hf j hlt
      have hst : pF f (j + 1) = addF (pF f j) (redF f l) := by rw [hl]; rfl
      rw [← hl] at hok
      obtain ⟨p, hp⟩ : ∃ p, p = pF f j := ⟨_, rfl⟩
      rw [← hp] at hok hst hF q0
      have HST := Lib.hid hst; have HOK := Lib.hid hok; have HLI := Lib.hid hli
      rw [hli]
      clear hst hok hl hp hli
      go_wp2_with fail
      refine wp_region_held_drew (S := (fun _ => True)) (by kernel_rfl) trivial (fun hS => ?_)
      refine wpAnyH_take (i := 1) (oi := ⟨some 23, _, _, _, _, _⟩) (v := ?va1) rfl (by kernel_rfl) (by kernel_rfl) (by kernel_rfl) (fun _ _ _ h => h) (Or.inl ⟨by rfl, ?ha1⟩) hS ?ra1
      case ha1 => (intro w' hSw; (try dsimp only at hSw); go_simp; (try with_reducible rfl))
      try simp only [Act.put, List.setIfInBounds_toArray, List.set_cons_zero, List.set_cons_succ]
      refine wpAnyH_take (i := 2) (oi := ⟨some 24, _, _, _, _, _⟩) (v := ?va2) rfl (by kernel_rfl) (by kernel_rfl) (by kernel_rfl) (fun _ _ _ h => h) (Or.inl ⟨by rfl, ?ha2⟩) hS ?ra2
      case ha2 => (intro w' hSw; (try dsimp only at hSw); go_simp; (try with_reducible rfl))
      try simp only [Act.put, List.setIfInBounds_toArray, List.set_cons_zero, List.set_cons_succ]
      refine wpAnyH_ready (rs := [0, 3]) (by kernel_rfl) (by simp) ?_
      refine AllReadyH.cons (o := ⟨some 22, _, _, _, _, _⟩) rfl (fun K' hK' => ?_) (AllReadyH.cons (o := ⟨some 25, _, _, _, _, _⟩) rfl (fun K' hK' => ?_) AllReadyH.nil)
      focus
        go_simp
        refine hK'.out _ _ hS (fun _ => ?_)
        clear hK' K'
        try simp only [Act.put, List.setIfInBounds_toArray, List.set_cons_zero, List.set_cons_succ]
        refine wpAnyH_ready (rs := [3]) (by kernel_rfl) (by simp) ?_
        refine AllReadyH.cons (o := ⟨some 25, _, _, _, _, _⟩) rfl (fun K' hK' => ?_) AllReadyH.nil
        go_simp
        go_at_call 31
        refine (ratioOf_any f l _ (by omega) (by omega) hl1).mono ?_
        rintro e w6 ⟨rfl, hx6⟩
        have hx6 : Below wr.heap.size wr w6 := ((Below.refl wr.heap.size wr).drew).trans hx6
        have hF6 : FrAt w6 gb p := (hx6.block gb hgl).trans hF
        have q6 := fun i => cell_of_row w6 gb i _ _ _ hF6
        refine hK'.out _ _ trivial (fun _ => ?_)
        clear hK' K'
        try simp only [Act.put, List.setIfInBounds_toArray, List.set_cons_zero, List.set_cons_succ]
        refine wpAnyH_ready (rs := [4]) (by kernel_rfl) (by simp) ?_
        refine AllReadyH.cons (o := ⟨some 26, _, _, _, _, _⟩) rfl (fun K' hK' => ?_) AllReadyH.nil
        go_simp
        go_at_call 32
        refine (plus_any p (redF f l) _ HOK.out).mono ?_
        rintro e w7 ⟨rfl, hx7⟩
        have hF7 : FrAt w7 gb p := (hx7.block gb (heap_lt hF6)).trans hF6
        have f7 := fun i => frozen_row (i := i) hF7
        have q7 := fun i => cell_of_row w7 gb i _ _ _ hF7
        refine hK'.out _ _ trivial (fun _ => ?_)
        clear hK' K'
        try simp only [Act.put, List.setIfInBounds_toArray, List.set_cons_zero, List.set_cons_succ]
        refine wpAnyH_ready (rs := [5]) (by kernel_rfl) (by simp) ?_
        refine AllReadyH.cons (o := ⟨none, _, _, _, _, _⟩) rfl (fun K' hK' => ?_) AllReadyH.nil
        go_simp
        refine hK'.out _ _ trivial (fun _ => ?_)
        clear hK' K'
        try simp only [Act.put, List.setIfInBounds_toArray, List.set_cons_zero, List.set_cons_succ]
        refine wpAnyH_done (by kernel_rfl) ?_ _
      rotate_left 1
      focus
        go_simp
        go_at_call 31
        refine (ratioOf_any f l _ (by omega) (by omega) hl1).mono ?_
        rintro e w6 ⟨rfl, hx6⟩
        have hx6 : Below wr.heap.size wr w6 := ((Below.refl wr.heap.size wr).drew).trans hx6
        have hF6 : FrAt w6 gb p := (hx6.block gb hgl).trans hF
        have q6 := fun i => cell_of_row w6 gb i _ _ _ hF6
        refine hK'.out _ _ trivial (fun _ => ?_)
        clear hK' K'
        try simp only [Act.put, List.setIfInBounds_toArray, List.set_cons_zero, List.set_cons_succ]
        refine wpAnyH_ready (rs := [0]) (by kernel_rfl) (by simp) ?_
        refine AllReadyH.cons (o := ⟨some 22, _, _, _, _, _⟩) rfl (fun K' hK' => ?_) AllReadyH.nil
        go_simp
        refine hK'.out _ _ trivial (fun _ => ?_)
        clear hK' K'
        try simp only [Act.put, List.setIfInBounds_toArray, List.set_cons_zero, List.set_cons_succ]
        refine wpAnyH_ready (rs := [4]) (by kernel_rfl) (by simp) ?_
        refine AllReadyH.cons (o := ⟨some 26, _, _, _, _, _⟩) rfl (fun K' hK' => ?_) AllReadyH.nil
        go_simp
        go_at_call 32
        refine (plus_any p (redF f l) _ HOK.out).mono ?_
        rintro e w7 ⟨rfl, hx7⟩
        have hF7 : FrAt w7 gb p := (hx7.block gb (heap_lt hF6)).trans hF6
        have f7 := fun i => frozen_row (i := i) hF7
        have q7 := fun i => cell_of_row w7 gb i _ _ _ hF7
        refine hK'.out _ _ trivial (fun _ => ?_)
        clear hK' K'
        try simp only [Act.put, List.setIfInBounds_toArray, List.set_cons_zero, List.set_cons_succ]
        refine wpAnyH_ready (rs := [5]) (by kernel_rfl) (by simp) ?_
        refine AllReadyH.cons (o := ⟨none, _, _, _, _, _⟩) rfl (fun K' hK' => ?_) AllReadyH.nil
        go_simp
        refine hK'.out _ _ trivial (fun _ => ?_)
        clear hK' K'
        try simp only [Act.put, List.setIfInBounds_toArray, List.set_cons_zero, List.set_cons_succ]
        refine wpAnyH_done (by kernel_rfl) ?_ _
      rotate_left 1
      all_goals
        have hB7 : Below w.heap.size w w7 := (hB.trans (hx6.mono hB.size)).trans (hx7.mono (Nat.le_trans hB.size hx6.size))
        have hF8 := hF7.set (addF p (redF f l))
        have HF8 := Lib.hid hF8
        clear hF8 hF7 hF6 hF q0 q6 q7 f7 hx6 hx7
        go_wp2
        go_roundw
        case rel => exact ⟨j + 1, by omega, by have := HLI.out; congr 1; push_cast; omega, by rw [HST.out]; exact HF8.out, (hB7.setCell hle _).setCell hle _⟩
        case measure => simp [intOf]; try omega
    · obtain rfl : j = f := by omega
      have h0 : ¬ (0 : Int) < (j : Int) - (j : Int) := by omega
      go_wp2_with fail
      go_quiet (fail)
      go_wp2
      exact bodyPost_ret (v := .tuple #[.int .i64 ((pF j j).1 : Nat), .int .i64 ((pF j j).2 : Nat), .bool true]) (by simp [results, Try.results14]) rfl ⟨rfl, drewB hB _⟩
theorem implThrows_no (f : Int) (w : World) (h : cupB 1 f = false) :
    Calls Try.prog 14 #[.int .i64 f] w fun e w' => e = .returned (.tuple #[.int .i64 0, .int .i64 0, .bool false]) ∧ Below w.heap.size w w' := by
  go_enter Try.func14, Try.ntmps14
  go_wp2_with fail
  refine (cupOf_no _ _ _ h).mono ?_
  rintro e w1 ⟨rfl, hx1⟩
  have hb1 := (hx1.alloc hx1.size (.cells #[.int .i64 0, .int .i64 0] 32))
  go_wp2
  exact bodyPost_ret (v := .tuple #[.int .i64 0, .int .i64 0, .bool false]) (by simp [results, Try.results14]) rfl ⟨rfl, hb1⟩
theorem throwsForAll_both (f : Int) : ∃ (x y : Int) (ok : Bool),
    (∀ w, Calls Try.prog 13 #[.int .i64 f] w fun e w' => e = .returned (.tuple #[.int .i64 x, .int .i64 y, .bool ok]) ∧ Below w.heap.size w w') ∧
    (∀ w, Calls Try.prog 14 #[.int .i64 f] w fun e w' => e = .returned (.tuple #[.int .i64 x, .int .i64 y, .bool ok]) ∧ Below w.heap.size w w') := by
  cases hc : cupB 1 f
  · exact ⟨0, 0, false, fun w => specThrows_no f w hc, fun w => implThrows_no f w hc⟩
  · have h := cupB_iff.1 hc
    obtain ⟨n, rfl⟩ : ∃ n : Nat, f = n := ⟨f.toNat, by omega⟩
    exact ⟨_, _, _, fun w => specThrows_yes n w (by omega) (by omega), fun w => by rw [← throws_same n (by omega) (by omega)]; exact implThrows_yes n w (by omega) (by omega)⟩
end Go.Proofs.Ytblpfjjnlfjloac

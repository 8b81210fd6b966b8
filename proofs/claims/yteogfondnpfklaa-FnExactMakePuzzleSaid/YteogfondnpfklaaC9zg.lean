/-
  Puzzles: the clue that is made from a kind and a number, on both sides.
-/
import Derived.Test.YteogfondnpfklaaC9m1
import Derived.Test.YteogfondnpfklaaM81
import Derived.BigQuiet
import Derived.Deep.QuietTactic
namespace Go.Proofs.Yteogfondnpfklaa
open Go.RowKit

theorem pzNext_any (z : Nat) (hz : z ≤ 10006) (w : World) : Calls Try.prog 51 #[.int .i64 (z : Int)] w fun e w' => e = .returned (.int .i64 ((nxZ z : Nat) : Int)) ∧ w = w' := by
  have h1 : ((193 : Int) * (z : Int) + 2459).tmod 10007 = ((nxZ z : Nat) : Int) := by rw [Int.tmod_eq_emod_of_nonneg (by omega), nxZ]; omega
  have h2 : IntKind.i64.wrap ((193 : Int) * (z : Int)) = (193 : Int) * (z : Int) := IntWalk.i64_in _ (by omega)
  have h3 : IntKind.i64.wrap ((193 : Int) * (z : Int) + 2459) = (193 : Int) * (z : Int) + 2459 := IntWalk.i64_in _ (by omega)
  have h4 := nxZ_lt z
  go_enter Try.func51, Try.ntmps51
  go_wp2
  go_ret
  exact ⟨ret_int (by first | rfl | exact h1), rfl⟩
theorem numberBehind_any (z : Nat) (hz : z ≤ 10006) (w : World) : Calls Try.prog 56 #[.int .i64 (z : Int)] w fun e w' => e = .returned (.int .i64 ((nxZ z : Nat) : Int)) ∧ w = w' := by
  have h1 : ((z : Int) * 193 + 2459).tmod 10007 = ((nxZ z : Nat) : Int) := by rw [Int.tmod_eq_emod_of_nonneg (by omega), nxZ]; omega
  have h2 : IntKind.i64.wrap ((z : Int) * 193) = (z : Int) * 193 := IntWalk.i64_in _ (by omega)
  have h3 : IntKind.i64.wrap ((z : Int) * 193 + 2459) = (z : Int) * 193 + 2459 := IntWalk.i64_in _ (by omega)
  have h4 := nxZ_lt z
  go_enter Try.func56, Try.ntmps56
  go_wp2
  go_ret
  exact ⟨ret_int (by first | rfl | exact h1), rfl⟩

set_option maxRecDepth 100000 in
set_option maxHeartbeats 1000000 in
theorem pzOf_plain (S0 F0 y : Nat) (o : Int) (A : Option Addr) (c : Nat) (js : List (Int × Int)) (x : Int) (k : Int) (w : World) (hj : RJ w w.heap.size A js) (hS : 1 ≤ S0 ∧ S0 ≤ 10) (hF : 1 ≤ F0 ∧ F0 ≤ 8) (hy : y ≤ 10006) (k1 : ¬ k = 1) (k4 : ¬ k = 4) (k5 : ¬ k = 5)
    (hV : ∀ w : World, RJ w w.heap.size A js → Calls Try.prog 87 #[.int .i64 k, .int .i64 (0), .int .i64 (0), .agg #[.int .i64 (S0 : Int), .int .i64 (F0 : Int), .int .i64 o, .slice A js.length c]] w fun e w' => e = .returned (.int .i64 x) ∧ Below w.heap.size w w') :
    Calls Try.prog 52 #[.int .i64 k, .int .i64 (y : Int), .agg #[.int .i64 (S0 : Int), .int .i64 (F0 : Int), .int .i64 o, .slice A js.length c]] w fun e w' => e = .returned (.agg #[.int .i64 k, .int .i64 (0), .int .i64 (0), .int .i64 x]) ∧ Below w.heap.size w w' := by
  have hl := hj.1
  have m1 : ((y : Int)).tmod (S0 : Int) = ((y % S0 : Nat) : Int) := Int.ofNat_tmod y S0
  have m2 : ((y : Int)).tmod (F0 : Int) = ((y % F0 : Nat) : Int) := Int.ofNat_tmod y F0
  have m3 : ((y : Int)).tmod 8 = ((y % 8 : Nat) : Int) := Int.ofNat_tmod y 8
  have z3 : ¬ (S0 : Int) = 0 := by omega
  have z4 : ¬ (F0 : Int) = 0 := by omega
  have b1 := Nat.mod_lt y (show 0 < S0 by omega)
  have b2 := Nat.mod_lt y (show 0 < F0 by omega)
  have b3 := Nat.mod_lt y (show 0 < 8 by omega)
  obtain ⟨ys, hys⟩ : ∃ ys, ys = y % S0 := ⟨_, rfl⟩
  obtain ⟨yf, hyf⟩ : ∃ yf, yf = y % F0 := ⟨_, rfl⟩
  obtain ⟨y8, hy8⟩ : ∃ y8, y8 = y % 8 := ⟨_, rfl⟩
  rw [← hys] at m1 b1
  rw [← hyf] at m2 b2
  rw [← hy8] at m3 b3
  have HV := Lib.hid hV
  clear hV hys hyf hy8
  have e1 : (k == 1) = false := beq_eq_false_iff_ne.2 k1
  have e4 : (k == 4) = false := beq_eq_false_iff_ne.2 k4
  have e5 : (k == 5) = false := beq_eq_false_iff_ne.2 k5
  go_enter Try.func52, Try.ntmps52
  go_wp2_with fail
  refine (HV.out _ (hj.go (below3 w (.cells #[.int .i64 (S0 : Int), .int .i64 (F0 : Int), .int .i64 o, .slice A js.length c] 33) (.cells #[.int .i64 0, .int .i64 0, .int .i64 0, .int .i64 0] 44) (.cells #[.int .i64 k, .int .i64 0, .int .i64 0, .int .i64 0] 44)))).mono ?_
  rintro e w9 ⟨rfl, hx9⟩
  have kc9 := (hx9.block (w.heap.size + 1 + 1) (by first | omega | (simp; try omega))).trans (heap_alloc_at _ (.cells #[.int .i64 k, .int .i64 0, .int .i64 0, .int .i64 0] 44) _ (by simp))
  have kr9 := (hx9.block (w.heap.size + 1) (by first | omega | (simp; try omega))).trans ((Below.heap_alloc _ _ _ (by simp; try omega)).trans (heap_alloc_at _ (.cells #[.int .i64 0, .int .i64 0, .int .i64 0, .int .i64 0] 44) _ (by simp)))
  have hb9 : Below w.heap.size w w9 := (below3 w (.cells #[.int .i64 (S0 : Int), .int .i64 (F0 : Int), .int .i64 o, .slice A js.length c] 33) (.cells #[.int .i64 0, .int .i64 0, .int .i64 0, .int .i64 0] 44) (.cells #[.int .i64 k, .int .i64 0, .int .i64 0, .int .i64 0] 44)).trans (hx9.mono (by first | omega | (simp; try omega)))
  have qc9 := fun i => cell_of_row w9 (w.heap.size + 1 + 1) i _ _ _ kc9
  have zc9 := fun i => frozen_row (i := i) kc9
  have qr9 := fun i => cell_of_row w9 (w.heap.size + 1) i _ _ _ kr9
  have zr9 := fun i => frozen_row (i := i) kr9
  go_wp2
  exact bodyPost_ret (v := .agg #[.int .i64 k, .int .i64 0, .int .i64 0, .int .i64 x]) (by simp [results, Try.results52, go_sem, qr9]) rfl ⟨rfl, by repeat (first | with_reducible exact hb9 | refine Below.setCell ?_ (by simp; try omega) _)⟩

set_option maxRecDepth 100000 in
set_option maxHeartbeats 1000000 in
theorem pzOf_5 (S0 F0 y : Nat) (o : Int) (A : Option Addr) (c : Nat) (js : List (Int × Int)) (x : Int) (w : World) (hj : RJ w w.heap.size A js) (hS : 1 ≤ S0 ∧ S0 ≤ 10) (hF : 1 ≤ F0 ∧ F0 ≤ 8) (hy : y ≤ 10006) 
    (hV : ∀ w : World, RJ w w.heap.size A js → Calls Try.prog 87 #[.int .i64 5, .int .i64 (((y % 8 : Nat) : Int)), .int .i64 (((y % F0 : Nat) : Int) + 1), .agg #[.int .i64 (S0 : Int), .int .i64 (F0 : Int), .int .i64 o, .slice A js.length c]] w fun e w' => e = .returned (.int .i64 x) ∧ Below w.heap.size w w') :
    Calls Try.prog 52 #[.int .i64 5, .int .i64 (y : Int), .agg #[.int .i64 (S0 : Int), .int .i64 (F0 : Int), .int .i64 o, .slice A js.length c]] w fun e w' => e = .returned (.agg #[.int .i64 5, .int .i64 (((y % 8 : Nat) : Int)), .int .i64 (((y % F0 : Nat) : Int) + 1), .int .i64 x]) ∧ Below w.heap.size w w' := by
  have hl := hj.1
  have m1 : ((y : Int)).tmod (S0 : Int) = ((y % S0 : Nat) : Int) := Int.ofNat_tmod y S0
  have m2 : ((y : Int)).tmod (F0 : Int) = ((y % F0 : Nat) : Int) := Int.ofNat_tmod y F0
  have m3 : ((y : Int)).tmod 8 = ((y % 8 : Nat) : Int) := Int.ofNat_tmod y 8
  have z3 : ¬ (S0 : Int) = 0 := by omega
  have z4 : ¬ (F0 : Int) = 0 := by omega
  have b1 := Nat.mod_lt y (show 0 < S0 by omega)
  have b2 := Nat.mod_lt y (show 0 < F0 by omega)
  have b3 := Nat.mod_lt y (show 0 < 8 by omega)
  obtain ⟨ys, hys⟩ : ∃ ys, ys = y % S0 := ⟨_, rfl⟩
  obtain ⟨yf, hyf⟩ : ∃ yf, yf = y % F0 := ⟨_, rfl⟩
  obtain ⟨y8, hy8⟩ : ∃ y8, y8 = y % 8 := ⟨_, rfl⟩
  rw [← hys] at m1 b1
  rw [← hyf] at m2 b2
  rw [← hy8] at m3 b3
  rw [← hyf] at hV ⊢
  rw [← hy8] at hV ⊢
  have HV := Lib.hid hV
  clear hV hys hyf hy8
  go_enter Try.func52, Try.ntmps52
  go_wp2_with fail
  refine (HV.out _ (hj.go (below3 w (.cells #[.int .i64 (S0 : Int), .int .i64 (F0 : Int), .int .i64 o, .slice A js.length c] 33) (.cells #[.int .i64 0, .int .i64 0, .int .i64 0, .int .i64 0] 44) (.cells #[.int .i64 5, .int .i64 ((y8 : Nat) : Int), .int .i64 (((yf : Nat) : Int) + 1), .int .i64 0] 44)))).mono ?_
  rintro e w9 ⟨rfl, hx9⟩
  have kc9 := (hx9.block (w.heap.size + 1 + 1) (by first | omega | (simp; try omega))).trans (heap_alloc_at _ (.cells #[.int .i64 5, .int .i64 ((y8 : Nat) : Int), .int .i64 (((yf : Nat) : Int) + 1), .int .i64 0] 44) _ (by simp))
  have kr9 := (hx9.block (w.heap.size + 1) (by first | omega | (simp; try omega))).trans ((Below.heap_alloc _ _ _ (by simp; try omega)).trans (heap_alloc_at _ (.cells #[.int .i64 0, .int .i64 0, .int .i64 0, .int .i64 0] 44) _ (by simp)))
  have hb9 : Below w.heap.size w w9 := (below3 w (.cells #[.int .i64 (S0 : Int), .int .i64 (F0 : Int), .int .i64 o, .slice A js.length c] 33) (.cells #[.int .i64 0, .int .i64 0, .int .i64 0, .int .i64 0] 44) (.cells #[.int .i64 5, .int .i64 ((y8 : Nat) : Int), .int .i64 (((yf : Nat) : Int) + 1), .int .i64 0] 44)).trans (hx9.mono (by first | omega | (simp; try omega)))
  have qc9 := fun i => cell_of_row w9 (w.heap.size + 1 + 1) i _ _ _ kc9
  have zc9 := fun i => frozen_row (i := i) kc9
  have qr9 := fun i => cell_of_row w9 (w.heap.size + 1) i _ _ _ kr9
  have zr9 := fun i => frozen_row (i := i) kr9
  go_wp2
  exact bodyPost_ret (v := .agg #[.int .i64 5, .int .i64 ((y8 : Nat) : Int), .int .i64 (((yf : Nat) : Int) + 1), .int .i64 x]) (by simp [results, Try.results52, go_sem, qr9]) rfl ⟨rfl, by repeat (first | with_reducible exact hb9 | refine Below.setCell ?_ (by simp; try omega) _)⟩

set_option maxRecDepth 100000 in
set_option maxHeartbeats 1000000 in
theorem pzOf_1 (S0 F0 y : Nat) (o : Int) (A : Option Addr) (c : Nat) (js : List (Int × Int)) (x : Int) (w : World) (hj : RJ w w.heap.size A js) (hS : 1 ≤ S0 ∧ S0 ≤ 10) (hF : 1 ≤ F0 ∧ F0 ≤ 8) (hy : y ≤ 10006) (ho : onSq (S0 : Int) js ((y % S0 : Nat) : Int) = true)
    (hV : ∀ w : World, RJ w w.heap.size A js → Calls Try.prog 87 #[.int .i64 1, .int .i64 (((y % S0 : Nat) : Int)), .int .i64 (((y % F0 : Nat) : Int) + 1), .agg #[.int .i64 (S0 : Int), .int .i64 (F0 : Int), .int .i64 o, .slice A js.length c]] w fun e w' => e = .returned (.int .i64 x) ∧ Below w.heap.size w w') :
    Calls Try.prog 52 #[.int .i64 1, .int .i64 (y : Int), .agg #[.int .i64 (S0 : Int), .int .i64 (F0 : Int), .int .i64 o, .slice A js.length c]] w fun e w' => e = .returned (.agg #[.int .i64 1, .int .i64 (((y % S0 : Nat) : Int)), .int .i64 (((y % F0 : Nat) : Int) + 1), .int .i64 x]) ∧ Below w.heap.size w w' := by
  have hl := hj.1
  have m1 : ((y : Int)).tmod (S0 : Int) = ((y % S0 : Nat) : Int) := Int.ofNat_tmod y S0
  have m2 : ((y : Int)).tmod (F0 : Int) = ((y % F0 : Nat) : Int) := Int.ofNat_tmod y F0
  have m3 : ((y : Int)).tmod 8 = ((y % 8 : Nat) : Int) := Int.ofNat_tmod y 8
  have z3 : ¬ (S0 : Int) = 0 := by omega
  have z4 : ¬ (F0 : Int) = 0 := by omega
  have b1 := Nat.mod_lt y (show 0 < S0 by omega)
  have b2 := Nat.mod_lt y (show 0 < F0 by omega)
  have b3 := Nat.mod_lt y (show 0 < 8 by omega)
  obtain ⟨ys, hys⟩ : ∃ ys, ys = y % S0 := ⟨_, rfl⟩
  obtain ⟨yf, hyf⟩ : ∃ yf, yf = y % F0 := ⟨_, rfl⟩
  obtain ⟨y8, hy8⟩ : ∃ y8, y8 = y % 8 := ⟨_, rfl⟩
  rw [← hys] at m1 b1
  rw [← hyf] at m2 b2
  rw [← hy8] at m3 b3
  rw [← hys] at ho
  have HO := Lib.hid ho
  clear ho
  rw [← hys] at hV ⊢
  rw [← hyf] at hV ⊢
  have HV := Lib.hid hV
  clear hV hys hyf hy8
  go_enter Try.func52, Try.ntmps52
  go_wp2_with fail
  refine (sqSquare_any (S0 : Int) (F0 : Int) o A c _ js _ (hj.go (below3 w (.cells #[.int .i64 (S0 : Int), .int .i64 (F0 : Int), .int .i64 o, .slice A js.length c] 33) (.cells #[.int .i64 0, .int .i64 0, .int .i64 0, .int .i64 0] 44) (.cells #[.int .i64 1, .int .i64 ((ys : Nat) : Int), .int .i64 0, .int .i64 0] 44)))).mono ?_
  rintro e w2 ⟨rfl, hx2⟩
  rw [HO.out]
  have kc2 := (hx2.block (w.heap.size + 1 + 1) (by first | omega | (simp; try omega))).trans (heap_alloc_at _ (.cells #[.int .i64 1, .int .i64 ((ys : Nat) : Int), .int .i64 0, .int .i64 0] 44) _ (by simp))
  have kr2 := (hx2.block (w.heap.size + 1) (by simp; try omega)).trans ((Below.heap_alloc _ _ _ (by simp; try omega)).trans (heap_alloc_at _ (.cells #[.int .i64 0, .int .i64 0, .int .i64 0, .int .i64 0] 44) _ (by simp)))
  have kb2 := (hx2.block w.heap.size (by simp; try omega)).trans ((Below.heap_alloc _ _ _ (by simp; try omega)).trans ((Below.heap_alloc _ _ _ (by simp; try omega)).trans (heap_alloc_at w (.cells #[.int .i64 (S0 : Int), .int .i64 (F0 : Int), .int .i64 o, .slice A js.length c] 33) _ rfl)))
  have hb2 : Below w.heap.size w w2 := (below3 w (.cells #[.int .i64 (S0 : Int), .int .i64 (F0 : Int), .int .i64 o, .slice A js.length c] 33) (.cells #[.int .i64 0, .int .i64 0, .int .i64 0, .int .i64 0] 44) (.cells #[.int .i64 1, .int .i64 ((ys : Nat) : Int), .int .i64 0, .int .i64 0] 44)).trans (hx2.mono (by simp; try omega))
  have hs2 : w.heap.size + 1 + 1 < w2.heap.size := heap_lt kc2
  have qc2 := fun i => cell_of_row w2 (w.heap.size + 1 + 1) i _ _ _ kc2
  have zc2 := fun i => frozen_row (i := i) kc2
  have qb2 := fun i => cell_of_row w2 w.heap.size i _ _ _ kb2
  clear hx2
  have kcW := (heap_set w2 (w.heap.size + 1 + 1) 2 _ _ (.int .i64 (((yf : Nat) : Int) + 1)) kc2)
  have krW := ((Below.heap_setCell w2 ⟨w.heap.size + 1 + 1, 2, none⟩ (.int .i64 (((yf : Nat) : Int) + 1)) _ (by simp)).trans kr2)
  have hbW := (hb2.setCell (p := ⟨w.heap.size + 1 + 1, 2, none⟩) (by simp; try omega) (.int .i64 (((yf : Nat) : Int) + 1)))
  simp only [List.setIfInBounds_toArray, List.set_cons_zero, List.set_cons_succ] at kcW
  go_wp2_with fail
  refine (HV.out (w2.setCell ⟨w.heap.size + 1 + 1, 2, none⟩ (.int .i64 (((yf : Nat) : Int) + 1))) (hj.go hbW)).mono ?_
  rintro e w9 ⟨rfl, hx9⟩
  have kc9 := (hx9.block (w.heap.size + 1 + 1) (by first | omega | (simp; try omega))).trans kcW
  have kr9 := (hx9.block (w.heap.size + 1) (by first | omega | (simp; try omega))).trans krW
  have hb9 : Below w.heap.size w w9 := hbW.trans (hx9.mono (by first | omega | (simp; try omega)))
  have qc9 := fun i => cell_of_row w9 (w.heap.size + 1 + 1) i _ _ _ kc9
  have zc9 := fun i => frozen_row (i := i) kc9
  have qr9 := fun i => cell_of_row w9 (w.heap.size + 1) i _ _ _ kr9
  have zr9 := fun i => frozen_row (i := i) kr9
  go_wp2
  exact bodyPost_ret (v := .agg #[.int .i64 1, .int .i64 ((ys : Nat) : Int), .int .i64 (((yf : Nat) : Int) + 1), .int .i64 x]) (by simp [results, Try.results52, go_sem, qr9]) rfl ⟨rfl, by repeat (first | with_reducible exact hb9 | refine Below.setCell ?_ (by simp; try omega) _)⟩

set_option maxRecDepth 100000 in
set_option maxHeartbeats 1000000 in
theorem pzOf_1j (S0 F0 y : Nat) (o : Int) (A : Option Addr) (c : Nat) (js : List (Int × Int)) (x : Int) (w : World) (hj : RJ w w.heap.size A js) (hS : 1 ≤ S0 ∧ S0 ≤ 10) (hF : 1 ≤ F0 ∧ F0 ≤ 8) (hy : y ≤ 10006) (ho : onSq (S0 : Int) js ((y % S0 : Nat) : Int) = false)
    (hV : ∀ w : World, RJ w w.heap.size A js → Calls Try.prog 87 #[.int .i64 4, .int .i64 (((y % S0 : Nat) : Int)), .int .i64 (0), .agg #[.int .i64 (S0 : Int), .int .i64 (F0 : Int), .int .i64 o, .slice A js.length c]] w fun e w' => e = .returned (.int .i64 x) ∧ Below w.heap.size w w') :
    Calls Try.prog 52 #[.int .i64 1, .int .i64 (y : Int), .agg #[.int .i64 (S0 : Int), .int .i64 (F0 : Int), .int .i64 o, .slice A js.length c]] w fun e w' => e = .returned (.agg #[.int .i64 4, .int .i64 (((y % S0 : Nat) : Int)), .int .i64 (0), .int .i64 x]) ∧ Below w.heap.size w w' := by
  have hl := hj.1
  have m1 : ((y : Int)).tmod (S0 : Int) = ((y % S0 : Nat) : Int) := Int.ofNat_tmod y S0
  have m2 : ((y : Int)).tmod (F0 : Int) = ((y % F0 : Nat) : Int) := Int.ofNat_tmod y F0
  have m3 : ((y : Int)).tmod 8 = ((y % 8 : Nat) : Int) := Int.ofNat_tmod y 8
  have z3 : ¬ (S0 : Int) = 0 := by omega
  have z4 : ¬ (F0 : Int) = 0 := by omega
  have b1 := Nat.mod_lt y (show 0 < S0 by omega)
  have b2 := Nat.mod_lt y (show 0 < F0 by omega)
  have b3 := Nat.mod_lt y (show 0 < 8 by omega)
  obtain ⟨ys, hys⟩ : ∃ ys, ys = y % S0 := ⟨_, rfl⟩
  obtain ⟨yf, hyf⟩ : ∃ yf, yf = y % F0 := ⟨_, rfl⟩
  obtain ⟨y8, hy8⟩ : ∃ y8, y8 = y % 8 := ⟨_, rfl⟩
  rw [← hys] at m1 b1
  rw [← hyf] at m2 b2
  rw [← hy8] at m3 b3
  rw [← hys] at ho
  have HO := Lib.hid ho
  clear ho
  rw [← hys] at hV ⊢
  have HV := Lib.hid hV
  clear hV hys hyf hy8
  go_enter Try.func52, Try.ntmps52
  go_wp2_with fail
  refine (sqSquare_any (S0 : Int) (F0 : Int) o A c _ js _ (hj.go (below3 w (.cells #[.int .i64 (S0 : Int), .int .i64 (F0 : Int), .int .i64 o, .slice A js.length c] 33) (.cells #[.int .i64 0, .int .i64 0, .int .i64 0, .int .i64 0] 44) (.cells #[.int .i64 1, .int .i64 ((ys : Nat) : Int), .int .i64 0, .int .i64 0] 44)))).mono ?_
  rintro e w2 ⟨rfl, hx2⟩
  rw [HO.out]
  have kc2 := (hx2.block (w.heap.size + 1 + 1) (by first | omega | (simp; try omega))).trans (heap_alloc_at _ (.cells #[.int .i64 1, .int .i64 ((ys : Nat) : Int), .int .i64 0, .int .i64 0] 44) _ (by simp))
  have kr2 := (hx2.block (w.heap.size + 1) (by simp; try omega)).trans ((Below.heap_alloc _ _ _ (by simp; try omega)).trans (heap_alloc_at _ (.cells #[.int .i64 0, .int .i64 0, .int .i64 0, .int .i64 0] 44) _ (by simp)))
  have kb2 := (hx2.block w.heap.size (by simp; try omega)).trans ((Below.heap_alloc _ _ _ (by simp; try omega)).trans ((Below.heap_alloc _ _ _ (by simp; try omega)).trans (heap_alloc_at w (.cells #[.int .i64 (S0 : Int), .int .i64 (F0 : Int), .int .i64 o, .slice A js.length c] 33) _ rfl)))
  have hb2 : Below w.heap.size w w2 := (below3 w (.cells #[.int .i64 (S0 : Int), .int .i64 (F0 : Int), .int .i64 o, .slice A js.length c] 33) (.cells #[.int .i64 0, .int .i64 0, .int .i64 0, .int .i64 0] 44) (.cells #[.int .i64 1, .int .i64 ((ys : Nat) : Int), .int .i64 0, .int .i64 0] 44)).trans (hx2.mono (by simp; try omega))
  have hs2 : w.heap.size + 1 + 1 < w2.heap.size := heap_lt kc2
  have qc2 := fun i => cell_of_row w2 (w.heap.size + 1 + 1) i _ _ _ kc2
  have zc2 := fun i => frozen_row (i := i) kc2
  have qb2 := fun i => cell_of_row w2 w.heap.size i _ _ _ kb2
  clear hx2
  have kcW := (heap_set w2 (w.heap.size + 1 + 1) 0 _ _ (.int .i64 4) kc2)
  have krW := ((Below.heap_setCell w2 ⟨w.heap.size + 1 + 1, 0, none⟩ (.int .i64 4) _ (by simp)).trans kr2)
  have hbW := (hb2.setCell (p := ⟨w.heap.size + 1 + 1, 0, none⟩) (by simp; try omega) (.int .i64 4))
  simp only [List.setIfInBounds_toArray, List.set_cons_zero, List.set_cons_succ] at kcW
  go_wp2_with fail
  refine (HV.out (w2.setCell ⟨w.heap.size + 1 + 1, 0, none⟩ (.int .i64 4)) (hj.go hbW)).mono ?_
  rintro e w9 ⟨rfl, hx9⟩
  have kc9 := (hx9.block (w.heap.size + 1 + 1) (by first | omega | (simp; try omega))).trans kcW
  have kr9 := (hx9.block (w.heap.size + 1) (by first | omega | (simp; try omega))).trans krW
  have hb9 : Below w.heap.size w w9 := hbW.trans (hx9.mono (by first | omega | (simp; try omega)))
  have qc9 := fun i => cell_of_row w9 (w.heap.size + 1 + 1) i _ _ _ kc9
  have zc9 := fun i => frozen_row (i := i) kc9
  have qr9 := fun i => cell_of_row w9 (w.heap.size + 1) i _ _ _ kr9
  have zr9 := fun i => frozen_row (i := i) kr9
  go_wp2
  exact bodyPost_ret (v := .agg #[.int .i64 4, .int .i64 ((ys : Nat) : Int), .int .i64 (0), .int .i64 x]) (by simp [results, Try.results52, go_sem, qr9]) rfl ⟨rfl, by repeat (first | with_reducible exact hb9 | refine Below.setCell ?_ (by simp; try omega) _)⟩

set_option maxRecDepth 100000 in
set_option maxHeartbeats 1000000 in
theorem pzOf_4 (S0 F0 y : Nat) (o : Int) (A : Option Addr) (c : Nat) (js : List (Int × Int)) (x : Int) (w : World) (hj : RJ w w.heap.size A js) (hS : 1 ≤ S0 ∧ S0 ≤ 10) (hF : 1 ≤ F0 ∧ F0 ≤ 8) (hy : y ≤ 10006) (ho : onSq (S0 : Int) js ((y % S0 : Nat) : Int) = true)
    (hV : ∀ w : World, RJ w w.heap.size A js → Calls Try.prog 87 #[.int .i64 4, .int .i64 (((y % S0 : Nat) : Int)), .int .i64 (0), .agg #[.int .i64 (S0 : Int), .int .i64 (F0 : Int), .int .i64 o, .slice A js.length c]] w fun e w' => e = .returned (.int .i64 x) ∧ Below w.heap.size w w') :
    Calls Try.prog 52 #[.int .i64 4, .int .i64 (y : Int), .agg #[.int .i64 (S0 : Int), .int .i64 (F0 : Int), .int .i64 o, .slice A js.length c]] w fun e w' => e = .returned (.agg #[.int .i64 4, .int .i64 (((y % S0 : Nat) : Int)), .int .i64 (0), .int .i64 x]) ∧ Below w.heap.size w w' := by
  have hl := hj.1
  have m1 : ((y : Int)).tmod (S0 : Int) = ((y % S0 : Nat) : Int) := Int.ofNat_tmod y S0
  have m2 : ((y : Int)).tmod (F0 : Int) = ((y % F0 : Nat) : Int) := Int.ofNat_tmod y F0
  have m3 : ((y : Int)).tmod 8 = ((y % 8 : Nat) : Int) := Int.ofNat_tmod y 8
  have z3 : ¬ (S0 : Int) = 0 := by omega
  have z4 : ¬ (F0 : Int) = 0 := by omega
  have b1 := Nat.mod_lt y (show 0 < S0 by omega)
  have b2 := Nat.mod_lt y (show 0 < F0 by omega)
  have b3 := Nat.mod_lt y (show 0 < 8 by omega)
  obtain ⟨ys, hys⟩ : ∃ ys, ys = y % S0 := ⟨_, rfl⟩
  obtain ⟨yf, hyf⟩ : ∃ yf, yf = y % F0 := ⟨_, rfl⟩
  obtain ⟨y8, hy8⟩ : ∃ y8, y8 = y % 8 := ⟨_, rfl⟩
  rw [← hys] at m1 b1
  rw [← hyf] at m2 b2
  rw [← hy8] at m3 b3
  rw [← hys] at ho
  have HO := Lib.hid ho
  clear ho
  rw [← hys] at hV ⊢
  have HV := Lib.hid hV
  clear hV hys hyf hy8
  go_enter Try.func52, Try.ntmps52
  go_wp2_with fail
  refine (sqSquare_any (S0 : Int) (F0 : Int) o A c _ js _ (hj.go (below3 w (.cells #[.int .i64 (S0 : Int), .int .i64 (F0 : Int), .int .i64 o, .slice A js.length c] 33) (.cells #[.int .i64 0, .int .i64 0, .int .i64 0, .int .i64 0] 44) (.cells #[.int .i64 4, .int .i64 ((ys : Nat) : Int), .int .i64 0, .int .i64 0] 44)))).mono ?_
  rintro e w2 ⟨rfl, hx2⟩
  rw [HO.out]
  have kc2 := (hx2.block (w.heap.size + 1 + 1) (by first | omega | (simp; try omega))).trans (heap_alloc_at _ (.cells #[.int .i64 4, .int .i64 ((ys : Nat) : Int), .int .i64 0, .int .i64 0] 44) _ (by simp))
  have kr2 := (hx2.block (w.heap.size + 1) (by simp; try omega)).trans ((Below.heap_alloc _ _ _ (by simp; try omega)).trans (heap_alloc_at _ (.cells #[.int .i64 0, .int .i64 0, .int .i64 0, .int .i64 0] 44) _ (by simp)))
  have kb2 := (hx2.block w.heap.size (by simp; try omega)).trans ((Below.heap_alloc _ _ _ (by simp; try omega)).trans ((Below.heap_alloc _ _ _ (by simp; try omega)).trans (heap_alloc_at w (.cells #[.int .i64 (S0 : Int), .int .i64 (F0 : Int), .int .i64 o, .slice A js.length c] 33) _ rfl)))
  have hb2 : Below w.heap.size w w2 := (below3 w (.cells #[.int .i64 (S0 : Int), .int .i64 (F0 : Int), .int .i64 o, .slice A js.length c] 33) (.cells #[.int .i64 0, .int .i64 0, .int .i64 0, .int .i64 0] 44) (.cells #[.int .i64 4, .int .i64 ((ys : Nat) : Int), .int .i64 0, .int .i64 0] 44)).trans (hx2.mono (by simp; try omega))
  have hs2 : w.heap.size + 1 + 1 < w2.heap.size := heap_lt kc2
  have qc2 := fun i => cell_of_row w2 (w.heap.size + 1 + 1) i _ _ _ kc2
  have zc2 := fun i => frozen_row (i := i) kc2
  have qb2 := fun i => cell_of_row w2 w.heap.size i _ _ _ kb2
  clear hx2
  have kcW := kc2
  have krW := kr2
  have hbW := hb2
  skip
  go_wp2_with fail
  refine (HV.out w2 (hj.go hbW)).mono ?_
  rintro e w9 ⟨rfl, hx9⟩
  have kc9 := (hx9.block (w.heap.size + 1 + 1) (by first | omega | (simp; try omega))).trans kcW
  have kr9 := (hx9.block (w.heap.size + 1) (by first | omega | (simp; try omega))).trans krW
  have hb9 : Below w.heap.size w w9 := hbW.trans (hx9.mono (by first | omega | (simp; try omega)))
  have qc9 := fun i => cell_of_row w9 (w.heap.size + 1 + 1) i _ _ _ kc9
  have zc9 := fun i => frozen_row (i := i) kc9
  have qr9 := fun i => cell_of_row w9 (w.heap.size + 1) i _ _ _ kr9
  have zr9 := fun i => frozen_row (i := i) kr9
  go_wp2
  exact bodyPost_ret (v := .agg #[.int .i64 4, .int .i64 ((ys : Nat) : Int), .int .i64 (0), .int .i64 x]) (by simp [results, Try.results52, go_sem, qr9]) rfl ⟨rfl, by repeat (first | with_reducible exact hb9 | refine Below.setCell ?_ (by simp; try omega) _)⟩

set_option maxRecDepth 100000 in
set_option maxHeartbeats 1000000 in
theorem pzOf_4j (S0 F0 y : Nat) (o : Int) (A : Option Addr) (c : Nat) (js : List (Int × Int)) (x : Int) (w : World) (hj : RJ w w.heap.size A js) (hS : 1 ≤ S0 ∧ S0 ≤ 10) (hF : 1 ≤ F0 ∧ F0 ≤ 8) (hy : y ≤ 10006) (ho : onSq (S0 : Int) js ((y % S0 : Nat) : Int) = false)
    (hV : ∀ w : World, RJ w w.heap.size A js → Calls Try.prog 87 #[.int .i64 4, .int .i64 (((y % S0 : Nat) : Int)), .int .i64 (0), .agg #[.int .i64 (S0 : Int), .int .i64 (F0 : Int), .int .i64 o, .slice A js.length c]] w fun e w' => e = .returned (.int .i64 x) ∧ Below w.heap.size w w') :
    Calls Try.prog 52 #[.int .i64 4, .int .i64 (y : Int), .agg #[.int .i64 (S0 : Int), .int .i64 (F0 : Int), .int .i64 o, .slice A js.length c]] w fun e w' => e = .returned (.agg #[.int .i64 4, .int .i64 (((y % S0 : Nat) : Int)), .int .i64 (0), .int .i64 x]) ∧ Below w.heap.size w w' := by
  have hl := hj.1
  have m1 : ((y : Int)).tmod (S0 : Int) = ((y % S0 : Nat) : Int) := Int.ofNat_tmod y S0
  have m2 : ((y : Int)).tmod (F0 : Int) = ((y % F0 : Nat) : Int) := Int.ofNat_tmod y F0
  have m3 : ((y : Int)).tmod 8 = ((y % 8 : Nat) : Int) := Int.ofNat_tmod y 8
  have z3 : ¬ (S0 : Int) = 0 := by omega
  have z4 : ¬ (F0 : Int) = 0 := by omega
  have b1 := Nat.mod_lt y (show 0 < S0 by omega)
  have b2 := Nat.mod_lt y (show 0 < F0 by omega)
  have b3 := Nat.mod_lt y (show 0 < 8 by omega)
  obtain ⟨ys, hys⟩ : ∃ ys, ys = y % S0 := ⟨_, rfl⟩
  obtain ⟨yf, hyf⟩ : ∃ yf, yf = y % F0 := ⟨_, rfl⟩
  obtain ⟨y8, hy8⟩ : ∃ y8, y8 = y % 8 := ⟨_, rfl⟩
  rw [← hys] at m1 b1
  rw [← hyf] at m2 b2
  rw [← hy8] at m3 b3
  rw [← hys] at ho
  have HO := Lib.hid ho
  clear ho
  rw [← hys] at hV ⊢
  have HV := Lib.hid hV
  clear hV hys hyf hy8
  go_enter Try.func52, Try.ntmps52
  go_wp2_with fail
  refine (sqSquare_any (S0 : Int) (F0 : Int) o A c _ js _ (hj.go (below3 w (.cells #[.int .i64 (S0 : Int), .int .i64 (F0 : Int), .int .i64 o, .slice A js.length c] 33) (.cells #[.int .i64 0, .int .i64 0, .int .i64 0, .int .i64 0] 44) (.cells #[.int .i64 4, .int .i64 ((ys : Nat) : Int), .int .i64 0, .int .i64 0] 44)))).mono ?_
  rintro e w2 ⟨rfl, hx2⟩
  rw [HO.out]
  have kc2 := (hx2.block (w.heap.size + 1 + 1) (by first | omega | (simp; try omega))).trans (heap_alloc_at _ (.cells #[.int .i64 4, .int .i64 ((ys : Nat) : Int), .int .i64 0, .int .i64 0] 44) _ (by simp))
  have kr2 := (hx2.block (w.heap.size + 1) (by simp; try omega)).trans ((Below.heap_alloc _ _ _ (by simp; try omega)).trans (heap_alloc_at _ (.cells #[.int .i64 0, .int .i64 0, .int .i64 0, .int .i64 0] 44) _ (by simp)))
  have kb2 := (hx2.block w.heap.size (by simp; try omega)).trans ((Below.heap_alloc _ _ _ (by simp; try omega)).trans ((Below.heap_alloc _ _ _ (by simp; try omega)).trans (heap_alloc_at w (.cells #[.int .i64 (S0 : Int), .int .i64 (F0 : Int), .int .i64 o, .slice A js.length c] 33) _ rfl)))
  have hb2 : Below w.heap.size w w2 := (below3 w (.cells #[.int .i64 (S0 : Int), .int .i64 (F0 : Int), .int .i64 o, .slice A js.length c] 33) (.cells #[.int .i64 0, .int .i64 0, .int .i64 0, .int .i64 0] 44) (.cells #[.int .i64 4, .int .i64 ((ys : Nat) : Int), .int .i64 0, .int .i64 0] 44)).trans (hx2.mono (by simp; try omega))
  have hs2 : w.heap.size + 1 + 1 < w2.heap.size := heap_lt kc2
  have qc2 := fun i => cell_of_row w2 (w.heap.size + 1 + 1) i _ _ _ kc2
  have zc2 := fun i => frozen_row (i := i) kc2
  have qb2 := fun i => cell_of_row w2 w.heap.size i _ _ _ kb2
  clear hx2
  have kcW := (heap_set w2 (w.heap.size + 1 + 1) 0 _ _ (.int .i64 4) kc2)
  have krW := ((Below.heap_setCell w2 ⟨w.heap.size + 1 + 1, 0, none⟩ (.int .i64 4) _ (by simp)).trans kr2)
  have hbW := (hb2.setCell (p := ⟨w.heap.size + 1 + 1, 0, none⟩) (by simp; try omega) (.int .i64 4))
  simp only [List.setIfInBounds_toArray, List.set_cons_zero, List.set_cons_succ] at kcW
  go_wp2_with fail
  refine (HV.out (w2.setCell ⟨w.heap.size + 1 + 1, 0, none⟩ (.int .i64 4)) (hj.go hbW)).mono ?_
  rintro e w9 ⟨rfl, hx9⟩
  have kc9 := (hx9.block (w.heap.size + 1 + 1) (by first | omega | (simp; try omega))).trans kcW
  have kr9 := (hx9.block (w.heap.size + 1) (by first | omega | (simp; try omega))).trans krW
  have hb9 : Below w.heap.size w w9 := hbW.trans (hx9.mono (by first | omega | (simp; try omega)))
  have qc9 := fun i => cell_of_row w9 (w.heap.size + 1 + 1) i _ _ _ kc9
  have zc9 := fun i => frozen_row (i := i) kc9
  have qr9 := fun i => cell_of_row w9 (w.heap.size + 1) i _ _ _ kr9
  have zr9 := fun i => frozen_row (i := i) kr9
  go_wp2
  exact bodyPost_ret (v := .agg #[.int .i64 4, .int .i64 ((ys : Nat) : Int), .int .i64 (0), .int .i64 x]) (by simp [results, Try.results52, go_sem, qr9]) rfl ⟨rfl, by repeat (first | with_reducible exact hb9 | refine Below.setCell ?_ (by simp; try omega) _)⟩

set_option maxRecDepth 100000 in
set_option maxHeartbeats 1000000 in
theorem madeClue_plain (S0 F0 y : Nat) (o : Int) (A : Option Addr) (c : Nat) (js : List (Int × Int)) (x : Int) (t : Bool) (k : Int) (w : World) (hj : RJ w w.heap.size A js) (hS : 1 ≤ S0 ∧ S0 ≤ 10) (hF : 1 ≤ F0 ∧ F0 ≤ 8) (hy : y ≤ 10006) (k1 : ¬ k = 1) (k4 : ¬ k = 4) (k5 : ¬ k = 5)
    (hV : ∀ w : World, RJ w w.heap.size A js → Calls Try.prog 91 #[.agg #[.int .i64 (S0 : Int), .int .i64 (F0 : Int), .int .i64 o, .slice A js.length c], .agg #[.int .i64 k, .int .i64 (0), .int .i64 (0), .int .i64 0]] w fun e w' => e = .returned (.tuple #[.int .i64 x, .bool t]) ∧ Below w.heap.size w w') :
    Calls Try.prog 57 #[.agg #[.int .i64 (S0 : Int), .int .i64 (F0 : Int), .int .i64 o, .slice A js.length c], .int .i64 k, .int .i64 (y : Int)] w fun e w' => e = .returned (.agg #[.int .i64 k, .int .i64 (0), .int .i64 (0), .int .i64 x]) ∧ Below w.heap.size w w' := by
  have hl := hj.1
  have m1 : ((y : Int)).tmod (S0 : Int) = ((y % S0 : Nat) : Int) := Int.ofNat_tmod y S0
  have m2 : ((y : Int)).tmod (F0 : Int) = ((y % F0 : Nat) : Int) := Int.ofNat_tmod y F0
  have m3 : ((y : Int)).tmod 8 = ((y % 8 : Nat) : Int) := Int.ofNat_tmod y 8
  have z3 : ¬ (S0 : Int) = 0 := by omega
  have z4 : ¬ (F0 : Int) = 0 := by omega
  have b1 := Nat.mod_lt y (show 0 < S0 by omega)
  have b2 := Nat.mod_lt y (show 0 < F0 by omega)
  have b3 := Nat.mod_lt y (show 0 < 8 by omega)
  obtain ⟨ys, hys⟩ : ∃ ys, ys = y % S0 := ⟨_, rfl⟩
  obtain ⟨yf, hyf⟩ : ∃ yf, yf = y % F0 := ⟨_, rfl⟩
  obtain ⟨y8, hy8⟩ : ∃ y8, y8 = y % 8 := ⟨_, rfl⟩
  rw [← hys] at m1 b1
  rw [← hyf] at m2 b2
  rw [← hy8] at m3 b3
  have HV := Lib.hid hV
  clear hV hys hyf hy8
  have i1 : IntKind.i64.wrap (((yf : Nat) : Int) + 1) = ((yf : Nat) : Int) + 1 := IntWalk.i64_in _ (by omega)
  have e1 : (k == 1) = false := beq_eq_false_iff_ne.2 k1
  have e4 : (k == 4) = false := beq_eq_false_iff_ne.2 k4
  have e5 : (k == 5) = false := beq_eq_false_iff_ne.2 k5
  go_enter Try.func57, Try.ntmps57
  go_wp2
  go_quiet (fail)
  obtain ⟨V0, hV0⟩ : ∃ V0, V0 = ((w.alloc (.cells #[.int .i64 (S0 : Int), .int .i64 (F0 : Int), .int .i64 o, .slice A js.length c] 33)).alloc (.cells #[.int .i64 0, .int .i64 0, .int .i64 0, .int .i64 0] 44)).drewN nq := ⟨_, rfl⟩
  rw [← hV0]
  have kb0 : V0.heap[w.heap.size]? = some (.cells #[.int .i64 (S0 : Int), .int .i64 (F0 : Int), .int .i64 o, .slice A js.length c] 33 (0, 0)) := by rw [hV0]; exact (Below.heap_alloc (w.alloc (.cells #[.int .i64 (S0 : Int), .int .i64 (F0 : Int), .int .i64 o, .slice A js.length c] 33)) (.cells #[.int .i64 0, .int .i64 0, .int .i64 0, .int .i64 0] 44) _ (by simp)).trans (heap_alloc_at w (.cells #[.int .i64 (S0 : Int), .int .i64 (F0 : Int), .int .i64 o, .slice A js.length c] 33) _ rfl)
  have kr0 : V0.heap[w.heap.size + 1]? = some (.cells #[.int .i64 0, .int .i64 0, .int .i64 0, .int .i64 0] 44 (0, 0)) := by rw [hV0]; exact heap_alloc_at (w.alloc (.cells #[.int .i64 (S0 : Int), .int .i64 (F0 : Int), .int .i64 o, .slice A js.length c] 33)) (.cells #[.int .i64 0, .int .i64 0, .int .i64 0, .int .i64 0] 44) _ (by simp)
  have hb0 : Below w.heap.size w V0 := by rw [hV0]; exact drewB (below2 w _ _) _
  have hs0 : w.heap.size + 1 < V0.heap.size := heap_lt kr0
  have hs00 : w.heap.size < V0.heap.size := heap_lt kb0
  have qb0 := fun i => cell_of_row V0 w.heap.size i _ _ _ kb0
  clear hV0
  go_wp2_with fail
  refine (HV.out _ (hj.go (hb0.alloc hb0.size (.cells #[.int .i64 k, .int .i64 0, .int .i64 0, .int .i64 0] 44)))).mono ?_
  rintro e w9 ⟨rfl, hx9⟩
  have kc9 := (hx9.block V0.heap.size (by simp)).trans (heap_alloc_at V0 (.cells #[.int .i64 k, .int .i64 0, .int .i64 0, .int .i64 0] 44) _ rfl)
  have kr9 := (hx9.block (w.heap.size + 1) (by simp; try omega)).trans ((Below.heap_alloc V0 (.cells #[.int .i64 k, .int .i64 0, .int .i64 0, .int .i64 0] 44) _ (by omega)).trans kr0)
  have hb9 : Below w.heap.size w w9 := (hb0.alloc hb0.size (.cells #[.int .i64 k, .int .i64 0, .int .i64 0, .int .i64 0] 44)).trans (hx9.mono (by simp; try omega))
  have hn9 : w.heap.size + 1 < w9.heap.size := heap_lt kr9
  have qc9 := fun i => cell_of_row w9 V0.heap.size i _ _ _ kc9
  have zc9 := fun i => frozen_row (i := i) kc9
  have qr9 := fun i => cell_of_row w9 (w.heap.size + 1) i _ _ _ kr9
  have zr9 := fun i => frozen_row (i := i) kr9
  go_wp2
  exact bodyPost_ret (v := .agg #[.int .i64 k, .int .i64 0, .int .i64 0, .int .i64 x]) (by simp [results, Try.results57, go_sem, qr9]) rfl ⟨rfl, by repeat (first | with_reducible exact hb9 | refine Below.setCell ?_ (by simp; try omega) _)⟩

set_option maxRecDepth 100000 in
set_option maxHeartbeats 1000000 in
theorem madeClue_5 (S0 F0 y : Nat) (o : Int) (A : Option Addr) (c : Nat) (js : List (Int × Int)) (x : Int) (t : Bool) (w : World) (hj : RJ w w.heap.size A js) (hS : 1 ≤ S0 ∧ S0 ≤ 10) (hF : 1 ≤ F0 ∧ F0 ≤ 8) (hy : y ≤ 10006) 
    (hV : ∀ w : World, RJ w w.heap.size A js → Calls Try.prog 91 #[.agg #[.int .i64 (S0 : Int), .int .i64 (F0 : Int), .int .i64 o, .slice A js.length c], .agg #[.int .i64 5, .int .i64 (((y % 8 : Nat) : Int)), .int .i64 (((y % F0 : Nat) : Int) + 1), .int .i64 0]] w fun e w' => e = .returned (.tuple #[.int .i64 x, .bool t]) ∧ Below w.heap.size w w') :
    Calls Try.prog 57 #[.agg #[.int .i64 (S0 : Int), .int .i64 (F0 : Int), .int .i64 o, .slice A js.length c], .int .i64 5, .int .i64 (y : Int)] w fun e w' => e = .returned (.agg #[.int .i64 5, .int .i64 (((y % 8 : Nat) : Int)), .int .i64 (((y % F0 : Nat) : Int) + 1), .int .i64 x]) ∧ Below w.heap.size w w' := by
  have hl := hj.1
  have m1 : ((y : Int)).tmod (S0 : Int) = ((y % S0 : Nat) : Int) := Int.ofNat_tmod y S0
  have m2 : ((y : Int)).tmod (F0 : Int) = ((y % F0 : Nat) : Int) := Int.ofNat_tmod y F0
  have m3 : ((y : Int)).tmod 8 = ((y % 8 : Nat) : Int) := Int.ofNat_tmod y 8
  have z3 : ¬ (S0 : Int) = 0 := by omega
  have z4 : ¬ (F0 : Int) = 0 := by omega
  have b1 := Nat.mod_lt y (show 0 < S0 by omega)
  have b2 := Nat.mod_lt y (show 0 < F0 by omega)
  have b3 := Nat.mod_lt y (show 0 < 8 by omega)
  obtain ⟨ys, hys⟩ : ∃ ys, ys = y % S0 := ⟨_, rfl⟩
  obtain ⟨yf, hyf⟩ : ∃ yf, yf = y % F0 := ⟨_, rfl⟩
  obtain ⟨y8, hy8⟩ : ∃ y8, y8 = y % 8 := ⟨_, rfl⟩
  rw [← hys] at m1 b1
  rw [← hyf] at m2 b2
  rw [← hy8] at m3 b3
  rw [← hyf] at hV ⊢
  rw [← hy8] at hV ⊢
  have HV := Lib.hid hV
  clear hV hys hyf hy8
  have i1 : IntKind.i64.wrap (((yf : Nat) : Int) + 1) = ((yf : Nat) : Int) + 1 := IntWalk.i64_in _ (by omega)
  go_enter Try.func57, Try.ntmps57
  go_wp2
  go_quiet (fail)
  obtain ⟨V0, hV0⟩ : ∃ V0, V0 = ((w.alloc (.cells #[.int .i64 (S0 : Int), .int .i64 (F0 : Int), .int .i64 o, .slice A js.length c] 33)).alloc (.cells #[.int .i64 0, .int .i64 0, .int .i64 0, .int .i64 0] 44)).drewN nq := ⟨_, rfl⟩
  rw [← hV0]
  have kb0 : V0.heap[w.heap.size]? = some (.cells #[.int .i64 (S0 : Int), .int .i64 (F0 : Int), .int .i64 o, .slice A js.length c] 33 (0, 0)) := by rw [hV0]; exact (Below.heap_alloc (w.alloc (.cells #[.int .i64 (S0 : Int), .int .i64 (F0 : Int), .int .i64 o, .slice A js.length c] 33)) (.cells #[.int .i64 0, .int .i64 0, .int .i64 0, .int .i64 0] 44) _ (by simp)).trans (heap_alloc_at w (.cells #[.int .i64 (S0 : Int), .int .i64 (F0 : Int), .int .i64 o, .slice A js.length c] 33) _ rfl)
  have kr0 : V0.heap[w.heap.size + 1]? = some (.cells #[.int .i64 0, .int .i64 0, .int .i64 0, .int .i64 0] 44 (0, 0)) := by rw [hV0]; exact heap_alloc_at (w.alloc (.cells #[.int .i64 (S0 : Int), .int .i64 (F0 : Int), .int .i64 o, .slice A js.length c] 33)) (.cells #[.int .i64 0, .int .i64 0, .int .i64 0, .int .i64 0] 44) _ (by simp)
  have hb0 : Below w.heap.size w V0 := by rw [hV0]; exact drewB (below2 w _ _) _
  have hs0 : w.heap.size + 1 < V0.heap.size := heap_lt kr0
  have hs00 : w.heap.size < V0.heap.size := heap_lt kb0
  have qb0 := fun i => cell_of_row V0 w.heap.size i _ _ _ kb0
  clear hV0
  go_wp2_with fail
  refine (HV.out _ (hj.go (hb0.alloc hb0.size (.cells #[.int .i64 5, .int .i64 ((y8 : Nat) : Int), .int .i64 (((yf : Nat) : Int) + 1), .int .i64 0] 44)))).mono ?_
  rintro e w9 ⟨rfl, hx9⟩
  have kc9 := (hx9.block V0.heap.size (by simp)).trans (heap_alloc_at V0 (.cells #[.int .i64 5, .int .i64 ((y8 : Nat) : Int), .int .i64 (((yf : Nat) : Int) + 1), .int .i64 0] 44) _ rfl)
  have kr9 := (hx9.block (w.heap.size + 1) (by simp; try omega)).trans ((Below.heap_alloc V0 (.cells #[.int .i64 5, .int .i64 ((y8 : Nat) : Int), .int .i64 (((yf : Nat) : Int) + 1), .int .i64 0] 44) _ (by omega)).trans kr0)
  have hb9 : Below w.heap.size w w9 := (hb0.alloc hb0.size (.cells #[.int .i64 5, .int .i64 ((y8 : Nat) : Int), .int .i64 (((yf : Nat) : Int) + 1), .int .i64 0] 44)).trans (hx9.mono (by simp; try omega))
  have hn9 : w.heap.size + 1 < w9.heap.size := heap_lt kr9
  have qc9 := fun i => cell_of_row w9 V0.heap.size i _ _ _ kc9
  have zc9 := fun i => frozen_row (i := i) kc9
  have qr9 := fun i => cell_of_row w9 (w.heap.size + 1) i _ _ _ kr9
  have zr9 := fun i => frozen_row (i := i) kr9
  go_wp2
  exact bodyPost_ret (v := .agg #[.int .i64 5, .int .i64 ((y8 : Nat) : Int), .int .i64 (((yf : Nat) : Int) + 1), .int .i64 x]) (by simp [results, Try.results57, go_sem, qr9]) rfl ⟨rfl, by repeat (first | with_reducible exact hb9 | refine Below.setCell ?_ (by simp; try omega) _)⟩

set_option maxRecDepth 100000 in
set_option maxHeartbeats 1000000 in
theorem madeClue_4 (S0 F0 y : Nat) (o : Int) (A : Option Addr) (c : Nat) (js : List (Int × Int)) (x : Int) (t : Bool) (w : World) (hj : RJ w w.heap.size A js) (hS : 1 ≤ S0 ∧ S0 ≤ 10) (hF : 1 ≤ F0 ∧ F0 ≤ 8) (hy : y ≤ 10006) 
    (hV : ∀ w : World, RJ w w.heap.size A js → Calls Try.prog 91 #[.agg #[.int .i64 (S0 : Int), .int .i64 (F0 : Int), .int .i64 o, .slice A js.length c], .agg #[.int .i64 4, .int .i64 (((y % S0 : Nat) : Int)), .int .i64 (0), .int .i64 0]] w fun e w' => e = .returned (.tuple #[.int .i64 x, .bool t]) ∧ Below w.heap.size w w') :
    Calls Try.prog 57 #[.agg #[.int .i64 (S0 : Int), .int .i64 (F0 : Int), .int .i64 o, .slice A js.length c], .int .i64 4, .int .i64 (y : Int)] w fun e w' => e = .returned (.agg #[.int .i64 4, .int .i64 (((y % S0 : Nat) : Int)), .int .i64 (0), .int .i64 x]) ∧ Below w.heap.size w w' := by
  have hl := hj.1
  have m1 : ((y : Int)).tmod (S0 : Int) = ((y % S0 : Nat) : Int) := Int.ofNat_tmod y S0
  have m2 : ((y : Int)).tmod (F0 : Int) = ((y % F0 : Nat) : Int) := Int.ofNat_tmod y F0
  have m3 : ((y : Int)).tmod 8 = ((y % 8 : Nat) : Int) := Int.ofNat_tmod y 8
  have z3 : ¬ (S0 : Int) = 0 := by omega
  have z4 : ¬ (F0 : Int) = 0 := by omega
  have b1 := Nat.mod_lt y (show 0 < S0 by omega)
  have b2 := Nat.mod_lt y (show 0 < F0 by omega)
  have b3 := Nat.mod_lt y (show 0 < 8 by omega)
  obtain ⟨ys, hys⟩ : ∃ ys, ys = y % S0 := ⟨_, rfl⟩
  obtain ⟨yf, hyf⟩ : ∃ yf, yf = y % F0 := ⟨_, rfl⟩
  obtain ⟨y8, hy8⟩ : ∃ y8, y8 = y % 8 := ⟨_, rfl⟩
  rw [← hys] at m1 b1
  rw [← hyf] at m2 b2
  rw [← hy8] at m3 b3
  rw [← hys] at hV ⊢
  have HV := Lib.hid hV
  clear hV hys hyf hy8
  have i1 : IntKind.i64.wrap (((yf : Nat) : Int) + 1) = ((yf : Nat) : Int) + 1 := IntWalk.i64_in _ (by omega)
  go_enter Try.func57, Try.ntmps57
  go_wp2
  go_quiet (fail)
  obtain ⟨V0, hV0⟩ : ∃ V0, V0 = ((w.alloc (.cells #[.int .i64 (S0 : Int), .int .i64 (F0 : Int), .int .i64 o, .slice A js.length c] 33)).alloc (.cells #[.int .i64 0, .int .i64 0, .int .i64 0, .int .i64 0] 44)).drewN nq := ⟨_, rfl⟩
  rw [← hV0]
  have kb0 : V0.heap[w.heap.size]? = some (.cells #[.int .i64 (S0 : Int), .int .i64 (F0 : Int), .int .i64 o, .slice A js.length c] 33 (0, 0)) := by rw [hV0]; exact (Below.heap_alloc (w.alloc (.cells #[.int .i64 (S0 : Int), .int .i64 (F0 : Int), .int .i64 o, .slice A js.length c] 33)) (.cells #[.int .i64 0, .int .i64 0, .int .i64 0, .int .i64 0] 44) _ (by simp)).trans (heap_alloc_at w (.cells #[.int .i64 (S0 : Int), .int .i64 (F0 : Int), .int .i64 o, .slice A js.length c] 33) _ rfl)
  have kr0 : V0.heap[w.heap.size + 1]? = some (.cells #[.int .i64 0, .int .i64 0, .int .i64 0, .int .i64 0] 44 (0, 0)) := by rw [hV0]; exact heap_alloc_at (w.alloc (.cells #[.int .i64 (S0 : Int), .int .i64 (F0 : Int), .int .i64 o, .slice A js.length c] 33)) (.cells #[.int .i64 0, .int .i64 0, .int .i64 0, .int .i64 0] 44) _ (by simp)
  have hb0 : Below w.heap.size w V0 := by rw [hV0]; exact drewB (below2 w _ _) _
  have hs0 : w.heap.size + 1 < V0.heap.size := heap_lt kr0
  have hs00 : w.heap.size < V0.heap.size := heap_lt kb0
  have qb0 := fun i => cell_of_row V0 w.heap.size i _ _ _ kb0
  clear hV0
  go_wp2_with fail
  refine (HV.out _ (hj.go (hb0.alloc hb0.size (.cells #[.int .i64 4, .int .i64 ((ys : Nat) : Int), .int .i64 0, .int .i64 0] 44)))).mono ?_
  rintro e w9 ⟨rfl, hx9⟩
  have kc9 := (hx9.block V0.heap.size (by simp)).trans (heap_alloc_at V0 (.cells #[.int .i64 4, .int .i64 ((ys : Nat) : Int), .int .i64 0, .int .i64 0] 44) _ rfl)
  have kr9 := (hx9.block (w.heap.size + 1) (by simp; try omega)).trans ((Below.heap_alloc V0 (.cells #[.int .i64 4, .int .i64 ((ys : Nat) : Int), .int .i64 0, .int .i64 0] 44) _ (by omega)).trans kr0)
  have hb9 : Below w.heap.size w w9 := (hb0.alloc hb0.size (.cells #[.int .i64 4, .int .i64 ((ys : Nat) : Int), .int .i64 0, .int .i64 0] 44)).trans (hx9.mono (by simp; try omega))
  have hn9 : w.heap.size + 1 < w9.heap.size := heap_lt kr9
  have qc9 := fun i => cell_of_row w9 V0.heap.size i _ _ _ kc9
  have zc9 := fun i => frozen_row (i := i) kc9
  have qr9 := fun i => cell_of_row w9 (w.heap.size + 1) i _ _ _ kr9
  have zr9 := fun i => frozen_row (i := i) kr9
  go_wp2
  exact bodyPost_ret (v := .agg #[.int .i64 4, .int .i64 ((ys : Nat) : Int), .int .i64 0, .int .i64 x]) (by simp [results, Try.results57, go_sem, qr9]) rfl ⟨rfl, by repeat (first | with_reducible exact hb9 | refine Below.setCell ?_ (by simp; try omega) _)⟩

set_option maxRecDepth 100000 in
set_option maxHeartbeats 1000000 in
theorem madeClue_1 (S0 F0 y : Nat) (o : Int) (A : Option Addr) (c : Nat) (js : List (Int × Int)) (x : Int) (t : Bool) (w : World) (hj : RJ w w.heap.size A js) (hS : 1 ≤ S0 ∧ S0 ≤ 10) (hF : 1 ≤ F0 ∧ F0 ≤ 8) (hy : y ≤ 10006) (hp : ¬ (0 : Int) < jcnt js ((y % S0 : Nat) : Int))
    (hV : ∀ w : World, RJ w w.heap.size A js → Calls Try.prog 91 #[.agg #[.int .i64 (S0 : Int), .int .i64 (F0 : Int), .int .i64 o, .slice A js.length c], .agg #[.int .i64 1, .int .i64 (((y % S0 : Nat) : Int)), .int .i64 (((y % F0 : Nat) : Int) + 1), .int .i64 0]] w fun e w' => e = .returned (.tuple #[.int .i64 x, .bool t]) ∧ Below w.heap.size w w') :
    Calls Try.prog 57 #[.agg #[.int .i64 (S0 : Int), .int .i64 (F0 : Int), .int .i64 o, .slice A js.length c], .int .i64 1, .int .i64 (y : Int)] w fun e w' => e = .returned (.agg #[.int .i64 1, .int .i64 (((y % S0 : Nat) : Int)), .int .i64 (((y % F0 : Nat) : Int) + 1), .int .i64 x]) ∧ Below w.heap.size w w' := by
  have hl := hj.1
  have m1 : ((y : Int)).tmod (S0 : Int) = ((y % S0 : Nat) : Int) := Int.ofNat_tmod y S0
  have m2 : ((y : Int)).tmod (F0 : Int) = ((y % F0 : Nat) : Int) := Int.ofNat_tmod y F0
  have m3 : ((y : Int)).tmod 8 = ((y % 8 : Nat) : Int) := Int.ofNat_tmod y 8
  have z3 : ¬ (S0 : Int) = 0 := by omega
  have z4 : ¬ (F0 : Int) = 0 := by omega
  have b1 := Nat.mod_lt y (show 0 < S0 by omega)
  have b2 := Nat.mod_lt y (show 0 < F0 by omega)
  have b3 := Nat.mod_lt y (show 0 < 8 by omega)
  obtain ⟨ys, hys⟩ : ∃ ys, ys = y % S0 := ⟨_, rfl⟩
  obtain ⟨yf, hyf⟩ : ∃ yf, yf = y % F0 := ⟨_, rfl⟩
  obtain ⟨y8, hy8⟩ : ∃ y8, y8 = y % 8 := ⟨_, rfl⟩
  rw [← hys] at m1 b1
  rw [← hyf] at m2 b2
  rw [← hy8] at m3 b3
  rw [← hys] at hp
  rw [← hys] at hV ⊢
  rw [← hyf] at hV ⊢
  have HV := Lib.hid hV
  clear hV hys hyf hy8
  have i1 : IntKind.i64.wrap (((yf : Nat) : Int) + 1) = ((yf : Nat) : Int) + 1 := IntWalk.i64_in _ (by omega)
  go_enter Try.func57, Try.ntmps57
  go_wp2
  go_quiet (fail)
  obtain ⟨V0, hV0⟩ : ∃ V0, V0 = ((w.alloc (.cells #[.int .i64 (S0 : Int), .int .i64 (F0 : Int), .int .i64 o, .slice A js.length c] 33)).alloc (.cells #[.int .i64 0, .int .i64 0, .int .i64 0, .int .i64 0] 44)).drewN nq := ⟨_, rfl⟩
  rw [← hV0]
  have kb0 : V0.heap[w.heap.size]? = some (.cells #[.int .i64 (S0 : Int), .int .i64 (F0 : Int), .int .i64 o, .slice A js.length c] 33 (0, 0)) := by rw [hV0]; exact (Below.heap_alloc (w.alloc (.cells #[.int .i64 (S0 : Int), .int .i64 (F0 : Int), .int .i64 o, .slice A js.length c] 33)) (.cells #[.int .i64 0, .int .i64 0, .int .i64 0, .int .i64 0] 44) _ (by simp)).trans (heap_alloc_at w (.cells #[.int .i64 (S0 : Int), .int .i64 (F0 : Int), .int .i64 o, .slice A js.length c] 33) _ rfl)
  have kr0 : V0.heap[w.heap.size + 1]? = some (.cells #[.int .i64 0, .int .i64 0, .int .i64 0, .int .i64 0] 44 (0, 0)) := by rw [hV0]; exact heap_alloc_at (w.alloc (.cells #[.int .i64 (S0 : Int), .int .i64 (F0 : Int), .int .i64 o, .slice A js.length c] 33)) (.cells #[.int .i64 0, .int .i64 0, .int .i64 0, .int .i64 0] 44) _ (by simp)
  have hb0 : Below w.heap.size w V0 := by rw [hV0]; exact drewB (below2 w _ _) _
  have hs0 : w.heap.size + 1 < V0.heap.size := heap_lt kr0
  have hs00 : w.heap.size < V0.heap.size := heap_lt kb0
  have qb0 := fun i => cell_of_row V0 w.heap.size i _ _ _ kb0
  clear hV0
  go_wp2_with fail
  refine (jumpsFrom_any (S0 : Int) (F0 : Int) o A c js _ V0 (hj.go hb0)).mono ?_
  rintro e w2 ⟨rfl, hx2⟩
  have kb2 := (hx2.block _ (heap_lt kb0)).trans kb0
  have kr2 := (hx2.block _ (heap_lt kr0)).trans kr0
  have hb2 := hb0.trans (hx2.mono hb0.size)
  have hs2 : w.heap.size + 1 < w2.heap.size := heap_lt kr2
  have hs22 : w.heap.size < w2.heap.size := heap_lt kb2
  have qb2 := fun i => cell_of_row w2 w.heap.size i _ _ _ kb2
  clear qb0 hx2
  go_wp2_with fail
  refine (HV.out _ (hj.go (hb2.alloc hb2.size (.cells #[.int .i64 1, .int .i64 ((ys : Nat) : Int), .int .i64 (((yf : Nat) : Int) + 1), .int .i64 0] 44)))).mono ?_
  rintro e w9 ⟨rfl, hx9⟩
  have kc9 := (hx9.block w2.heap.size (by simp)).trans (heap_alloc_at w2 (.cells #[.int .i64 1, .int .i64 ((ys : Nat) : Int), .int .i64 (((yf : Nat) : Int) + 1), .int .i64 0] 44) _ rfl)
  have kr9 := (hx9.block (w.heap.size + 1) (by simp; try omega)).trans ((Below.heap_alloc w2 (.cells #[.int .i64 1, .int .i64 ((ys : Nat) : Int), .int .i64 (((yf : Nat) : Int) + 1), .int .i64 0] 44) _ (by omega)).trans kr2)
  have hb9 : Below w.heap.size w w9 := (hb2.alloc hb2.size (.cells #[.int .i64 1, .int .i64 ((ys : Nat) : Int), .int .i64 (((yf : Nat) : Int) + 1), .int .i64 0] 44)).trans (hx9.mono (by simp; try omega))
  have hn9 : w.heap.size + 1 < w9.heap.size := heap_lt kr9
  have qc9 := fun i => cell_of_row w9 w2.heap.size i _ _ _ kc9
  have zc9 := fun i => frozen_row (i := i) kc9
  have qr9 := fun i => cell_of_row w9 (w.heap.size + 1) i _ _ _ kr9
  have zr9 := fun i => frozen_row (i := i) kr9
  go_wp2
  exact bodyPost_ret (v := .agg #[.int .i64 1, .int .i64 ((ys : Nat) : Int), .int .i64 (((yf : Nat) : Int) + 1), .int .i64 x]) (by simp [results, Try.results57, go_sem, qr9]) rfl ⟨rfl, by repeat (first | with_reducible exact hb9 | refine Below.setCell ?_ (by simp; try omega) _)⟩

set_option maxRecDepth 100000 in
set_option maxHeartbeats 1000000 in
theorem madeClue_1j (S0 F0 y : Nat) (o : Int) (A : Option Addr) (c : Nat) (js : List (Int × Int)) (x : Int) (t : Bool) (w : World) (hj : RJ w w.heap.size A js) (hS : 1 ≤ S0 ∧ S0 ≤ 10) (hF : 1 ≤ F0 ∧ F0 ≤ 8) (hy : y ≤ 10006) (hp : (0 : Int) < jcnt js ((y % S0 : Nat) : Int))
    (hV : ∀ w : World, RJ w w.heap.size A js → Calls Try.prog 91 #[.agg #[.int .i64 (S0 : Int), .int .i64 (F0 : Int), .int .i64 o, .slice A js.length c], .agg #[.int .i64 4, .int .i64 (((y % S0 : Nat) : Int)), .int .i64 (0), .int .i64 0]] w fun e w' => e = .returned (.tuple #[.int .i64 x, .bool t]) ∧ Below w.heap.size w w') :
    Calls Try.prog 57 #[.agg #[.int .i64 (S0 : Int), .int .i64 (F0 : Int), .int .i64 o, .slice A js.length c], .int .i64 1, .int .i64 (y : Int)] w fun e w' => e = .returned (.agg #[.int .i64 4, .int .i64 (((y % S0 : Nat) : Int)), .int .i64 (0), .int .i64 x]) ∧ Below w.heap.size w w' := by
  have hl := hj.1
  have m1 : ((y : Int)).tmod (S0 : Int) = ((y % S0 : Nat) : Int) := Int.ofNat_tmod y S0
  have m2 : ((y : Int)).tmod (F0 : Int) = ((y % F0 : Nat) : Int) := Int.ofNat_tmod y F0
  have m3 : ((y : Int)).tmod 8 = ((y % 8 : Nat) : Int) := Int.ofNat_tmod y 8
  have z3 : ¬ (S0 : Int) = 0 := by omega
  have z4 : ¬ (F0 : Int) = 0 := by omega
  have b1 := Nat.mod_lt y (show 0 < S0 by omega)
  have b2 := Nat.mod_lt y (show 0 < F0 by omega)
  have b3 := Nat.mod_lt y (show 0 < 8 by omega)
  obtain ⟨ys, hys⟩ : ∃ ys, ys = y % S0 := ⟨_, rfl⟩
  obtain ⟨yf, hyf⟩ : ∃ yf, yf = y % F0 := ⟨_, rfl⟩
  obtain ⟨y8, hy8⟩ : ∃ y8, y8 = y % 8 := ⟨_, rfl⟩
  rw [← hys] at m1 b1
  rw [← hyf] at m2 b2
  rw [← hy8] at m3 b3
  rw [← hys] at hp
  rw [← hys] at hV ⊢
  have HV := Lib.hid hV
  clear hV hys hyf hy8
  have i1 : IntKind.i64.wrap (((yf : Nat) : Int) + 1) = ((yf : Nat) : Int) + 1 := IntWalk.i64_in _ (by omega)
  go_enter Try.func57, Try.ntmps57
  go_wp2
  go_quiet (fail)
  obtain ⟨V0, hV0⟩ : ∃ V0, V0 = ((w.alloc (.cells #[.int .i64 (S0 : Int), .int .i64 (F0 : Int), .int .i64 o, .slice A js.length c] 33)).alloc (.cells #[.int .i64 0, .int .i64 0, .int .i64 0, .int .i64 0] 44)).drewN nq := ⟨_, rfl⟩
  rw [← hV0]
  have kb0 : V0.heap[w.heap.size]? = some (.cells #[.int .i64 (S0 : Int), .int .i64 (F0 : Int), .int .i64 o, .slice A js.length c] 33 (0, 0)) := by rw [hV0]; exact (Below.heap_alloc (w.alloc (.cells #[.int .i64 (S0 : Int), .int .i64 (F0 : Int), .int .i64 o, .slice A js.length c] 33)) (.cells #[.int .i64 0, .int .i64 0, .int .i64 0, .int .i64 0] 44) _ (by simp)).trans (heap_alloc_at w (.cells #[.int .i64 (S0 : Int), .int .i64 (F0 : Int), .int .i64 o, .slice A js.length c] 33) _ rfl)
  have kr0 : V0.heap[w.heap.size + 1]? = some (.cells #[.int .i64 0, .int .i64 0, .int .i64 0, .int .i64 0] 44 (0, 0)) := by rw [hV0]; exact heap_alloc_at (w.alloc (.cells #[.int .i64 (S0 : Int), .int .i64 (F0 : Int), .int .i64 o, .slice A js.length c] 33)) (.cells #[.int .i64 0, .int .i64 0, .int .i64 0, .int .i64 0] 44) _ (by simp)
  have hb0 : Below w.heap.size w V0 := by rw [hV0]; exact drewB (below2 w _ _) _
  have hs0 : w.heap.size + 1 < V0.heap.size := heap_lt kr0
  have hs00 : w.heap.size < V0.heap.size := heap_lt kb0
  have qb0 := fun i => cell_of_row V0 w.heap.size i _ _ _ kb0
  clear hV0
  go_wp2_with fail
  refine (jumpsFrom_any (S0 : Int) (F0 : Int) o A c js _ V0 (hj.go hb0)).mono ?_
  rintro e w2 ⟨rfl, hx2⟩
  have kb2 := (hx2.block _ (heap_lt kb0)).trans kb0
  have kr2 := (hx2.block _ (heap_lt kr0)).trans kr0
  have hb2 := hb0.trans (hx2.mono hb0.size)
  have hs2 : w.heap.size + 1 < w2.heap.size := heap_lt kr2
  have hs22 : w.heap.size < w2.heap.size := heap_lt kb2
  have qb2 := fun i => cell_of_row w2 w.heap.size i _ _ _ kb2
  clear qb0 hx2
  go_wp2_with fail
  refine (HV.out _ (hj.go (hb2.alloc hb2.size (.cells #[.int .i64 4, .int .i64 ((ys : Nat) : Int), .int .i64 0, .int .i64 0] 44)))).mono ?_
  rintro e w9 ⟨rfl, hx9⟩
  have kc9 := (hx9.block w2.heap.size (by simp)).trans (heap_alloc_at w2 (.cells #[.int .i64 4, .int .i64 ((ys : Nat) : Int), .int .i64 0, .int .i64 0] 44) _ rfl)
  have kr9 := (hx9.block (w.heap.size + 1) (by simp; try omega)).trans ((Below.heap_alloc w2 (.cells #[.int .i64 4, .int .i64 ((ys : Nat) : Int), .int .i64 0, .int .i64 0] 44) _ (by omega)).trans kr2)
  have hb9 : Below w.heap.size w w9 := (hb2.alloc hb2.size (.cells #[.int .i64 4, .int .i64 ((ys : Nat) : Int), .int .i64 0, .int .i64 0] 44)).trans (hx9.mono (by simp; try omega))
  have hn9 : w.heap.size + 1 < w9.heap.size := heap_lt kr9
  have qc9 := fun i => cell_of_row w9 w2.heap.size i _ _ _ kc9
  have zc9 := fun i => frozen_row (i := i) kc9
  have qr9 := fun i => cell_of_row w9 (w.heap.size + 1) i _ _ _ kr9
  have zr9 := fun i => frozen_row (i := i) kr9
  go_wp2
  exact bodyPost_ret (v := .agg #[.int .i64 4, .int .i64 ((ys : Nat) : Int), .int .i64 0, .int .i64 x]) (by simp [results, Try.results57, go_sem, qr9]) rfl ⟨rfl, by repeat (first | with_reducible exact hb9 | refine Below.setCell ?_ (by simp; try omega) _)⟩

end Go.Proofs.Yteogfondnpfklaa

/-
  Fractions are compared: compare.
-/
import Derived.Test.YtblpfjjnlfjloaaC5ze
import Derived.Test.YtblpfjjnlfjloaaWRegP
import Derived.Deep.RegionHeld3
namespace Go.Proofs.Ytblpfjjnlfjloaa
open Go.RowKit

theorem mul_in7 (a b : Nat) (ha : a ≤ 10000000) (hb : b ≤ 10000000) : IntKind.i64.wrap ((a : Int) * (b : Int)) = ((a * b : Nat) : Int) := by
  have h : a * b ≤ 10000000 * 10000000 := Nat.mul_le_mul ha hb
  rw [← Int.natCast_mul, IntWalk.i64_in _ (by omega)]
set_option maxRecDepth 100000 in
set_option maxHeartbeats 1000000 in
theorem compare_any (p q : Fr) (c : Int) (w : World) (hp1 : p.1 ≤ 10000000) (hp2 : p.2 ≤ 10000000) (hq1 : q.1 ≤ 10000000) (hq2 : q.2 ≤ 10000000) (h : cmpP p q = some c) :
    Calls Try.prog 62 #[.agg #[.int .i64 (p.1 : Nat), .int .i64 (p.2 : Nat)], .agg #[.int .i64 (q.1 : Nat), .int .i64 (q.2 : Nat)]] w fun e w' => e = .returned (.int .i64 c) ∧ Below w.heap.size w w' := by
  obtain ⟨g, o, d, s, m, hg, ho, hd, hs, hm, hng, hno, hdl, hcase⟩ := cmpP_some h
  have HG := Lib.hid (fun w => guess_any p g w hg)
  have HO := Lib.hid (fun w => guess_any q o w ho)
  have rd := fun w => run_float_arith (P := Try.prog) w .sub 114 .f64 g o d hd
  have rs := fun w => run_float_arith (P := Try.prog) w .add 114 .f64 g o s hs
  have rm := fun w => run_float_arith (P := Try.prog) w .mul 114 .f64 4517329193108106637 s m hm
  have HAB := Lib.hid (fun w => abs_any d w hdl)
  have HCF := Lib.hid (fun w => cmpFloat_any g o w hng hno)
  have HRD := Lib.hid rd; have HRS := Lib.hid rs; have HRM := Lib.hid rm
  obtain ⟨W1, hW1⟩ : ∃ W1, W1 = (w.alloc (.cells #[.int .i64 (p.1 : Nat), .int .i64 (p.2 : Nat)] 61)).alloc (.cells #[.int .i64 (q.1 : Nat), .int .i64 (q.2 : Nat)] 61) := ⟨_, rfl⟩
  have hB1 : Below w.heap.size w W1 := by rw [hW1]; exact below2 _ _ _
  have k1 : W1.heap[w.heap.size]? = some (.cells #[.int .i64 (p.1 : Nat), .int .i64 (p.2 : Nat)] 61 (0, 0)) := by rw [hW1]; exact (Below.heap_alloc _ _ _ (by simp)).trans (heap_alloc_at _ _ _ rfl)
  have k2 : W1.heap[w.heap.size + 1]? = some (.cells #[.int .i64 (q.1 : Nat), .int .i64 (q.2 : Nat)] 61 (0, 0)) := by rw [hW1]; exact heap_alloc_at _ _ _ (by simp)
  have hz1 : w.heap.size + 1 < W1.heap.size := heap_lt k2
  have HW := Lib.hid hW1
  have sizeFr : (Try.prog.info? 61).map (·.size) = some 2 := by kernel_rfl
  have HCASE := Lib.hid hcase
  have hB1' : W1.heap.size = W1.heap.size := rfl
  clear hg ho hd hs hm hng hno hdl hcase h rd rs rm hW1 hB1'
  go_enter Try.func62, Try.ntmps62
  go_wp2_with fail
  rw [← HW.out]
  refine wp_region_held_drew (S := (fun w' => Below W1.heap.size W1 w')) (by kernel_rfl) ((Below.refl W1.heap.size W1).drew) (fun hS => ?_)
  refine wpAnyH_take (i := 0) (oi := ⟨some 7, _, _, _, _, _⟩) rfl (by kernel_rfl) (by kernel_rfl) (by kernel_rfl) (fun _ _ _ h => h) (yields_load_row rfl 61 (.tmp 2) rfl w.heap.size rfl _ _ _ _ (fun _ h => (h.block w.heap.size (by omega)).trans k1) Try.underlying61 rfl sizeFr) hS ?_
  try simp only [Act.put, List.setIfInBounds_toArray, List.set_cons_zero, List.set_cons_succ]
  refine wpAnyH_take (i := 2) (oi := ⟨some 9, _, _, _, _, _⟩) rfl (by kernel_rfl) (by kernel_rfl) (by kernel_rfl) (fun _ _ _ h => h) (yields_load_row rfl 61 (.tmp 3) rfl (w.heap.size + 1) rfl _ _ _ _ (fun _ h => (h.block (w.heap.size + 1) hz1).trans k2) Try.underlying61 rfl sizeFr) hS ?_
  try simp only [Act.put, List.setIfInBounds_toArray, List.set_cons_zero, List.set_cons_succ]
  refine wpAnyH_ready (rs := [1]) (by kernel_rfl) (by simp) ?_
  refine AllReadyH.cons (o := ⟨some 8, _, _, _, _, _⟩) rfl (fun K' hK' => ?_) AllReadyH.nil
  go_simp
  go_at_call 79
  refine (HG.out _).mono ?_
  rintro e w8 ⟨rfl, hx8⟩
  have hS8 : Below W1.heap.size W1 w8 := keepB hS (Nat.le_refl _) hx8
  refine hK'.out _ _ hS8 (fun _ => ?_)
  clear hK' K'
  try simp only [Act.put, List.setIfInBounds_toArray, List.set_cons_zero, List.set_cons_succ]
  refine wpAnyH_ready (rs := [3]) (by kernel_rfl) (by simp) ?_
  refine AllReadyH.cons (o := ⟨some 10, _, _, _, _, _⟩) rfl (fun K' hK' => ?_) AllReadyH.nil
  go_simp
  go_at_call 79
  refine (HO.out _).mono ?_
  rintro e w10 ⟨rfl, hx10⟩
  have hS10 : Below W1.heap.size W1 w10 := keepB hS8 (Nat.le_refl _) hx10
  refine hK'.out _ _ hS10 (fun _ => ?_)
  clear hK' K'
  try simp only [Act.put, List.setIfInBounds_toArray, List.set_cons_zero, List.set_cons_succ]
  refine wpAnyH_ready (rs := [4]) (by kernel_rfl) (by simp) ?_
  refine AllReadyH.cons (o := ⟨some 5, _, _, _, _, _⟩) rfl (fun K' hK' => ?_) AllReadyH.nil
  go_simp
  refine hK'.out _ _ hS10 (fun _ => ?_)
  clear hK' K'
  try simp only [Act.put, List.setIfInBounds_toArray, List.set_cons_zero, List.set_cons_succ]
  refine wpAnyH_ready (rs := [5]) (by kernel_rfl) (by simp) ?_
  refine AllReadyH.cons (o := ⟨some 6, _, _, _, _, _⟩) rfl (fun K' hK' => ?_) AllReadyH.nil
  go_simp
  refine hK'.out _ _ hS10 (fun _ => ?_)
  clear hK' K'
  try simp only [Act.put, List.setIfInBounds_toArray, List.set_cons_zero, List.set_cons_succ]
  refine wpAnyH_done (by kernel_rfl) ?_ _
  have rd := HRD.out; have rs := HRS.out; have rm := HRM.out
  have hBW : Below w.heap.size w w10 := hB1.trans (hS10.mono hB1.size)
  have hb2 : Below (w.heap.size + 1) (w.alloc (.cells #[.int .i64 (p.1 : Nat), .int .i64 (p.2 : Nat)] 61)) W1 := by
    rw [HW.out]
    have := below1 (w.alloc (.cells #[.int .i64 (p.1 : Nat), .int .i64 (p.2 : Nat)] 61)) (.cells #[.int .i64 (q.1 : Nat), .int .i64 (q.2 : Nat)] 61)
    rwa [World.size_alloc] at this
  have c1 : ∀ i, w10.cell? ⟨w.heap.size, i, none⟩ = #[.int .i64 (p.1 : Nat), .int .i64 (p.2 : Nat)][i]? := fun i => (World.cell?_of_block (a := ⟨w.heap.size, i, none⟩) (hS10.block w.heap.size (by omega))).trans (boxcells hb2 i)
  have c2 : ∀ i, w10.cell? ⟨w.heap.size + 1, i, none⟩ = #[.int .i64 (q.1 : Nat), .int .i64 (q.2 : Nat)][i]? := fun i => by rw [World.cell?_of_block (a := ⟨w.heap.size + 1, i, none⟩) (hS10.block (w.heap.size + 1) hz1), HW.out]; exact World.cell?_alloc_at _ _ _ _ (by simp)
  have hm1 := mul_in7 p.1 q.2 hp1 hq2
  have hm2 := mul_in7 q.1 p.2 hq1 hp2
  clear k1 k2 hx8 hx10 hS8
  rcases HCASE.out with ⟨hf, hc⟩ | ⟨hf, hc⟩
  · go_wp2_with (go_at_call 80; refine (HAB.out _).mono ?_; rintro e w11 ⟨rfl, rfl⟩)
    refine (HCF.out _).mono ?_
    rintro e w12 ⟨rfl, rfl⟩
    go_wp2_with fail
    go_ret
    exact ⟨ret_int hc.symm, hBW⟩
  · go_wp2_with (go_at_call 80; refine (HAB.out _).mono ?_; rintro e w11 ⟨rfl, rfl⟩)
    refine (cmpInt_any _ _ _).mono ?_
    rintro e w12 ⟨rfl, rfl⟩
    go_wp2_with fail
    go_ret
    exact ⟨ret_int (by rw [hc]; simp), hBW⟩
end Go.Proofs.Ytblpfjjnlfjloaa

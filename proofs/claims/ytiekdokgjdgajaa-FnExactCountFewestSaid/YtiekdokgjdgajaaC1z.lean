/-
  Numbers of lists carried on by a throw, the program's: onward.
-/
import Derived.Test.YtiekdokgjdgajaaC1o
import Derived.Test.YtiekdokgjdgajaaM10
namespace Go.Proofs.Ytiekdokgjdgajaa
open Go.RowKit

theorem sizeSquares : (Try.prog.info? 66).map (·.size) = some 101 := by kernel_rfl
theorem arrN_congr {P Q : Nat → Int} (h : ∀ i < 101, P i = Q i) : arrN P = arrN Q := by
  unfold arrN
  congr 1
  exact List.map_congr_left fun i hi => by rw [h i (by simpa using hi)]

theorem arrN_one (P : Nat → Int) : ∀ u ∈ (arrN P).toList, u.oneCell' = true := by
  intro u hu
  simp only [arrN, List.mem_map] at hu
  obtain ⟨i, _, rfl⟩ := hu
  rfl

/-- What onward hands back. -/
def OnwIs (w : World) (s f o : Int) (js : List (Int × Int)) (P : Nat → Int) (e : Ending) (w' : World) : Prop :=
  e = .returned (.agg (arrN (fun y => sat (sumTo (fun i => P i * facesTo s o js i y f.toNat) (s.toNat + 1))))) ∧ Below w.heap.size w w'

set_option maxRecDepth 100000 in
set_option maxHeartbeats 2000000 in
theorem onward_any (g : Nat) (s f o : Int) (js : List (Int × Int)) (P : Nat → Int) (w : World) (hC : CV w g s f o (fun i => jumpOf js i)) (hgw : g < w.heap.size) (hgd : good ⟨s, f, o, js⟩ = true) (hP : ∀ i, 0 ≤ P i) (hPok : ∀ i : Nat, (i : Int) ≤ s → P i ≠ 0 → okB s js i) :
    Calls Try.prog 97 #[.pointer (some ⟨g, 0, none⟩), .agg (arrN (fun i => sat (P i)))] w (OnwIs w s f o js P) := by
  have hz := good_sizes hgd
  have hsz : (arrN (fun i => sat (P i))).size = 101 := arrN_size _
  have HA := Lib.hid hgd; have HP := Lib.hid hP; have HPO := Lib.hid hPok; clear hgd hP hPok
  go_enter Try.func97, Try.ntmps97
  go_wp2
  obtain ⟨w9, hw9⟩ : ∃ w9, w9 = (((w.alloc (.cells (arrN (fun i => sat (P i))) 66)).alloc (.cells Try.zeroCells66 66)).alloc (.cells Try.zeroCells66 66)) := ⟨_, rfl⟩
  have hL9 : w9.heap[w.heap.size]? = some (.cells (arrN (fun i => sat (P i))) 66 (0, 0)) := by
    rw [hw9, Below.heap_alloc _ _ _ (by simp; omega), Below.heap_alloc _ _ _ (by simp)]
    exact heap_alloc_at _ _ _ rfl
  have hR9 : w9.heap[w.heap.size + 1]? = some (.cells Try.zeroCells66 66 (0, 0)) := by
    rw [hw9, Below.heap_alloc _ _ _ (by simp)]
    exact heap_alloc_at _ _ _ (by simp)
  have hN9 : w9.heap[w.heap.size + 1 + 1]? = some (.cells (arrN (fun _ => 0)) 66 (0, 0)) := by
    rw [hw9, arrNZero]
    exact heap_alloc_at _ _ _ (by simp)
  have hB9 : Below w.heap.size w w9 := by rw [hw9]; exact below3 _ _ _ _
  have hz9 : w.heap.size + 3 ≤ w9.heap.size := by rw [hw9]; simp
  rw [← hw9]
  clear hw9
  go_loopw [6, 7, 8] (fun fr _ _ wr => ∃ m : Nat, m ≤ s.toNat + 1 ∧ fr = .int .i64 (m : Int) ∧ wr.heap[w.heap.size]? = some (.cells (arrN (fun i => sat (P i))) 66 (0, 0)) ∧ wr.heap[w.heap.size + 1]? = some (.cells Try.zeroCells66 66 (0, 0)) ∧ wr.heap[w.heap.size + 1 + 1]? = some (.cells (arrN (fun y => sat (sumTo (fun i => P i * facesTo s o js i y f.toNat) m))) 66 (0, 0)) ∧ Below w.heap.size w wr ∧ w.heap.size + 3 ≤ wr.heap.size) (fun fr _ _ _ => s.toNat + 1 - (intOf fr).toNat)
  case atStart => exact ⟨0, Nat.zero_le _, rfl, hL9, hR9, hN9, hB9, hz9⟩
  case round =>
    clear hL9 hR9 hN9 hB9 hz9
    obtain ⟨m, hm, rfl, hL, hR, hN, hB, hsw⟩ := hrel
    have hCw : CV wr g s f o (fun i => jumpOf js i) := hC.below hB hgw
    have c0 := hCw.sq
    have hBs := hB.size
    by_cases hlt : m < s.toNat + 1
    · have h3 : (m : Int) ≤ s := by omega
      have hm101 : m < 101 := by omega
      have hmi : (m : Int) < 101 := by omega
      have cL : wr.cell? ⟨w.heap.size, m, none⟩ = some (.int .i64 (sat (P m))) := (cell_of_row _ _ _ _ _ _ hL).trans (arrN_at _ hm101)
      by_cases h0 : P m = 0
      · rw [h0, sat_zero] at cL
        have HN0 := Lib.hid (onwP_none (s := s) (f := f) (o := o) (js := js) h0)
        clear h0
        go_wp2
        go_roundw
        case rel =>
          refine ⟨m + 1, hlt, by go_num, hL, hR, ?_, hB, hsw⟩
          rw [hN]
          congr 2
          exact arrN_congr fun i _ => by rw [HN0.out i]
        case measure => simp [intOf]; omega
      · have hne : (sat (P m) == 0) = false := beq_eq_false_iff_ne.2 fun h => h0 (sat_eq_zero h)
        have hokm := HPO.out m h3 h0
        have HOK := Lib.hid hokm
        clear h0 hokm
        obtain ⟨v, hv⟩ : ∃ v, sat (P m) = v := ⟨_, rfl⟩
        rw [hv] at cL hne
        have HV := Lib.hid hv
        clear hv
        go_wp2_with fail
        go_loopw [7, 8] (fun fc _ wi => ∃ j : Nat, j ≤ f.toNat ∧ fc = .int .i64 ((j : Int) + 1) ∧ wi.heap[w.heap.size]? = some (.cells (arrN (fun i => sat (P i))) 66 (0, 0)) ∧ wi.heap[w.heap.size + 1]? = some (.cells Try.zeroCells66 66 (0, 0)) ∧ wi.heap[w.heap.size + 1 + 1]? = some (.cells (arrN (fun y => sat (onwP s f o js P m j y))) 66 (0, 0)) ∧ Below w.heap.size w wi ∧ w.heap.size + 3 ≤ wi.heap.size) (fun fc _ _ => f.toNat + 1 - (intOf fc).toNat)
        case atStart => exact ⟨0, Nat.zero_le _, rfl, hL, hR, by rw [hN]; congr 2; exact arrN_congr fun i _ => by rw [onwP_zero], hB, hsw⟩
        case round =>
          clear hL hR hN hB hsw cL c0 hCw hBs
          obtain ⟨j, hj, rfl, hL, hR, hN, hB, hsw⟩ := hrel
          have hCw : CV wr g s f o (fun i => jumpOf js i) := hC.below hB hgw
          have cf := hCw.fa
          have hBs := hB.size
          by_cases hlj : j < f.toNat
          · have h4 : (j : Int) + 1 ≤ f := by omega
            have hth := nxB_eq (o := o) HA.out HOK.out.1 (show 1 ≤ j + 1 by omega)
            have hoky := okB_next (o := o) HA.out f.toNat m HOK.out (j + 1) (by omega) (by omega)
            obtain ⟨y, hy⟩ : ∃ y, nxB s o js m (j + 1) = y := ⟨_, rfl⟩
            rw [hy] at hth hoky
            have hyn : y < 101 := by have := okB_lt _ hoky; omega
            have hyi : (y : Int) < 101 := by omega
            have hcast : (((j + 1 : Nat) : Int)) = (j : Int) + 1 := by omega
            rw [hcast] at hth
            have HTH := Lib.hid hth
            clear hth hy hcast hoky
            have hm0 : (0 : Int) ≤ (m : Int) := by omega
            go_wp2_with fail
            refine (behind_bel _ _ _ _ _ _ _ _ hCw hz.1.1 hz.1.2 hz.2.2.1.1 hz.2.2.1.2 hm0 h3 (good_end HA.out) HOK.out.2 (by omega) (by omega)).mono ?_
            rintro e w5 ⟨rfl, hx5, hs5⟩
            rw [HTH.out]
            have hL5 := (hx5.block w.heap.size (by omega)).trans hL
            have hR5 := (hx5.block (w.heap.size + 1) (by omega)).trans hR
            have hN5 := (hx5.block (w.heap.size + 1 + 1) (by omega)).trans hN
            have hB5 : Below w.heap.size w w5 := hB.trans (hx5.mono hBs)
            obtain ⟨u, hu⟩ : ∃ u, sat (onwP s f o js P m j y) = u := ⟨_, rfl⟩
            have e1 : w5.cell? ⟨w.heap.size + 1 + 1, y, none⟩ = some (.int .i64 u) := by rw [cell_of_row _ _ _ _ _ _ hN5, arrN_at _ hyn, hu]
            have e2 : w5.frozen? ⟨w.heap.size + 1 + 1, y, none⟩ = false := frozen_row hN5
            have e3 : w5.cell? ⟨w.heap.size, m, none⟩ = some (.int .i64 v) := by rw [cell_of_row _ _ _ _ _ _ hL5, arrN_at _ hm101, HV.out]
            have hu0 : 0 ≤ u := by rw [← hu]; exact sat_nonneg (onwP_nonneg HP.out _ _ _)
            have hu1 : u ≤ 1000000000000001 := by rw [← hu]; exact sat_le _
            have hv0 : 0 ≤ v := by rw [← HV.out]; exact sat_nonneg (HP.out m)
            have hv1 : v ≤ 1000000000000001 := by rw [← HV.out]; exact sat_le _
            have hwr : IntKind.i64.wrap (u + v) = u + v := IntWalk.i64_in _ (by omega)
            have HU := Lib.hid hu
            clear hL hR hN hB cf hCw hx5 hu
            go_wp2
            go_region
            have hnv : (if (1000000000000001 : Int) < u + v then (1000000000000001 : Int) else u + v) = sat (onwP s f o js P m (j + 1) y) := by
              rw [onwP_hit HTH.out, ← sat_add (onwP_nonneg HP.out _ _ _) (HP.out m), HU.out, HV.out]
              unfold sat
              split <;> split <;> omega
            rw [hnv]
            have hN6 : (w5.setCell ⟨w.heap.size + 1 + 1, y, none⟩ (.int .i64 (sat (onwP s f o js P m (j + 1) y)))).heap[w.heap.size + 1 + 1]? = some (.cells (arrN (fun i => sat (onwP s f o js P m (j + 1) i))) 66 (0, 0)) := (heap_set _ _ _ _ _ _ hN5).trans (by
              rw [arrN_set _ hyn]
              congr 2
              refine arrN_congr fun i _ => ?_
              by_cases e : i = y
              · rw [if_pos e, e]
              · rw [if_neg e, onwP_miss (fun h => e (by have := HTH.out; rw [h] at this; omega))])
            have hL6 := (Below.heap_setCell w5 ⟨w.heap.size + 1 + 1, y, none⟩ (.int .i64 (sat (onwP s f o js P m (j + 1) y))) w.heap.size (by simp; omega)).trans hL5
            have hR6 := (Below.heap_setCell w5 ⟨w.heap.size + 1 + 1, y, none⟩ (.int .i64 (sat (onwP s f o js P m (j + 1) y))) (w.heap.size + 1) (by simp)).trans hR5
            have hB6 := hB5.setCell (p := ⟨w.heap.size + 1 + 1, y, none⟩) (by simp; omega) (.int .i64 (sat (onwP s f o js P m (j + 1) y)))
            have hsz6 : w.heap.size + 3 ≤ (w5.setCell ⟨w.heap.size + 1 + 1, y, none⟩ (.int .i64 (sat (onwP s f o js P m (j + 1) y)))).heap.size := by simp; omega
            obtain ⟨w6, hw6⟩ : ∃ w6, w6 = w5.setCell ⟨w.heap.size + 1 + 1, y, none⟩ (.int .i64 (sat (onwP s f o js P m (j + 1) y))) := ⟨_, rfl⟩
            rw [← hw6] at hN6 hL6 hR6 hB6 hsz6 ⊢
            clear hw6 hnv e1 e2 e3 hL5 hR5 hN5 hB5
            go_wp2
            go_roundw
            case rel => exact ⟨j + 1, by omega, by go_num, hL6, hR6, hN6, hB6.drew, hsz6⟩
            case measure => simp [intOf]; omega
          · have h4 : ¬ (j : Int) + 1 ≤ f := by omega
            obtain rfl : j = f.toNat := by omega
            go_wp2
            go_roundw
            case rel => exact ⟨m + 1, hlt, by go_num, hL, hR, hN, hB, hsw⟩
            case measure => simp [intOf]; omega
    · have h3 : ¬ (m : Int) ≤ s := by omega
      obtain rfl : m = s.toNat + 1 := by omega
      go_wp2_with (first | (refine wpList_load_row rfl 66 _ rfl (w.heap.size + 1 + 1) rfl _ _ _ _ hN Try.underlying66 rfl ?_ ?_; (rw [arrN_size]; exact sizeSquares)) | (refine wpList_store_row rfl 66 _ _ rfl (w.heap.size + 1) rfl _ _ _ rfl hR ?_ ?_ (arrN_one _) ?_; (rw [arrN_size, arrNZero, arrN_size]); (rw [arrN_size]; exact sizeSquares); intro w7 h7 g7 s7))
      exact bodyPost_ret (v := .agg (arrN (fun y => sat (sumTo (fun i => P i * facesTo s o js i y f.toNat) (s.toNat + 1))))) (results_cell1k Try.results97 _ _ _ _ _ _ _ rfl h7 Try.underlying66 rfl (by rw [arrN_size]; exact sizeSquares)) rfl
        ⟨rfl, hB.grown g7 (by omega) (fun j h => by cases h; omega)⟩
end Go.Proofs.Ytiekdokgjdgajaa

/- Several texts, one behind the other: C5t C5zc. -/
import Derived.RegionCalls
import Derived.Deep.RegionWith
import Derived.Test.YtmiefdjbhcpnbaaZPPam

namespace Go.Proofs.Ytmiefdjbhcpnbaa
open Go.RowKit

theorem PA.drew {w : World} {g : Nat} {t : TypeId} {s f : Nat} {R : Value} {T : Tab} (h : PA w g t s f R T) : PA w.drew g t s f R T := h
theorem sizePlan : (Try.prog.info? 82).map (·.size) = some 203 := by kernel_rfl
theorem planZero_size : Try.zeroCells82.size = 203 := by kernel_rfl
theorem planZero_one : ∀ u ∈ Try.zeroCells82.toList, u.oneCell' = true := by
  have h : Try.zeroCells82.toList.all (fun u => u.oneCell') = true := by kernel_rfl
  intro u hu
  exact List.all_eq_true.1 h u hu
theorem run_buildPlan (s f : Nat) (F : FuncId) (w : World) : (Instr.build 82 #[(0, .agg (crsCells s f 0 (fun i => jumpOf [] i))), (1, .func (.func F) #[] #[])]).run Try.prog w = .ok (.agg (planC s f (.func (.func F) #[] #[]) (fun _ _ => (0, 0)))) w := by kernel_rfl
theorem run_buildPlan0 (w : World) : (Instr.build 82 #[]).run Try.prog w = .ok (.agg Try.zeroCells82) w := by kernel_rfl
theorem storePlan (s f : Nat) (R : Value) (T : Tab) (hR : R.oneCell' = true) (w : World) : (storeCells ⟨w.heap.size, 0, none⟩ (planC s f R T).toList 0).run Try.prog (w.alloc (.cells Try.zeroCells82 82)) = .ok () (w.alloc (.cells (planC s f R T) 82)) :=
  run_storeCells_new w _ _ _ (by rw [planC_size]; exact sizePlan) (by rw [planZero_size, planC_size]) (Array.all_eq_true_iff_forall_mem.2 fun u hu => planC_one _ _ _ _ hR u (Array.mem_toList_iff.2 hu))
theorem storePlan0 (w : World) : (storeCells ⟨w.heap.size, 0, none⟩ (Try.zeroCells82).toList 0).run Try.prog (w.alloc (.cells Try.zeroCells82 82)) = .ok () (w.alloc (.cells Try.zeroCells82 82)) :=
  run_storeCells_new w _ _ _ (by rw [planZero_size]; exact sizePlan) rfl (Array.all_eq_true_iff_forall_mem.2 fun u hu => planZero_one u (Array.mem_toList_iff.2 hu))
/-- A table is the one of a rule's means. -/
def TabOk (ch : Tab → Nat → Nat → Nat → Nat) (s f : Nat) (T : Tab) : Prop :=
  (∀ u v, u ≤ s → v ≤ s → (T u v).1 ≤ 10000000 ∧ (T u v).2 ≤ 10000000) ∧ ∀ x y, x ≤ s → y ≤ s → okMean ch (partT T s x y) s f x y = true ∧ meanP ch (partT T s x y) s f x y = T x y

/-- What the rule asks holds wherever both move. -/
def GoodG (G : Tab → Nat → Nat → Nat → Prop) (s f : Nat) (T : Tab) : Prop := ∀ x y face, 1 ≤ face → face ≤ f → x + face ≤ s → y + face ≤ s → G (partT T s x y) x y face

set_option maxRecDepth 100000 in
theorem planOf_no (s f a b : Int) (R : Value) (w : World) (hp : pairOk s f a b = false) :
    Calls Try.prog 54 #[.int .i64 s, .int .i64 f, .int .i64 a, .int .i64 b, R] w fun e w' => e = .returned (.tuple #[.agg Try.zeroCells82, .bool false]) ∧ Below w.heap.size w w' := by
  have hst := storeCourse 0 0 0 (fun _ => 0)
  have hbd := run_buildPlan0
  have HP := Lib.hid hp; clear hp
  go_enter Try.func54, Try.ntmps54
  go_wp2_with fail
  refine (courseOfPair_no _ _ _ _ _ HP.out).mono ?_
  rintro e w2 ⟨rfl, hx⟩
  have k2 : w2.heap[w.heap.size]? = some (.cells Try.zeroCells82 82 (0, 0)) := (hx.block _ (by simp)).trans (heap_alloc_at _ _ _ rfl)
  have hb : Below w.heap.size w w2 := (below1 _ _).trans (hx.mono (by simp))
  have k3 := (Below.heap_alloc w2 (.cells (crsCells 0 0 0 (fun _ => 0)) 42) _ (heap_lt k2)).trans k2
  have hb3 := hb.alloc hb.size (.cells (crsCells 0 0 0 (fun _ => 0)) 42)
  go_wp2_with (refine wpList_store_row rfl 82 (.tmp 10) _ rfl w.heap.size rfl _ _ Try.zeroCells82 rfl k3 ?_ ?_ planZero_one ?_; rfl; (rw [planZero_size]; exact sizePlan); intro w4 hC4 hg4 hs4)
  exact bodyPost_ret (v := .tuple #[.agg Try.zeroCells82, .bool false]) (results_cell_slot Try.results54 _ _ _ _ _ _ _ _ rfl rfl hC4 Try.underlying82 rfl (by rw [planZero_size]; exact sizePlan)) rfl
    ⟨rfl, hb3.grown hg4 hb3.size (fun k h => by cases h; omega)⟩

set_option maxRecDepth 100000 in
set_option maxHeartbeats 4000000 in
theorem planOf_yes (s f a b : Nat) (F : FuncId) (ch : Tab → Nat → Nat → Nat → Nat) (G : Tab → Nat → Nat → Nat → Prop) (T : Tab) (w : World) (hp : pairOk s f a b = true) (hR : RuleIs F ch G) (hE : EntersF F) (hch : ∀ T x y face, ch T x y face ≤ 1) (hT : TabOk ch s f T) (hG : GoodG G s f T) :
    Calls Try.prog 54 #[.int .i64 s, .int .i64 f, .int .i64 a, .int .i64 b, .func (.func F) #[] #[]] w fun e w' => e = .returned (.tuple #[.agg (planC s f (.func (.func F) #[] #[]) (allT T s)), .bool true]) ∧ Below w.heap.size w w' := by
  have hst := storeCourse s f 0 (fun i => jumpOf [] i)
  have hbd := run_buildPlan s f F
  have hh := pairOk_iff.1 hp
  have hs : s ≤ 6 := by omega
  have hf1 : 1 ≤ f := by omega
  have hf4 : f ≤ 4 := by omega
  have HP := Lib.hid hp; have HT := Lib.hid hT; have HGG := Lib.hid hG; clear hp hT hh hG
  go_enter Try.func54, Try.ntmps54
  go_wp2_with fail
  refine (courseOfPair_yes _ _ _ _ _ HP.out).mono ?_
  rintro e w2 ⟨rfl, hx⟩
  have k2 : w2.heap[w.heap.size]? = some (.cells Try.zeroCells82 82 (0, 0)) := (hx.block _ (by simp)).trans (heap_alloc_at _ _ _ rfl)
  have hb : Below w.heap.size w w2 := (below1 _ _).trans (hx.mono (by simp))
  have hCn : CA (w2.alloc (.cells (crsCells s f 0 (fun i => jumpOf [] i)) 42)) w2.heap.size s f 0 (fun i => jumpOf [] i) := heap_alloc_at _ _ _ rfl
  have k3 := (Below.heap_alloc w2 (.cells (crsCells s f 0 (fun i => jumpOf [] i)) 42) _ (heap_lt k2)).trans k2
  have hb3 := hb.alloc hb.size (.cells (crsCells s f 0 (fun i => jumpOf [] i)) 42)
  have hz2 := heap_lt k2
  clear hx
  obtain ⟨W3, hW3⟩ : ∃ W3, W3 = w2.alloc (.cells (crsCells s f 0 (fun i => jumpOf [] i)) 42) := ⟨_, rfl⟩
  have kz : (W3.alloc (.cells Try.zeroCells82 82)).heap[W3.heap.size]? = some (.cells Try.zeroCells82 82 (0, 0)) := heap_alloc_at _ _ _ rfl
  rw [← hW3] at hCn k3 hb3
  have HW3 := Lib.hid hW3
  have hz3 := heap_lt k3
  have HBD := Lib.hid hbd
  clear hW3 hbd k2 hb hz2
  go_wp2_with (first | (rw [← HW3.out]; refine wpList_load_row rfl 42 (.tmp 12) rfl w2.heap.size rfl _ _ _ _ hCn Try.underlying42 rfl ?_ ?_; (rw [crs_size]; exact sizeCourse)) | (refine wpList_build rfl 82 #[(0, .tmp 28), (1, .tmp 29)] rfl #[(0, .agg (crsCells s f 0 (fun i => jumpOf [] i))), (1, .func (.func F) #[] #[])] (by simp [go_sem]) _ (HBD.out _) ?_) | (refine wpList_store_row rfl 82 (.tmp 14) (.tmp 30) rfl W3.heap.size rfl 82 Try.zeroCells82 (planC s f (.func (.func F) #[] #[]) (fun _ _ => (0, 0))) rfl kz ?_ ?_ (planC_one _ _ _ _ rfl) ?_; (rw [planZero_size, planC_size]); (rw [planC_size]; exact sizePlan); intro w5 hP5 hg5 hs5))
  obtain ⟨gP, hgP⟩ : ∃ gP, gP = W3.heap.size := ⟨_, rfl⟩
  have hP0 : PA w5 W3.heap.size 82 s f (.func (.func F) #[] #[]) (fun _ _ => (0, 0)) := hP5
  have hB5 : Below w.heap.size w w5 := (hb3.alloc hb3.size _).grown hg5 (by simp; omega) (fun i h => by cases h; exact hb3.size)
  have k5 : w5.heap[w.heap.size]? = some (.cells Try.zeroCells82 82 (0, 0)) := (hg5.block _ (by simp; omega) (by simp; omega)).trans ((Below.heap_alloc _ _ _ hz3).trans k3)
  have hlt5 : w.heap.size < W3.heap.size := hz3
  rw [← hgP] at hP0 hlt5 ⊢
  clear hP5 hg5 hs5 kz k3 hb3 hz3 hCn HW3 HBD hgP
  have HT1 := fun x y (hx : x ≤ s) (hy : y ≤ s) => HT.out.2 x y hx hy
  have HTM := Lib.hid HT1
  have HTS := Lib.hid HT.out.1
  clear HT1
  go_loopw [15, 16] (fun i _ wr => ∃ k : Nat, k ≤ s + 1 ∧ i = .int .i64 ((s : Int) - (k : Int)) ∧ Below w.heap.size w wr ∧ wr.heap[w.heap.size]? = some (.cells Try.zeroCells82 82 (0, 0)) ∧ PA wr gP 82 s f (.func (.func F) #[] #[]) (tabAt T s k 0)) (fun i _ _ => (intOf i + 1).toNat)
  case atStart => exact ⟨0, by omega, by simp, hB5, k5, by rw [tabAt_start]; exact hP0⟩
  case round =>
    clear hB5 k5 hP0
    obtain ⟨k, hk, rfl, hB, kz, hP⟩ := hrel
    by_cases hlt : k ≤ s
    · obtain ⟨X, hX⟩ : ∃ X, X = s - k := ⟨_, rfl⟩
      have eX : (s : Int) - (k : Int) = (X : Int) := by omega
      have hXs : X ≤ s := by omega
      have wX : IntKind.i64.wrap ((X : Int) - 1) = (X : Int) - 1 := IntWalk.i64_in _ (by omega)
      have EX := Lib.hid eX; have HX := Lib.hid hX
      rw [eX]
      clear eX hX
      go_wp2_with fail
      go_loopw [16] (fun i wi => ∃ j : Nat, j ≤ s + 1 ∧ i = .int .i64 ((s : Int) - (j : Int)) ∧ Below w.heap.size w wi ∧ wi.heap[w.heap.size]? = some (.cells Try.zeroCells82 82 (0, 0)) ∧ PA wi gP 82 s f (.func (.func F) #[] #[]) (tabAt T s k j)) (fun i _ => (intOf i + 1).toNat)
      case atStart => exact ⟨0, by omega, by simp, hB, kz, hP⟩
      case round =>
        clear hB kz hP
        obtain ⟨j, hj, rfl, hB, kz, hP⟩ := hrel
        by_cases hjl : j ≤ s
        · obtain ⟨Y, hY⟩ : ∃ Y, Y = s - j := ⟨_, rfl⟩
          have eY : (s : Int) - (j : Int) = (Y : Int) := by omega
          have hYs : Y ≤ s := by omega
          have wY : IntKind.i64.wrap ((Y : Int) - 1) = (Y : Int) - 1 := IntWalk.i64_in _ (by omega)
          rw [tabAt_in T hlt hjl, ← hY, ← HX.out] at hP
          have EY := Lib.hid eY; have HY := Lib.hid hY
          rw [eY]
          clear eY hY
          have hm := HTM.out X Y hXs hYs
          have hsm := partT_small HTS.out X Y
          have hPd := hP.drew
          have hgl := hP.lt
          have hsz := hB.size
          have kzl := heap_lt kz
          have b1 : (X : Int) < 7 := by omega
          have b2 : (Y : Int) < 7 := by omega
          have HM := Lib.hid hm.2; have HMO := Lib.hid hm.1
          clear hm hP
          go_wp2_with fail
          go_region_with
            (first | (go_at_call 62; refine (meanFrom_any gP s f X Y F ch G (partT T s X Y) _ hPd hR hE hsm (hch _) hs hf1 hf4 hXs hYs HMO.out (HGG.out X Y)).mono ?_; rintro e w6 ⟨rfl, hx6⟩; rw [HM.out]; have P6 := hPd.below hx6 hgl; have q61 := P6.at1 (show X < 7 by omega) (show Y < 7 by omega); have q62 := P6.at2 (show X < 7 by omega) (show Y < 7 by omega); have f6 := P6.free))
          all_goals
            have hB6 := (hB.drew).trans (hx6.mono hsz)
            have kz6 := (hx6.block _ kzl).trans kz
            go_wp2
            go_roundw
            case rel =>
              refine ⟨j + 1, by omega, by have := EY.out; go_num, (hB6.setCell (by simp; omega) _).setCell (by simp; omega) _, (Below.heap_setCell _ _ _ _ (by simp; omega)).trans ((Below.heap_setCell _ _ _ _ (by simp; omega)).trans kz6), ?_⟩
              have hset := P6.set (show X < 7 by omega) (show Y < 7 by omega) (T X Y)
              have hstep := tabAt_step T hlt hjl
              rw [← HX.out, ← HY.out] at hstep
              rw [hstep] at hset
              exact hset
            case measure => have := EY.out; simp [intOf] <;> omega
        · obtain rfl : j = s + 1 := by omega
          have h5 : ¬ (0 : Int) ≤ (s : Int) - ((s + 1 : Nat) : Int) := by omega
          rw [tabAt_row T hlt] at hP
          go_wp2_with fail
          go_roundw
          case rel => exact ⟨k + 1, by omega, by have := EX.out; go_num, hB, kz, hP⟩
          case measure => have := EX.out; simp [intOf] <;> omega
    · obtain rfl : k = s + 1 := by omega
      have h5 : ¬ (0 : Int) ≤ (s : Int) - ((s + 1 : Nat) : Int) := by omega
      rw [tabAt_end] at hP
      have hP' : wr.heap[gP]? = some (.cells (planC s f (.func (.func F) #[] #[]) (allT T s)) 82 (0, 0)) := hP
      go_wp2_with (first | (refine wpList_load_row rfl 82 (.tmp 14) rfl gP rfl _ _ _ _ hP' Try.underlying82 rfl ?_ ?_; (rw [planC_size]; exact sizePlan)) | (refine wpList_store_row rfl 82 (.tmp 10) (.tmp 50) rfl w.heap.size rfl 82 Try.zeroCells82 (planC s f (.func (.func F) #[] #[]) (allT T s)) rfl kz ?_ ?_ (planC_one _ _ _ _ rfl) ?_; (rw [planZero_size, planC_size]); (rw [planC_size]; exact sizePlan); intro w7 hC7 hg7 hs7))
      exact bodyPost_ret (v := .tuple #[.agg (planC s f (.func (.func F) #[] #[]) (allT T s)), .bool true]) (results_cell_slot Try.results54 _ _ _ _ _ _ _ _ rfl rfl hC7 Try.underlying82 rfl (by rw [planC_size]; exact sizePlan)) rfl
        ⟨rfl, hB.grown hg7 hB.size (fun k h => by cases h; omega)⟩


end Go.Proofs.Ytmiefdjbhcpnbaa

namespace Go.Proofs.Ytmiefdjbhcpnbaa
open Go.RowKit

theorem lead_le (T : Tab) (x y face : Nat) : chLead T x y face ≤ 1 := by unfold chLead; split <;> omega
theorem foll_le (T : Tab) (x y face : Nat) : chFoll T x y face ≤ 1 := by unfold chFoll; split <;> omega
end Go.Proofs.Ytmiefdjbhcpnbaa

/- Several texts, one behind the other: C1c C1d C1h. -/
import Derived.Deep.QuietTactic
import Derived.BigQuiet
import Derived.Test.YtmiefdjbhcpnbaaZPCac
import Derived.Test.YtmiefdjbhcpnbaaZPCad

namespace Go.Proofs.Ytmiefdjbhcpnbaa
open Go.RowKit

theorem courseZero : Try.zeroCells42 = crsCells 0 0 0 (fun _ => 0) := by kernel_rfl
theorem run_buildCourse0 (w : World) : (Instr.build 42 #[]).run Try.prog w = .ok (.agg (crsCells 0 0 0 (fun _ => 0))) w := by kernel_rfl
theorem run_buildCourse (w : World) (a b c : Int) : (Instr.build 42 #[(0, .int .i64 a), (1, .int .i64 b), (2, .int .i64 c)]).run Try.prog w = .ok (.agg (crsCells a b c (fun _ => 0))) w := by kernel_rfl
theorem zset (a b c : Int) : ((Try.zeroCells42.setIfInBounds 0 (.int .i64 a)).setIfInBounds 1 (.int .i64 b)).setIfInBounds 2 (.int .i64 c) = crsCells a b c (fun _ => 0) := by kernel_rfl
theorem sizeCourse : (Try.prog.info? 42).map (·.size) = some 104 := by kernel_rfl

/-- Block g is a course: squares, faces, Over, and where a token goes from each square. -/
def CA (w : World) (g : Nat) (s f o : Int) (G : Nat → Int) : Prop := w.heap[g]? = some (.cells (crsCells s f o G) 42 (0, 0))

set_option maxHeartbeats 400000 in
theorem courseOf_no (s f o : Int) (A : Option Addr) (c : Nat) (js : List (Int × Int)) (w : World) (hj : RJ w w.heap.size A js) (hg : good ⟨s, f, o, js⟩ = false) :
    Calls Try.prog 37 #[.agg #[.int .i64 s, .int .i64 f, .int .i64 o, .slice A js.length c]] w fun e w' =>
      e = .returned (.tuple #[.agg (crsCells 0 0 0 (fun _ => 0)), .bool false]) ∧ Below w.heap.size w w' := by
  have hl := hj.1
  have HG := Lib.hid hg; clear hg
  have zs : Try.zeroCells42.size = 104 := by rw [courseZero, crs_size]
  have z1 : ∀ u ∈ Try.zeroCells42.toList, u.oneCell' = true := by rw [courseZero]; exact crs_one _ _ _ _
  go_enter Try.func37, Try.ntmps37
  go_wp2_with fail
  rw [courseZero]
  refine (implIsBoard_any _ _ _ _ _ _ _ (hj.go (below2 _ _ _))).mono ?_
  rintro e w1 ⟨rfl, hx⟩
  rw [HG.out]
  have hC : CA w1 (w.heap.size + 1) 0 0 0 (fun _ => 0) := (hx.block _ (by simp)).trans (heap_alloc_at _ _ _ (by simp))
  have hb : Below w.heap.size w w1 := (below2 _ _ _).trans (hx.mono (by simp; omega))
  go_wp2_with (refine wpList_store_row rfl 42 (.tmp 2) _ rfl (w.heap.size + 1) rfl _ _ Try.zeroCells42 rfl hC ?_ ?_ z1 ?_; (rw [zs, crs_size]); (rw [zs, sizeCourse]); intro w2 hC2 hg2 hs2)
  rw [courseZero] at hC2
  exact bodyPost_ret (v := .tuple #[.agg (crsCells 0 0 0 (fun _ => 0)), .bool false]) (results_cell_slot Try.results37 _ _ _ _ _ _ _ _ rfl rfl hC2 Try.underlying42 rfl (by rw [crs_size]; exact sizeCourse)) rfl
    ⟨rfl, hb.grown hg2 hb.size (fun k h => by cases h; omega)⟩

theorem crs_step_miss {js : List (Int × Int)} {k : Nat} (h : (jfrom js k).isSome = false) (i : Nat) : (if i = k then (k : Int) else if i < k then jumpOf js i else 0) = if i < k + 1 then jumpOf js i else 0 := by
  by_cases e : i = k
  · subst e; simp [jfrom_miss h]
  · have e2 : (i < k + 1) = (i < k) := by apply propext; omega
    simp [e, e2]
theorem crs_step_hit {s f o : Int} {js : List (Int × Int)} {k : Nat} (hg : good ⟨s, f, o, js⟩ = true) (h : (jfrom js k).isSome = true) (i : Nat) : (if i = k then (jfrom js k).getD 0 else if i = k then (k : Int) else if i < k then jumpOf js i else 0) = if i < k + 1 then jumpOf js i else 0 := by
  by_cases e : i = k
  · subst e; rw [jfrom_hit hg h]; simp
  · have e2 : (i < k + 1) = (i < k) := by apply propext; omega
    simp [e, e2]
set_option maxRecDepth 100000 in
set_option maxHeartbeats 400000 in
theorem courseOf_yes (s f o : Int) (A : Option Addr) (c : Nat) (js : List (Int × Int)) (w : World) (hj : RJ w w.heap.size A js) (hg : good ⟨s, f, o, js⟩ = true) :
    Calls Try.prog 37 #[.agg #[.int .i64 s, .int .i64 f, .int .i64 o, .slice A js.length c]] w fun e w' =>
      e = .returned (.tuple #[.agg (crsCells s f o (fun i => jumpOf js i)), .bool true]) ∧ Below w.heap.size w w' := by
  have hl := hj.1
  have hsz := good_sizes hg
  have HG := Lib.hid hg; clear hg
  have hb1 := run_buildCourse
  go_enter Try.func37, Try.ntmps37
  go_wp2_with fail
  rw [courseZero]
  refine (implIsBoard_any _ _ _ _ _ _ _ (hj.go (below2 _ _ _))).mono ?_
  rintro e w1 ⟨rfl, hx⟩
  rw [HG.out]
  have hC : CA w1 (w.heap.size + 1) 0 0 0 (fun _ => 0) := (hx.block _ (by simp)).trans (heap_alloc_at _ _ _ (by simp))
  have hb : Below (w.heap.size + 1) (w.alloc (.cells #[.int .i64 s, .int .i64 f, .int .i64 o, .slice A js.length c] 67)) w1 := ((Below.refl _ _).alloc (by simp) _).trans (hx.mono (by simp))
  have q := boxcells hb
  have hs1 : w.heap.size + 1 < w1.heap.size := by have := hx.size; simp at this; omega
  go_wp2_with (with_reducible show wpList _ _ _ ({ dst := none, op := .store 42 (.tmp 4) (.tmp 19), type := _, pos := _, after := _, guard := _ } :: _) _ _; go_loud (refine wpList_store_row rfl 42 (.tmp 4) _ rfl w1.heap.size rfl 42 _ (((Try.zeroCells42.setIfInBounds 0 (.int .i64 s)).setIfInBounds 1 (.int .i64 f)).setIfInBounds 2 (.int .i64 o)) rfl (heap_alloc_at _ _ _ rfl) ?_ ?_ ?_ ?_; (rw [zset, courseZero, crs_size, crs_size]); (rw [zset, crs_size]; exact sizeCourse); (rw [zset]; exact crs_one _ _ _ _); intro w2 hK hg2 hs2; simp only [World.size_alloc] at hs2; have hb2 : Below w1.heap.size w1 w2 := ((Below.refl _ _).alloc (Nat.le_refl _) _).grown hg2 (by simp) (fun k h => by cases h; exact Nat.le_refl _); have q2 := boxcells (box_on hb hb2 (by omega))))
  rw [zset] at hK
  have hj2 := hj.go ((below1 _ _).trans ((box_on hb hb2 (by omega)).mono (by omega)))
  refine (jumpsByFrom_any _ _ _ _ hj2).mono ?_
  rintro e w3 ⟨rfl, hm, hx3⟩
  have b12 : Below (w1.heap.size + 1) w2 w3 := hx3.mono (by omega)
  have C0 : CA w3 (w.heap.size + 1) 0 0 0 (fun _ => 0) := (b12.block _ (by omega)).trans ((hb2.block _ (by omega)).trans hC)
  have C1 : CA w3 w1.heap.size s f o (fun _ => 0) := (b12.block _ (by omega)).trans hK
  have B3 : Below w.heap.size w w3 := (below1 _ _).trans ((hb.trans ((hb2.mono (by omega)).trans (b12.mono (by omega)))).mono (by omega))
  rw [hs2] at hm ⊢
  clear hK hg2 hC q hj2 hs2 hx3
  go_wp2_with fail
  go_loopw [23] (fun i wr => ∃ k : Nat, k ≤ 101 ∧ i = .int .i64 k ∧ Below w.heap.size w wr ∧ CA wr (w.heap.size + 1) 0 0 0 (fun _ => 0) ∧ CA wr w1.heap.size s f o (fun j => if j < k then jumpOf js j else 0) ∧ IM Try.prog 3 3 wr (w1.heap.size + 1) js.length (jfrom js)) (fun i _ => 101 - (intOf i).toNat)
  case atStart => exact ⟨0, by omega, rfl, B3, C0, by simpa using C1, hm⟩
  case round =>
    clear hm C0 C1
    obtain ⟨k, hk, rfl, hb, C0, C1, hm⟩ := hrel
    by_cases hlt : k < 101
    · have d1 := (cell_of_row _ _ (3 + k) _ _ _ C1).trans (crs_at s f o _ k hlt)
      have d2 := frozen_row (i := 3 + k) C1
      cases hF : (jfrom js k).isSome
      · go_wp2_with (at_lookup; go_loud (refine IM.look rfl _ _ 93 rfl Try.underlying93 Try.underlying3 Try.underlying3 (zeroInt _) (hm.setCell _ _ (by dsimp only; omega)) _ rfl rfl (wfi_of (by omega) (by omega)) ?_))
        go_roundw
        case rel => exact ⟨k + 1, by omega, by go_num, hb.setCell (by dsimp only; omega) _, (Below.heap_setCell _ _ _ _ (by dsimp only; omega)).trans C0, (heap_set _ _ _ _ _ _ C1).trans (by rw [crs_set _ _ _ _ _ hlt]; exact congrArg (fun x => some (Obj.cells x _ (0, 0))) (crs_congr _ _ _ (fun i _ => crs_step_miss hF i))), hm.setCell _ _ (by dsimp only; omega)⟩
        case measure => simp [intOf]; omega
      · go_wp2_with (at_lookup; refine IM.look rfl _ _ 93 rfl Try.underlying93 Try.underlying3 Try.underlying3 (zeroInt _) (hm.setCell _ _ (by dsimp only; omega)) _ rfl rfl (wfi_of (by omega) (by omega)) ?_)
        go_roundw
        case rel => exact ⟨k + 1, by omega, by go_num, (hb.setCell (by dsimp only; omega) _).setCell (by dsimp only; omega) _, (Below.heap_setCell _ _ _ _ (by dsimp only; omega)).trans ((Below.heap_setCell _ _ _ _ (by dsimp only; omega)).trans C0), (heap_set _ _ _ _ _ _ (heap_set _ _ _ _ _ _ C1)).trans (by rw [crs_set _ _ _ _ _ hlt, crs_set _ _ _ _ _ hlt]; exact congrArg (fun x => some (Obj.cells x _ (0, 0))) (crs_congr _ _ _ (fun i _ => crs_step_hit HG.out hF i))), (hm.setCell _ _ (by dsimp only; omega)).setCell _ _ (by dsimp only; omega)⟩
        case measure => simp [intOf]; omega
    · obtain rfl : k = 101 := by omega
      have C2 : CA wr w1.heap.size s f o (fun j => jumpOf js j) := by
        have e : crsCells s f o (fun j => jumpOf js j) = crsCells s f o (fun j => if j < 101 then jumpOf js j else 0) := crs_congr _ _ _ (fun i hi => by simp [hi])
        unfold CA
        rw [e]
        exact C1
      clear C1
      go_wp2_with (first | (refine wpList_load_row rfl 42 (.tmp 4) rfl w1.heap.size rfl _ _ _ _ C2 Try.underlying42 rfl ?_ ?_; (rw [crs_size]; exact sizeCourse)) | (refine wpList_store_row rfl 42 (.tmp 2) (.tmp 42) rfl (w.heap.size + 1) rfl _ _ _ rfl C0 ?_ ?_ (crs_one _ _ _ _) ?_; (rw [crs_size, crs_size]); (rw [crs_size]; exact sizeCourse); intro w4 hC4 hg4 hs4))
      exact bodyPost_ret (v := .tuple #[.agg (crsCells s f o (fun i => jumpOf js i)), .bool true]) (results_cell_slot Try.results37 _ _ _ _ _ _ _ _ rfl rfl hC4 Try.underlying42 rfl (by rw [crs_size]; exact sizeCourse)) rfl
        ⟨rfl, hb.grown hg4 hb.size (fun k h => by cases h; omega)⟩
end Go.Proofs.Ytmiefdjbhcpnbaa

namespace Go.Proofs.Ytmiefdjbhcpnbaa
open Go.RowKit

theorem CA.at_ {w : World} {g : Nat} {s f o : Int} {G : Nat → Int} (h : CA w g s f o G) {i : Nat} (hi : i < 101) : w.cell? ⟨g, 3 + i, none⟩ = some (.int .i64 (G i)) := (cell_of_row _ _ (3 + i) _ _ _ h).trans (crs_at s f o _ i hi)
theorem CA.sq {w : World} {g : Nat} {s f o : Int} {G : Nat → Int} (h : CA w g s f o G) : w.cell? ⟨g, 0, none⟩ = some (.int .i64 s) := (cell_of_row _ _ 0 _ _ _ h).trans (crs_0 s f o _)
theorem CA.fa {w : World} {g : Nat} {s f o : Int} {G : Nat → Int} (h : CA w g s f o G) : w.cell? ⟨g, 1, none⟩ = some (.int .i64 f) := (cell_of_row _ _ 1 _ _ _ h).trans (crs_1 s f o _)
theorem CA.ov {w : World} {g : Nat} {s f o : Int} {G : Nat → Int} (h : CA w g s f o G) : w.cell? ⟨g, 2, none⟩ = some (.int .i64 o) := (cell_of_row _ _ 2 _ _ _ h).trans (crs_2 s f o _)
theorem CA.below {w w' : World} {g B : Nat} {s f o : Int} {G : Nat → Int} (h : CA w g s f o G) (hb : Below B w w') (hg : g < B) : CA w' g s f o G := (hb.block g hg).trans h
theorem CA.lt {w : World} {g : Nat} {s f o : Int} {G : Nat → Int} (h : CA w g s f o G) : g < w.heap.size := heap_lt h

/-- A course that lies at the start of block g, of a course's own or of a walk's. -/
structure CV (w : World) (g : Nat) (s f o : Int) (G : Nat → Int) : Prop where
  sq : w.cell? ⟨g, 0, none⟩ = some (.int .i64 s)
  fa : w.cell? ⟨g, 1, none⟩ = some (.int .i64 f)
  ov : w.cell? ⟨g, 2, none⟩ = some (.int .i64 o)
  at_ : ∀ {i : Nat}, i < 101 → w.cell? ⟨g, 3 + i, none⟩ = some (.int .i64 (G i))
theorem CA.cv {w : World} {g : Nat} {s f o : Int} {G : Nat → Int} (h : CA w g s f o G) : CV w g s f o G := ⟨h.sq, h.fa, h.ov, fun hi => h.at_ hi⟩

theorem CV.below {w w' : World} {g B : Nat} {s f o : Int} {G : Nat → Int} (h : CV w g s f o G) (hb : Below B w w') (hg : g < B) : CV w' g s f o G := ⟨(bcell hb hg).trans h.sq, (bcell hb hg).trans h.fa, (bcell hb hg).trans h.ov, fun hi => (bcell hb hg).trans (h.at_ hi)⟩
theorem CV.drewN {w : World} {g : Nat} {s f o : Int} {G : Nat → Int} (h : CV w g s f o G) (n : Nat) : CV (w.drewN n) g s f o G := ⟨h.sq, h.fa, h.ov, fun hi => h.at_ hi⟩




/-- A course is stored into the block that was made last. -/
theorem storeCourse (s f o : Int) (G : Nat → Int) (w : World) : (storeCells ⟨w.heap.size, 0, none⟩ (crsCells s f o G).toList 0).run Try.prog (w.alloc (.cells Try.zeroCells42 42)) = .ok () (w.alloc (.cells (crsCells s f o G) 42)) :=
  run_storeCells_new w _ _ _ (by rw [crs_size]; exact sizeCourse) (by rw [courseZero, crs_size, crs_size]) (Array.all_eq_true_iff_forall_mem.2 fun u hu => crs_one _ _ _ _ u (Array.mem_toList_iff.2 hu))


end Go.Proofs.Ytmiefdjbhcpnbaa

namespace Go.Proofs.Ytmiefdjbhcpnbaa
open Go.RowKit

theorem hasFace_any (g : Nat) (s f o : Int) (G : Nat → Int) (face : Int) (w : World) (hC : CV w g s f o G) :
    Calls Try.prog 56 #[.pointer (some ⟨g, 0, none⟩), .int .i64 face] w fun e w' => e = .returned (.bool (inB face 1 f)) ∧ w = w' := by
  have c0 := hC.fa
  by_cases h0 : 1 ≤ face
  · have g0 : decide ((1 : Int) ≤ face) = true := by simpa using h0
    go_enter Try.func56, Try.ntmps56
    go_wp2
    go_ret
    exact ⟨ret_bool (by simp [inB, h0]), rfl⟩
  · have g0 : decide ((1 : Int) ≤ face) = false := by simpa using h0
    go_enter Try.func56, Try.ntmps56
    go_wp2
    go_ret
    exact ⟨ret_bool (by rw [inB, g0, Bool.false_and]), rfl⟩
end Go.Proofs.Ytmiefdjbhcpnbaa

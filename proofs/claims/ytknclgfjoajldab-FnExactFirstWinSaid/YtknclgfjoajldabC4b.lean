/-
  Races: the program's contestOf; IsRace on both sides.
-/
import Derived.Test.YtknclgfjoajldabC4a
import Derived.Deep.CutRange
namespace Go.Proofs.Ytknclgfjoajldab
open Go.RowKit

section
variable {P : Program} {ops : Array Oper} {rest : List Oper} {o : Oper} {a : Act} {w : World} {Q : Exit → Act → World → Prop}
/-- A struct of many cells is built: what the instruction yields is told. -/
theorem wpList_build (hgd : o.guard = none) (t : TypeId) (l : List (Nat × Operand)) (ys : List (Nat × Value)) (v : Value) (hop : o.op = .build t l.toArray) (he : l.map (fun x => (x.1, a.eval x.2)) = ys)
    (hr : (Instr.build t ys.toArray).run P w = .ok v w) (h : wpList P ops Q rest (a.put o.dst v) w) : wpList P ops Q (o :: rest) a w := by
  refine wpList_plain hgd fun K hK => ?_
  rw [← he] at hr
  unfold Oper.wp execOp
  simp only [hop, List.map_toArray]
  simp [hr]
  exact hK _ _ h
end

/-- The cells of a contest: its course, whether tokens meet, and where both are. -/
def ctsCells (s f o : Int) (G : Nat → Int) (m : Bool) (x y : Int) : Array Value := crsCells s f o G ++ #[.bool m, .int .i64 x, .int .i64 y]
theorem cts_size (s f o : Int) (G : Nat → Int) (m : Bool) (x y : Int) : (ctsCells s f o G m x y).size = 107 := by simp [ctsCells, crs_size]
theorem cts_one (s f o : Int) (G : Nat → Int) (m : Bool) (x y : Int) : ∀ u ∈ (ctsCells s f o G m x y).toList, u.oneCell' = true := by
  intro u hu
  simp only [ctsCells, Array.toList_append, List.mem_append] at hu
  rcases hu with hu | hu
  · exact crs_one _ _ _ _ u hu
  · simp at hu
    rcases hu with rfl | rfl | rfl <;> rfl
theorem contestZero : Try.zeroCells85 = ctsCells 0 0 0 (fun _ => 0) false 0 0 := by kernel_rfl
theorem sizeContest : (Try.prog.info? 85).map (·.size) = some 107 := by kernel_rfl
theorem run_buildContest0 (w : World) : (Instr.build 85 #[]).run Try.prog w = .ok (.agg (ctsCells 0 0 0 (fun _ => 0) false 0 0)) w := by kernel_rfl
theorem run_buildContest (w : World) (s f o : Int) (G : Nat → Int) (m : Bool) (x y : Int) : (Instr.build 85 #[(0, .agg (crsCells s f o G)), (1, .bool m), (2, .agg #[.int .i64 x, .int .i64 y])]).run Try.prog w = .ok (.agg (ctsCells s f o G m x y)) w := by kernel_rfl
/-- Block g is a contest. -/
def NA (w : World) (g : Nat) (s f o : Int) (G : Nat → Int) (m : Bool) (x y : Int) : Prop := w.heap[g]? = some (.cells (ctsCells s f o G m x y) 85 (0, 0))

/-- What contestOf hands back. -/
def CtsBack (s f o : Int) (js : List (Int × Int)) (me fi ot : Int) (w : World) (e : Ending) (w' : World) : Prop :=
  e = .returned (.tuple #[.agg (if raceOk s f o js me fi ot then ctsCells s f o (fun i => jumpOf js i) (me == 1) fi ot else ctsCells 0 0 0 (fun _ => 0) false 0 0), .bool (raceOk s f o js me fi ot)]) ∧ Below w.heap.size w w'

theorem raceOk_parts {s f o me fi ot : Int} {js : List (Int × Int)} (h : raceOk s f o js me fi ot = true) : good ⟨s, f, o, js⟩ = true ∧ s ≤ 40 ∧ (0 ≤ me ∧ me ≤ 1) ∧ onSq s js fi = true ∧ onSq s js ot = true ∧ (fi < s ∨ ot < s) := by
  simp only [raceOk, Bool.and_eq_true, Bool.or_eq_true, decide_eq_true_eq, inB_iff] at h
  exact ⟨h.1, h.2.1, h.2.2.1, h.2.2.2.1, h.2.2.2.2.1, h.2.2.2.2.2⟩

set_option maxRecDepth 100000 in
set_option maxHeartbeats 400000 in
theorem contestOf_yes (s f o me fi ot : Int) (A : Option Addr) (c : Nat) (js : List (Int × Int)) (w : World) (hj : RJ w w.heap.size A js) (hr : raceOk s f o js me fi ot = true) :
    Calls Try.prog 53 #[.agg #[.int .i64 s, .int .i64 f, .int .i64 o, .slice A js.length c, .int .i64 me, .int .i64 fi, .int .i64 ot]] w fun e w' =>
      e = .returned (.tuple #[.agg (ctsCells s f o (fun i => jumpOf js i) (me == 1) fi ot), .bool true]) ∧ Below w.heap.size w w' := by
  have hl := hj.1
  obtain ⟨hg, h40, hme, ho1, ho2, hlt⟩ := raceOk_parts hr
  have hz := good_sizes hg
  have HG := Lib.hid hg
  have m0 : decide (me < 0) = false := by simp; omega
  have m1 : decide (1 < me) = false := by simp; omega
  have m2 : decide (40 < s) = false := by simp; omega
  have HO1 := Lib.hid ho1
  have HO2 := Lib.hid ho2
  clear hg hr ho1 ho2
  go_enter Try.func53, Try.ntmps53
  go_wp2_with fail
  refine (courseOf_yes _ _ _ _ _ _ _ (hj.go (below2 _ _ _)) HG.out).mono ?_
  rintro e w1 ⟨rfl, hx⟩
  have hbx : Below (w.heap.size + 1) (w.alloc (.cells #[.int .i64 s, .int .i64 f, .int .i64 o, .slice A js.length c, .int .i64 me, .int .i64 fi, .int .i64 ot] 48)) w1 := ((Below.refl _ _).alloc (by simp) _).trans (hx.mono (by simp))
  have hC : NA w1 (w.heap.size + 1) 0 0 0 (fun _ => 0) false 0 0 := (hx.block _ (by simp)).trans (by rw [contestZero]; exact heap_alloc_at _ _ _ (by simp))
  have hst := storeCourse s f o (fun i => jumpOf js i)
  have hs1 : w.heap.size + 1 < w1.heap.size := by have := hx.size; simp at this; omega
  have hCn : CA (w1.alloc (.cells (crsCells s f o (fun i => jumpOf js i)) 57)) w1.heap.size s f o (fun i => jumpOf js i) := heap_alloc_at _ _ _ rfl
  have hCo : NA (w1.alloc (.cells (crsCells s f o (fun i => jumpOf js i)) 57)) (w.heap.size + 1) 0 0 0 (fun _ => 0) false 0 0 := (Below.heap_alloc _ _ _ hs1).trans hC
  have hb2 := hbx.alloc (by omega) (.cells (crsCells s f o (fun i => jumpOf js i)) 57)
  have q := boxcells hb2
  have c0 := hCn.sq
  have hxx := ((below2 w _ _).trans (hx.mono (by simp; omega))).alloc (by omega) (.cells (crsCells s f o (fun i => jumpOf js i)) 57)
  clear hx hC hbx hb2
  have hCu : (w1.alloc (.cells (crsCells s f o (fun i => jumpOf js i)) 57)).heap[w1.heap.size]? = some (.cells (crsCells s f o (fun i => jumpOf js i)) 57 (0, 0)) := hCn
  have hCv : (w1.alloc (.cells (crsCells s f o (fun i => jumpOf js i)) 57)).heap[w.heap.size + 1]? = some (.cells (ctsCells 0 0 0 (fun _ => 0) false 0 0) 85 (0, 0)) := hCo
  have hqf : (fi == s) = true → (ot == s) = false := fun h => by simp at h ⊢; omega
  cases e1 : (fi == s)
  all_goals
    (first | (have e2 := hqf e1) | skip)
    clear hqf
    go_upto_region 8 with (first | (go_at_call 67; refine (holds_any _ _ _ _ _ _ _ hCn.cv hz.1.2).mono ?_; rintro e w2 ⟨rfl, rfl⟩; (first | rw [HO1.out] | rw [HO2.out])))
    go_wp2_with (first | (with_reducible show wpList _ _ _ ({ dst := some 55, op := .load 57 (.tmp 4), type := _, pos := _, after := _, guard := _ } :: _) _ _; go_loud (refine wpList_load_row rfl 57 (.tmp 4) rfl w1.heap.size rfl _ _ _ _ hCu Try.underlying57 rfl ?_ ?_; (rw [crs_size]; exact sizeCourse))) | (with_reducible show wpList _ _ _ ({ dst := some 64, op := .build _ _, type := _, pos := _, after := _, guard := _ } :: _) _ _; go_loud (refine wpList_build rfl 85 [(0, .tmp 55), (1, .tmp 58), (2, .tmp 63)] [(0, .agg (crsCells s f o (fun i => jumpOf js i))), (1, .bool (me == 1)), (2, .agg #[.int .i64 fi, .int .i64 ot])] _ rfl rfl (run_buildContest _ _ _ _ _ _ _ _) ?_)) | (with_reducible show wpList _ _ _ ({ dst := none, op := .store 85 (.tmp 2) (.tmp 64), type := _, pos := _, after := _, guard := _ } :: _) _ _; go_loud (refine wpList_store_row rfl 85 (.tmp 2) (.tmp 64) rfl (w.heap.size + 1) rfl _ _ _ rfl hCv ?_ ?_ (cts_one _ _ _ _ _ _ _) ?_; (rw [cts_size, cts_size]); (rw [cts_size]; exact sizeContest); intro w4 hC4 hg4 hs4)))
    exact bodyPost_ret (v := .tuple #[.agg (ctsCells s f o (fun i => jumpOf js i) (me == 1) fi ot), .bool true]) (results_cell_slot Try.results53 _ _ _ _ _ _ _ _ rfl rfl hC4 Try.underlying85 rfl (by rw [cts_size]; exact sizeContest)) rfl
      ⟨rfl, hxx.grown hg4 (by simp; omega) (fun k h => by cases h; omega)⟩

set_option maxRecDepth 100000 in
set_option maxHeartbeats 800000 in
theorem contestOf_no (s f o me fi ot : Int) (A : Option Addr) (c : Nat) (js : List (Int × Int)) (w : World) (hj : RJ w w.heap.size A js) (hr : raceOk s f o js me fi ot = false) :
    Calls Try.prog 53 #[.agg #[.int .i64 s, .int .i64 f, .int .i64 o, .slice A js.length c, .int .i64 me, .int .i64 fi, .int .i64 ot]] w fun e w' =>
      e = .returned (.tuple #[.agg (ctsCells 0 0 0 (fun _ => 0) false 0 0), .bool false]) ∧ Below w.heap.size w w' := by
  have hl := hj.1
  have h0 : ((w.alloc (.cells #[.int .i64 s, .int .i64 f, .int .i64 o, .slice A js.length c, .int .i64 me, .int .i64 fi, .int .i64 ot] 48)).alloc (.cells Try.zeroCells85 85)).heap[w.heap.size + 1]? = some (.cells (ctsCells 0 0 0 (fun _ => 0) false 0 0) 85 (0, 0)) := by rw [contestZero]; exact heap_alloc_at _ _ _ (by simp)
  by_cases hm0 : me < 0
  · have m0 : decide (me < 0) = true := by simpa using hm0
    clear hr
    go_enter Try.func53, Try.ntmps53
    go_wp2_with (first | (with_reducible show wpList _ _ _ ({ dst := _, op := .build 85 _, type := _, pos := _, after := _, guard := _ } :: _) _ _; refine wpList_build rfl 85 [] [] _ rfl rfl (run_buildContest0 _) ?_) | (with_reducible show wpList _ _ _ ({ dst := none, op := .store 85 (.tmp 2) _, type := _, pos := _, after := _, guard := _ } :: _) _ _; refine wpList_store_row rfl 85 (.tmp 2) _ rfl (w.heap.size + 1) rfl _ _ (ctsCells 0 0 0 (fun _ => 0) false 0 0) rfl h0 ?_ ?_ (cts_one _ _ _ _ _ _ _) ?_; (exact rfl); (rw [cts_size]; exact sizeContest); intro w4 hC4 hg4 hs4))
    exact bodyPost_ret (v := .tuple #[.agg (ctsCells 0 0 0 (fun _ => 0) false 0 0), .bool false]) (results_cell_slot Try.results53 _ _ _ _ _ _ _ _ rfl rfl hC4 Try.underlying85 rfl (by rw [cts_size]; exact sizeContest)) rfl
      ⟨rfl, (below2 w _ _).grown hg4 (by simp; omega) (fun k h => by cases h; omega)⟩
  by_cases hm1 : 1 < me
  · have m0 : decide (me < 0) = false := by simpa using hm0
    have m1 : decide (1 < me) = true := by simpa using hm1
    clear hr
    go_enter Try.func53, Try.ntmps53
    go_wp2_with (first | (with_reducible show wpList _ _ _ ({ dst := _, op := .build 85 _, type := _, pos := _, after := _, guard := _ } :: _) _ _; refine wpList_build rfl 85 [] [] _ rfl rfl (run_buildContest0 _) ?_) | (with_reducible show wpList _ _ _ ({ dst := none, op := .store 85 (.tmp 2) _, type := _, pos := _, after := _, guard := _ } :: _) _ _; refine wpList_store_row rfl 85 (.tmp 2) _ rfl (w.heap.size + 1) rfl _ _ (ctsCells 0 0 0 (fun _ => 0) false 0 0) rfl h0 ?_ ?_ (cts_one _ _ _ _ _ _ _) ?_; (exact rfl); (rw [cts_size]; exact sizeContest); intro w4 hC4 hg4 hs4))
    exact bodyPost_ret (v := .tuple #[.agg (ctsCells 0 0 0 (fun _ => 0) false 0 0), .bool false]) (results_cell_slot Try.results53 _ _ _ _ _ _ _ _ rfl rfl hC4 Try.underlying85 rfl (by rw [cts_size]; exact sizeContest)) rfl
      ⟨rfl, (below2 w _ _).grown hg4 (by simp; omega) (fun k h => by cases h; omega)⟩
  by_cases h40 : 40 < s
  · have m0 : decide (me < 0) = false := by simpa using hm0
    have m1 : decide (1 < me) = false := by simpa using hm1
    have m2 : decide (40 < s) = true := by simpa using h40
    clear hr
    go_enter Try.func53, Try.ntmps53
    go_wp2_with (first | (with_reducible show wpList _ _ _ ({ dst := _, op := .build 85 _, type := _, pos := _, after := _, guard := _ } :: _) _ _; refine wpList_build rfl 85 [] [] _ rfl rfl (run_buildContest0 _) ?_) | (with_reducible show wpList _ _ _ ({ dst := none, op := .store 85 (.tmp 2) _, type := _, pos := _, after := _, guard := _ } :: _) _ _; refine wpList_store_row rfl 85 (.tmp 2) _ rfl (w.heap.size + 1) rfl _ _ (ctsCells 0 0 0 (fun _ => 0) false 0 0) rfl h0 ?_ ?_ (cts_one _ _ _ _ _ _ _) ?_; (exact rfl); (rw [cts_size]; exact sizeContest); intro w4 hC4 hg4 hs4))
    exact bodyPost_ret (v := .tuple #[.agg (ctsCells 0 0 0 (fun _ => 0) false 0 0), .bool false]) (results_cell_slot Try.results53 _ _ _ _ _ _ _ _ rfl rfl hC4 Try.underlying85 rfl (by rw [cts_size]; exact sizeContest)) rfl
      ⟨rfl, (below2 w _ _).grown hg4 (by simp; omega) (fun k h => by cases h; omega)⟩
  have m0 : decide (me < 0) = false := by simpa using hm0
  have m1 : decide (1 < me) = false := by simpa using hm1
  have m2 : decide (40 < s) = false := by simpa using h40
  cases hg : good ⟨s, f, o, js⟩
  · have HG := Lib.hid hg
    clear hr hg
    go_enter Try.func53, Try.ntmps53
    go_wp2_with fail
    refine (courseOf_no _ _ _ _ _ _ _ (hj.go (below2 _ _ _)) HG.out).mono ?_
    rintro e w1 ⟨rfl, hx⟩
    have hC := (hx.block (w.heap.size + 1) (by simp)).trans h0
    have hs1 : w.heap.size + 1 < w1.heap.size := by have := hx.size; simp at this; omega
    have hst := storeCourse 0 0 0 (fun _ => 0)
    have hCv := (Below.heap_alloc w1 (.cells (crsCells 0 0 0 (fun _ => 0)) 57) _ hs1).trans hC
    have hxx := ((below2 w _ _).trans (hx.mono (by simp; omega))).alloc (by omega) (.cells (crsCells 0 0 0 (fun _ => 0)) 57)
    clear h0 hx hC
    go_wp2_with (first | (with_reducible show wpList _ _ _ ({ dst := _, op := .build 85 _, type := _, pos := _, after := _, guard := _ } :: _) _ _; refine wpList_build rfl 85 [] [] _ rfl rfl (run_buildContest0 _) ?_) | (with_reducible show wpList _ _ _ ({ dst := none, op := .store 85 (.tmp 2) _, type := _, pos := _, after := _, guard := _ } :: _) _ _; refine wpList_store_row rfl 85 (.tmp 2) _ rfl (w.heap.size + 1) rfl _ _ (ctsCells 0 0 0 (fun _ => 0) false 0 0) rfl hCv ?_ ?_ (cts_one _ _ _ _ _ _ _) ?_; (exact rfl); (rw [cts_size]; exact sizeContest); intro w4 hC4 hg4 hs4))
    exact bodyPost_ret (v := .tuple #[.agg (ctsCells 0 0 0 (fun _ => 0) false 0 0), .bool false]) (results_cell_slot Try.results53 _ _ _ _ _ _ _ _ rfl rfl hC4 Try.underlying85 rfl (by rw [cts_size]; exact sizeContest)) rfl
      ⟨rfl, hxx.grown hg4 (by simp; omega) (fun k h => by cases h; omega)⟩
  have hz := good_sizes hg
  have hr2 : ¬ (onSq s js fi = true ∧ onSq s js ot = true ∧ (fi < s ∨ ot < s)) := fun h => by
    have : raceOk s f o js me fi ot = true := by
      simp only [raceOk, Bool.and_eq_true, Bool.or_eq_true, decide_eq_true_eq, inB_iff]
      exact ⟨hg, by omega, by omega, h.1, h.2.1, h.2.2⟩
    rw [hr] at this
    cases this
  have HG := Lib.hid hg
  clear hr hg
  have hcase : onSq s js fi = false ∨ (onSq s js fi = true ∧ onSq s js ot = false) ∨ (onSq s js fi = true ∧ onSq s js ot = true ∧ (fi == s) = true ∧ (ot == s) = true) := by
    cases ho1 : onSq s js fi
    · exact .inl rfl
    · cases ho2 : onSq s js ot
      · exact .inr (.inl ⟨rfl, rfl⟩)
      · refine .inr (.inr ⟨rfl, rfl, ?_⟩)
        have a1 := onSq_in ho1
        have a2 := onSq_in ho2
        by_cases b1 : fi < s
        · exact absurd ⟨ho1, ho2, .inl b1⟩ hr2
        · by_cases b2 : ot < s
          · exact absurd ⟨ho1, ho2, .inr b2⟩ hr2
          · exact ⟨beq_iff_eq.2 (by omega), beq_iff_eq.2 (by omega)⟩
  clear hr2
  rcases hcase with ho1 | ⟨ho1, ho2⟩ | ⟨ho1, ho2, e1, e2⟩
  all_goals
    have HO1 := Lib.hid ho1
    (try (have HO2 := Lib.hid ho2; clear ho2))
    clear ho1
    go_enter Try.func53, Try.ntmps53
    go_wp2_with fail
    refine (courseOf_yes _ _ _ _ _ _ _ (hj.go (below2 _ _ _)) HG.out).mono ?_
    rintro e w1 ⟨rfl, hx⟩
    have hC := (hx.block (w.heap.size + 1) (by simp)).trans h0
    have hbx : Below (w.heap.size + 1) (w.alloc (.cells #[.int .i64 s, .int .i64 f, .int .i64 o, .slice A js.length c, .int .i64 me, .int .i64 fi, .int .i64 ot] 48)) w1 := ((Below.refl _ _).alloc (by simp) _).trans (hx.mono (by simp))
    have hst := storeCourse s f o (fun i => jumpOf js i)
    have hs1 : w.heap.size + 1 < w1.heap.size := by have := hx.size; simp at this; omega
    have hCn : CA (w1.alloc (.cells (crsCells s f o (fun i => jumpOf js i)) 57)) w1.heap.size s f o (fun i => jumpOf js i) := heap_alloc_at _ _ _ rfl
    have hCv := (Below.heap_alloc w1 (.cells (crsCells s f o (fun i => jumpOf js i)) 57) _ hs1).trans hC
    have hb2 := hbx.alloc (by omega) (.cells (crsCells s f o (fun i => jumpOf js i)) 57)
    have q := boxcells hb2
    have c0 := hCn.sq
    have hxx := ((below2 w _ _).trans (hx.mono (by simp; omega))).alloc (by omega) (.cells (crsCells s f o (fun i => jumpOf js i)) 57)
    clear h0 hx hC hbx hb2
    go_wp2_with (first | (go_at_call 67; refine (holds_any _ _ _ _ _ _ _ hCn.cv hz.1.2).mono ?_; rintro e w2 ⟨rfl, rfl⟩; (first | rw [HO1.out] | rw [HO2.out])) | (with_reducible show wpList _ _ _ ({ dst := _, op := .build 85 _, type := _, pos := _, after := _, guard := _ } :: _) _ _; refine wpList_build rfl 85 [] [] _ rfl rfl (run_buildContest0 _) ?_) | (with_reducible show wpList _ _ _ ({ dst := none, op := .store 85 (.tmp 2) _, type := _, pos := _, after := _, guard := _ } :: _) _ _; refine wpList_store_row rfl 85 (.tmp 2) _ rfl (w.heap.size + 1) rfl _ _ (ctsCells 0 0 0 (fun _ => 0) false 0 0) rfl hCv ?_ ?_ (cts_one _ _ _ _ _ _ _) ?_; (exact rfl); (rw [cts_size]; exact sizeContest); intro w4 hC4 hg4 hs4))
    exact bodyPost_ret (v := .tuple #[.agg (ctsCells 0 0 0 (fun _ => 0) false 0 0), .bool false]) (results_cell_slot Try.results53 _ _ _ _ _ _ _ _ rfl rfl hC4 Try.underlying85 rfl (by rw [cts_size]; exact sizeContest)) rfl
      ⟨rfl, hxx.grown hg4 (by simp; omega) (fun k h => by cases h; omega)⟩

theorem contestOf_any (s f o me fi ot : Int) (A : Option Addr) (c : Nat) (js : List (Int × Int)) (w : World) (hj : RJ w w.heap.size A js) :
    Calls Try.prog 53 #[.agg #[.int .i64 s, .int .i64 f, .int .i64 o, .slice A js.length c, .int .i64 me, .int .i64 fi, .int .i64 ot]] w (CtsBack s f o js me fi ot w) := by
  cases hr : raceOk s f o js me fi ot
  · exact (contestOf_no s f o me fi ot A c js w hj hr).mono fun e w' h => by
      unfold CtsBack
      rw [hr]
      exact h
  · exact (contestOf_yes s f o me fi ot A c js w hj hr).mono fun e w' h => by
      unfold CtsBack
      rw [hr]
      exact h
end Go.Proofs.Ytknclgfjoajldab

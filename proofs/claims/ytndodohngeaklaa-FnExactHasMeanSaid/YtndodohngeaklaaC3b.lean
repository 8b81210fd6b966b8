/-
  HasMean: both contracts.
-/
import Derived.Test.YtndodohngeaklaaC3a
namespace Go.Proofs.Ytndodohngeaklaa
open Go.RowKit

def BoolIs (w : World) (R : Bool × Bool) (e : Ending) (w' : World) : Prop := e = .returned (.tuple #[.bool R.1, .bool R.2]) ∧ Below w.heap.size w w'

set_option maxRecDepth 100000 in
theorem courseForMeans_no (s f o : Int) (A : Option Addr) (c : Nat) (js : List (Int × Int)) (w : World) (hj : RJ w w.heap.size A js) (hg : few s f o js = false) :
    Calls Try.prog 53 #[.agg #[.int .i64 s, .int .i64 f, .int .i64 o, .slice A js.length c]] w fun e w' =>
      e = .returned (.tuple #[.agg (crsCells 0 0 0 (fun _ => 0)), .bool false]) ∧ Below w.heap.size w w' := by
  have hl := hj.1
  have zs : Try.zeroCells58.size = 104 := by rw [courseZero, crs_size]
  have z1 : ∀ u ∈ Try.zeroCells58.toList, u.oneCell' = true := by rw [courseZero]; exact crs_one _ _ _ _
  have hb0 := run_buildCourse0
  by_cases h9 : 9 < s
  · clear hg
    go_enter Try.func53, Try.ntmps53
    have hC : CA ((w.alloc (.cells #[.int .i64 s, .int .i64 f, .int .i64 o, .slice A js.length c] 30)).alloc (.cells Try.zeroCells58 58)) (w.heap.size + 1) 0 0 0 (fun _ => 0) := by rw [courseZero]; exact heap_alloc_at _ _ _ (by simp)
    go_wp2_with (refine wpList_store_row rfl 58 (.tmp 2) _ rfl (w.heap.size + 1) rfl _ _ Try.zeroCells58 rfl hC ?_ ?_ z1 ?_; (rw [zs, crs_size]); (rw [zs, sizeCourse]); intro w2 hC2 hg2 hs2)
    rw [courseZero] at hC2
    exact bodyPost_ret (v := .tuple #[.agg (crsCells 0 0 0 (fun _ => 0)), .bool false]) (results_cell_slot Try.results53 _ _ _ _ _ _ _ _ rfl rfl hC2 Try.underlying58 rfl (by rw [crs_size]; exact sizeCourse)) rfl
      ⟨rfl, (below2 _ _ _).grown hg2 (by simp; omega) (fun k h => by cases h; omega)⟩
  · have hgd : good ⟨s, f, o, js⟩ = false := by
      cases h : good ⟨s, f, o, js⟩
      · rfl
      · rw [few, h, Bool.true_and] at hg; simp at hg; omega
    have HG := Lib.hid hgd; clear hgd hg
    go_enter Try.func53, Try.ntmps53
    go_wp2_with fail
    rw [courseZero]
    refine (courseOf_no _ _ _ _ _ _ _ (hj.go (below2 _ _ _)) HG.out).mono ?_
    rintro e w1 ⟨rfl, hx⟩
    have hC : CA w1 (w.heap.size + 1) 0 0 0 (fun _ => 0) := (hx.block _ (by simp)).trans (heap_alloc_at _ _ _ (by simp))
    have hb : Below w.heap.size w w1 := (below2 _ _ _).trans (hx.mono (by simp; omega))
    go_wp2_with (go_loud (refine wpList_store_row rfl 58 (.tmp 2) (.tmp 10) rfl (w.heap.size + 1) rfl 58 (crsCells 0 0 0 (fun _ => 0)) (crsCells 0 0 0 (fun _ => 0)) rfl hC ?_ ?_ (crs_one _ _ _ _) ?_; (rw [crs_size]); (rw [crs_size]; exact sizeCourse); intro w2 hC2 hg2 hs2))
    exact bodyPost_ret (v := .tuple #[.agg (crsCells 0 0 0 (fun _ => 0)), .bool false]) (results_cell_slot Try.results53 _ _ _ _ _ _ _ _ rfl rfl hC2 Try.underlying58 rfl (by rw [crs_size]; exact sizeCourse)) rfl
      ⟨rfl, hb.grown hg2 hb.size (fun k h => by cases h; omega)⟩

set_option maxRecDepth 100000 in
theorem courseForMeans_yes (s f o : Int) (A : Option Addr) (c : Nat) (js : List (Int × Int)) (w : World) (hj : RJ w w.heap.size A js) (hg : few s f o js = true) :
    Calls Try.prog 53 #[.agg #[.int .i64 s, .int .i64 f, .int .i64 o, .slice A js.length c]] w fun e w' =>
      e = .returned (.tuple #[.agg (crsCells s f o (fun i => jumpOf js i)), .bool true]) ∧ Below w.heap.size w w' := by
  have hl := hj.1
  have h9 : ¬ 9 < s := by have := (few_good hg).2; omega
  have HG := Lib.hid (few_good hg).1; clear hg
  go_enter Try.func53, Try.ntmps53
  go_wp2_with fail
  rw [courseZero]
  refine (courseOf_yes _ _ _ _ _ _ _ (hj.go (below2 _ _ _)) HG.out).mono ?_
  rintro e w1 ⟨rfl, hx⟩
  have hC : CA w1 (w.heap.size + 1) 0 0 0 (fun _ => 0) := (hx.block _ (by simp)).trans (heap_alloc_at _ _ _ (by simp))
  have hb : Below w.heap.size w w1 := (below2 _ _ _).trans (hx.mono (by simp; omega))
  go_wp2_with (refine wpList_store_row rfl 58 (.tmp 2) (.tmp 10) rfl (w.heap.size + 1) rfl _ _ _ rfl hC ?_ ?_ (crs_one _ _ _ _) ?_; (rw [crs_size, crs_size]); (rw [crs_size]; exact sizeCourse); intro w2 hC2 hg2 hs2)
  exact bodyPost_ret (v := .tuple #[.agg (crsCells s f o (fun i => jumpOf js i)), .bool true]) (results_cell_slot Try.results53 _ _ _ _ _ _ _ _ rfl rfl hC2 Try.underlying58 rfl (by rw [crs_size]; exact sizeCourse)) rfl
    ⟨rfl, hb.grown hg2 hb.size (fun k h => by cases h; omega)⟩

set_option maxRecDepth 100000 in
theorem specHasMean_no (s f o : Int) (A : Option Addr) (c : Nat) (sq : Int) (js : List (Int × Int)) (w : World) (hj : RJ w w.heap.size A js) (ha : fewSq s f o js sq = false) :
    Calls Try.prog 26 #[.agg #[.int .i64 s, .int .i64 f, .int .i64 o, .slice A js.length c], .int .i64 sq] w (BoolIs w (false, false)) := by
  have hl := hj.1
  have HA := Lib.hid ha; clear ha
  go_enter Try.func26, Try.ntmps26
  go_wp2_with (go_at_call 51; refine (meAsked_any _ _ _ _ _ _ _ _ (hj.go (below1 _ _))).mono ?_; rintro e w2 ⟨rfl, hx⟩; rw [HA.out])
  go_ret2
  exact ⟨rfl, (below1 _ _).trans (hx.mono (by simp))⟩

set_option maxRecDepth 100000 in
theorem specHasMean_yes (s f o : Int) (A : Option Addr) (c : Nat) (q : Nat) (js : List (Int × Int)) (h : Bool) (w : World) (hj : RJ w w.heap.size A js) (ha : fewSq s f o js q = true) (hh : h = true ↔ HasM s f o js q) :
    Calls Try.prog 26 #[.agg #[.int .i64 s, .int .i64 f, .int .i64 o, .slice A js.length c], .int .i64 q] w (BoolIs w (h, true)) := by
  have hl := hj.1
  have HA := Lib.hid ha; have HH := Lib.hid hh; clear ha hh
  go_enter Try.func26, Try.ntmps26
  go_wp2_with fail
  refine (meAsked_any _ _ _ _ _ _ _ _ (hj.go (below1 _ _))).mono ?_
  rintro e w2 ⟨rfl, hx⟩
  rw [HA.out]
  have hb := box_on (Below.refl _ _) hx (by simp)
  have bc := boxcells hb
  have hB2 := (below1 w (.cells #[.int .i64 s, .int .i64 f, .int .i64 o, .slice A js.length c] 30)).trans (hb.mono (by omega))
  go_wp2_with fail
  refine (meHas_any _ _ _ _ _ _ _ _ _ (hj.go hB2) (fewSq_asked HA.out).1 HH.out).mono ?_
  rintro e w3 ⟨rfl, hx3⟩
  go_wp2
  go_ret2
  exact ⟨rfl, hB2.trans (hx3.mono hB2.size)⟩

set_option maxRecDepth 100000 in
theorem implHasMean_no (s f o : Int) (A : Option Addr) (c : Nat) (sq : Int) (js : List (Int × Int)) (w : World) (hj : RJ w w.heap.size A js) (ha : fewSq s f o js sq = false) :
    Calls Try.prog 27 #[.agg #[.int .i64 s, .int .i64 f, .int .i64 o, .slice A js.length c], .int .i64 sq] w (BoolIs w (false, false)) := by
  have hl := hj.1
  cases hf : few s f o js
  · have hst := storeCourse 0 0 0 (fun _ => 0)
    have HF := Lib.hid hf; clear hf ha
    go_enter Try.func27, Try.ntmps27
    go_wp2_with fail
    refine (courseForMeans_no _ _ _ _ _ _ _ (hj.go (below1 _ _)) HF.out).mono ?_
    rintro e w2 ⟨rfl, hx⟩
    go_wp2
    go_ret2
    exact ⟨rfl, ((below1 _ _).trans (hx.mono (by simp))).alloc (by have := hx.size; simp at this; omega) _⟩
  · have hst := storeCourse s f o (fun i => jumpOf js i)
    have hon : onSq s js sq = false := by rw [fewSq, hf, Bool.true_and] at ha; exact ha
    have hz := (few_good hf).2
    have HF := Lib.hid hf; have HO := Lib.hid hon; clear hf ha hon
    go_enter Try.func27, Try.ntmps27
    go_wp2_with fail
    refine (courseForMeans_yes _ _ _ _ _ _ _ (hj.go (below1 _ _)) HF.out).mono ?_
    rintro e w2 ⟨rfl, hx⟩
    have hCn : CA (w2.alloc (.cells (crsCells s f o (fun i => jumpOf js i)) 58)) w2.heap.size s f o (fun i => jumpOf js i) := heap_alloc_at _ _ _ rfl
    go_wp2_with (go_at_call 34; refine (holds_any _ _ _ _ _ _ _ hCn.cv (by omega)).mono ?_; rintro e w' ⟨rfl, rfl⟩; rw [HO.out])
    go_ret2
    exact ⟨rfl, ((below1 _ _).trans (hx.mono (by simp))).alloc (by have := hx.size; simp at this; omega) _⟩

set_option maxRecDepth 100000 in
theorem implHasMean_yes (s f o : Int) (A : Option Addr) (c : Nat) (q : Nat) (js : List (Int × Int)) (h : Bool) (w : World) (hj : RJ w w.heap.size A js) (ha : fewSq s f o js q = true) (hh : h = true ↔ HasM s f o js q) :
    Calls Try.prog 27 #[.agg #[.int .i64 s, .int .i64 f, .int .i64 o, .slice A js.length c], .int .i64 q] w (BoolIs w (h, true)) := by
  have hl := hj.1
  have hst := storeCourse s f o (fun i => jumpOf js i)
  have hfs := ha
  simp only [fewSq, Bool.and_eq_true] at hfs
  have hz := (few_good hfs.1).2
  have HF := Lib.hid hfs.1; have HO := Lib.hid hfs.2; have HA := Lib.hid (fewSq_asked ha).1; have HH := Lib.hid hh; clear ha hh hfs
  go_enter Try.func27, Try.ntmps27
  go_wp2_with fail
  refine (courseForMeans_yes _ _ _ _ _ _ _ (hj.go (below1 _ _)) HF.out).mono ?_
  rintro e w2 ⟨rfl, hx⟩
  have hCn : CA (w2.alloc (.cells (crsCells s f o (fun i => jumpOf js i)) 58)) w2.heap.size s f o (fun i => jumpOf js i) := heap_alloc_at _ _ _ rfl
  have hB : Below w.heap.size w (w2.alloc (.cells (crsCells s f o (fun i => jumpOf js i)) 58)) := ((below1 _ _).trans (hx.mono (by simp))).alloc (by have := hx.size; simp at this; omega) _
  go_wp2_with (go_at_call 34; refine (holds_any _ _ _ _ _ _ _ hCn.cv (by omega)).mono ?_; rintro e w' ⟨rfl, rfl⟩; rw [HO.out])
  refine (hasMean_any _ _ _ _ _ _ _ _ hCn.cv hCn.lt HA.out HH.out).mono ?_
  rintro e w3 ⟨rfl, hx3⟩
  go_wp2
  go_ret2
  exact ⟨rfl, hB.trans (hx3.mono hB.size)⟩

theorem hasMean_both (s f o : Int) (js : List (Int × Int)) (sq : Int) : ∃ (x ok : Bool),
    (∀ (A : Option Addr) (c : Nat) (W : World), RJ W W.heap.size A js → Calls Try.prog 26 #[.agg #[.int .i64 s, .int .i64 f, .int .i64 o, .slice A js.length c], .int .i64 sq] W (BoolIs W (x, ok))) ∧
    (∀ (A : Option Addr) (c : Nat) (W : World), RJ W W.heap.size A js → Calls Try.prog 27 #[.agg #[.int .i64 s, .int .i64 f, .int .i64 o, .slice A js.length c], .int .i64 sq] W (BoolIs W (x, ok))) := by
  cases h : fewSq s f o js sq
  · exact ⟨false, false, fun A c W hj => specHasMean_no s f o A c sq js W hj h, fun A c W hj => implHasMean_no s f o A c sq js W hj h⟩
  · obtain ⟨q, rfl⟩ := Int.eq_ofNat_of_zero_le (onSq_in (asked_on (fewSq_asked h).1)).1
    obtain ⟨b, hb⟩ : ∃ b : Bool, b = true ↔ HasM s f o js q := ⟨@decide _ (Classical.propDecidable (HasM s f o js q)), by simp⟩
    exact ⟨b, true, fun A c W hj => specHasMean_yes s f o A c q js b W hj h hb, fun A c W hj => implHasMean_yes s f o A c q js b W hj h hb⟩
end Go.Proofs.Ytndodohngeaklaa

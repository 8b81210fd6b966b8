/-
  The methods of a course: holds, hasFace, behind.
-/
import Derived.Test.YteogfondnpfklaaC1c
import Derived.Deep.QuietTactic
import Derived.BigQuiet
namespace Go.Proofs.Yteogfondnpfklaa
open Go.RowKit

theorem CA.at_ {w : World} {g : Nat} {s f o : Int} {G : Nat → Int} (h : CA w g s f o G) {i : Nat} (hi : i < 101) : w.cell? ⟨g, 3 + i, none⟩ = some (.int .i64 (G i)) := (cell_of_row _ _ (3 + i) _ _ _ h).trans (crs_at s f o _ i hi)
theorem CA.sq {w : World} {g : Nat} {s f o : Int} {G : Nat → Int} (h : CA w g s f o G) : w.cell? ⟨g, 0, none⟩ = some (.int .i64 s) := (cell_of_row _ _ 0 _ _ _ h).trans (crs_0 s f o _)
theorem CA.fa {w : World} {g : Nat} {s f o : Int} {G : Nat → Int} (h : CA w g s f o G) : w.cell? ⟨g, 1, none⟩ = some (.int .i64 f) := (cell_of_row _ _ 1 _ _ _ h).trans (crs_1 s f o _)
theorem CA.ov {w : World} {g : Nat} {s f o : Int} {G : Nat → Int} (h : CA w g s f o G) : w.cell? ⟨g, 2, none⟩ = some (.int .i64 o) := (cell_of_row _ _ 2 _ _ _ h).trans (crs_2 s f o _)
theorem CA.below {w w' : World} {g B : Nat} {s f o : Int} {G : Nat → Int} (h : CA w g s f o G) (hb : Below B w w') (hg : g < B) : CA w' g s f o G := (hb.block g hg).trans h
theorem CA.lt {w : World} {g : Nat} {s f o : Int} {G : Nat → Int} (h : CA w g s f o G) : g < w.heap.size := heap_lt h

/-- A course that lies at the start of block g, of a course's own or of a walk's. -/
structure CV (w : World) (g : Nat) (s f o : Int) (G : Nat → Int) : Prop where
  sq : w.cell? ⟨g, 0, none⟩ = some (.int .i64 s)
  fa : w.cell? ⟨g, 1, none⟩ = some (.int .i64 f)
  ov : w.cell? ⟨g, 2, none⟩ = some (.int .i64 o)
  at_ : ∀ {i : Nat}, i < 101 → w.cell? ⟨g, 3 + i, none⟩ = some (.int .i64 (G i))
theorem CA.cv {w : World} {g : Nat} {s f o : Int} {G : Nat → Int} (h : CA w g s f o G) : CV w g s f o G := ⟨h.sq, h.fa, h.ov, fun hi => h.at_ hi⟩

theorem CV.below {w w' : World} {g B : Nat} {s f o : Int} {G : Nat → Int} (h : CV w g s f o G) (hb : Below B w w') (hg : g < B) : CV w' g s f o G := ⟨(bcell hb hg).trans h.sq, (bcell hb hg).trans h.fa, (bcell hb hg).trans h.ov, fun hi => (bcell hb hg).trans (h.at_ hi)⟩
theorem CV.drewN {w : World} {g : Nat} {s f o : Int} {G : Nat → Int} (h : CV w g s f o G) (n : Nat) : CV (w.drewN n) g s f o G := ⟨h.sq, h.fa, h.ov, fun hi => h.at_ hi⟩
theorem holds_any (g : Nat) (s f o : Int) (js : List (Int × Int)) (sq : Int) (w : World) (hC : CV w g s f o (fun i => jumpOf js i)) (hs : s ≤ 100) :
    Calls Try.prog 140 #[.pointer (some ⟨g, 0, none⟩), .int .i64 sq] w fun e w' => e = .returned (.bool (onSq s js sq)) ∧ w = w' := by
  have c0 := hC.sq
  by_cases h0 : 0 ≤ sq
  · obtain ⟨n, rfl⟩ := Int.eq_ofNat_of_zero_le h0
    have g0 : decide ((0 : Int) ≤ n) = true := by simp
    by_cases h1 : (n : Int) ≤ s
    · have c1 := hC.at_ (i := n) (by omega)
      have g1 : decide ((n : Int) ≤ s) = true := by simpa using h1
      go_enter Try.func140, Try.ntmps140
      go_wp2
      go_ret
      exact ⟨ret_bool (by simp [onSq, inB, h1]), rfl⟩
    · have g1 : decide ((n : Int) ≤ s) = false := by simpa using h1
      go_enter Try.func140, Try.ntmps140
      go_wp2
      go_ret
      exact ⟨ret_bool (by rw [onSq, inB, g1, Bool.and_false, Bool.false_and]), rfl⟩
  · have g0 : decide ((0 : Int) ≤ sq) = false := by simpa using h0
    go_enter Try.func140, Try.ntmps140
    go_wp2
    go_ret
    exact ⟨ret_bool (by rw [onSq, inB, g0, Bool.false_and, Bool.false_and]), rfl⟩

set_option maxHeartbeats 400000 in
theorem lands_any (g : Nat) (s f o : Int) (G : Nat → Int) (sq face : Int) (w : World) (hC : CV w g s f o G) (hs0 : 1 ≤ s) (hs : s ≤ 100) (ho0 : 0 ≤ o) (ho : o ≤ 2) (h0 : 0 ≤ sq) (h1 : sq ≤ s) (hf0 : 1 ≤ face) (hf : face ≤ 8) :
    Calls Try.prog 151 #[.pointer (some ⟨g, 0, none⟩), .int .i64 sq, .int .i64 face] w fun e w' => e = .returned (.int .i64 (landed s o sq face)) ∧ w = w' := by
  have c0 := hC.sq
  have c2 := hC.ov
  by_cases he : sq = s
  · have e1 : (sq == s) = true := by simpa using he
    go_enter Try.func151, Try.ntmps151
    go_wp2
    go_ret
    exact ⟨ret_int (by simp [landed, he]), rfl⟩
  · have e1 : (sq == s) = false := by simpa using he
    by_cases hle : sq + face ≤ s
    · skip
      go_enter Try.func151, Try.ntmps151
      go_wp2
      go_ret
      exact ⟨ret_int (by simp [landed, he, hle]), rfl⟩
    · by_cases hz : o = 0
      · subst hz
        go_enter Try.func151, Try.ntmps151
        go_wp2
        go_ret
        exact ⟨ret_int (by rw [landed, if_neg he, if_neg (show ¬ sq + face ≤ s by omega), if_pos rfl]), rfl⟩
      · by_cases hz1 : o = 1
        · subst hz1
          go_enter Try.func151, Try.ntmps151
          go_wp2
          go_ret
          exact ⟨ret_int (by rw [landed, if_neg he, if_neg (show ¬ sq + face ≤ s by omega), if_neg (by decide), if_pos rfl]), rfl⟩
        · obtain rfl : o = 2 := by omega
          by_cases hb : 2 * s - (sq + face) < 0
          · have hb' : ¬ 0 ≤ 2 * s - (sq + face) := by omega
            go_enter Try.func151, Try.ntmps151
            go_wp2
            go_ret
            exact ⟨ret_int (by rw [landed, if_neg he, if_neg (show ¬ sq + face ≤ s by omega), if_neg (by decide), if_neg (by decide), if_pos (show 2 * s - (sq + face) < 0 by omega)]), rfl⟩
          · have hb' : 0 ≤ 2 * s - (sq + face) := by omega
            go_enter Try.func151, Try.ntmps151
            go_wp2
            go_ret
            exact ⟨ret_int (by rw [landed, if_neg he, if_neg (show ¬ sq + face ≤ s by omega), if_neg (by decide), if_neg (by decide), if_neg (show ¬ 2 * s - (sq + face) < 0 by omega)]), rfl⟩

theorem behind_any (g : Nat) (s f o : Int) (js : List (Int × Int)) (sq face : Int) (w : World) (hC : CV w g s f o (fun i => jumpOf js i)) (hs0 : 1 ≤ s) (hs : s ≤ 100) (ho0 : 0 ≤ o) (ho : o ≤ 2) (h0 : 0 ≤ sq) (h1 : sq ≤ s) (he : jumpOf js s = s) (hq : jumpOf js sq = sq) (hf0 : 1 ≤ face) (hf : face ≤ 8) :
    Calls Try.prog 137 #[.pointer (some ⟨g, 0, none⟩), .int .i64 sq, .int .i64 face] w fun e w' => e = .returned (.int .i64 (thrown s o js sq face)) ∧ ∃ m, w' = w.drewN m := by
  have HT := Lib.hid (landed_jump (o := o) (face := face) he hq); clear he hq
  have hL := landed_in (o := o) h0 h1 hf0
  have c1 := hC.at_ (i := (landed s o sq face).toNat) (by omega)
  have ec : (((landed s o sq face).toNat : Nat) : Int) = landed s o sq face := by omega
  have i0 : 0 ≤ landed s o sq face := hL.1
  have i1 : landed s o sq face < 101 := by omega
  go_enter Try.func137, Try.ntmps137
  go_wp2
  go_quiet (first | (go_at_call 151; refine Calls.quiet_of_same ((lands_any _ _ _ _ _ _ _ _ (hC.drewN _) hs0 hs ho0 ho h0 h1 hf0 hf).mono fun _ _ h => ⟨h.1, h.2.symm⟩)))
  go_wp2
  go_ret
  exact ⟨ret_int HT.out, _, rfl⟩

theorem behind_bel (g : Nat) (s f o : Int) (js : List (Int × Int)) (sq face : Int) (w : World) (hC : CV w g s f o (fun i => jumpOf js i)) (hs0 : 1 ≤ s) (hs : s ≤ 100) (ho0 : 0 ≤ o) (ho : o ≤ 2) (h0 : 0 ≤ sq) (h1 : sq ≤ s) (he : jumpOf js s = s) (hq : jumpOf js sq = sq) (hf0 : 1 ≤ face) (hf : face ≤ 8) :
    Calls Try.prog 137 #[.pointer (some ⟨g, 0, none⟩), .int .i64 sq, .int .i64 face] w fun e w' => e = .returned (.int .i64 (thrown s o js sq face)) ∧ Below w.heap.size w w' ∧ w'.heap.size = w.heap.size :=
  (behind_any g s f o js sq face w hC hs0 hs ho0 ho h0 h1 he hq hf0 hf).mono fun _ _ ⟨h, m, e⟩ => ⟨h, by rw [e]; exact drewB (Below.refl _ _) m, by rw [e]; rfl⟩

/-- A course is stored into the block that was made last. -/
theorem storeCourse (s f o : Int) (G : Nat → Int) (w : World) : (storeCells ⟨w.heap.size, 0, none⟩ (crsCells s f o G).toList 0).run Try.prog (w.alloc (.cells Try.zeroCells138 138)) = .ok () (w.alloc (.cells (crsCells s f o G) 138)) :=
  run_storeCells_new w _ _ _ (by rw [crs_size]; exact sizeCourse) (by rw [courseZero, crs_size, crs_size]) (Array.all_eq_true_iff_forall_mem.2 fun u hu => crs_one _ _ _ _ u (Array.mem_toList_iff.2 hu))

set_option maxRecDepth 100000 in
theorem courseAt_yes (s f o : Int) (A : Option Addr) (c : Nat) (js : List (Int × Int)) (sq : Int) (w : World) (hj : RJ w w.heap.size A js) (hq : asked s f o js sq = true) :
    Calls Try.prog 136 #[.agg #[.int .i64 s, .int .i64 f, .int .i64 o, .slice A js.length c], .int .i64 sq] w fun e w' =>
      e = .returned (.tuple #[.agg (crsCells s f o (fun i => jumpOf js i)), .bool true]) ∧ Below w.heap.size w w' := by
  have hg := asked_good hq
  have ho := asked_on hq
  have hz := good_sizes hg
  have HG := Lib.hid hg; clear hg hq
  go_enter Try.func136, Try.ntmps136
  go_wp2_with fail
  refine (courseOf_yes _ _ _ _ _ _ _ (hj.go (below2 _ _ _)) HG.out).mono ?_
  rintro e w1 ⟨rfl, hx⟩
  rw [courseZero] at hx
  have hb : Below (w.heap.size + 1) (w.alloc (.cells #[.int .i64 s, .int .i64 f, .int .i64 o, .slice A js.length c] 33)) w1 := ((Below.refl _ _).alloc (by simp) _).trans (hx.mono (by simp))
  have hC : CA w1 (w.heap.size + 1) 0 0 0 (fun _ => 0) := (hx.block _ (by simp)).trans (heap_alloc_at _ _ _ (by simp))
  have hst := storeCourse s f o (fun i => jumpOf js i)
  have hs1 : w.heap.size + 1 < w1.heap.size := by have := hx.size; simp at this; omega
  have hCn : CA (w1.alloc (.cells (crsCells s f o (fun i => jumpOf js i)) 138)) w1.heap.size s f o (fun i => jumpOf js i) := heap_alloc_at _ _ _ rfl
  have hCo : CA (w1.alloc (.cells (crsCells s f o (fun i => jumpOf js i)) 138)) (w.heap.size + 1) 0 0 0 (fun _ => 0) := (Below.heap_alloc _ _ _ hs1).trans hC
  go_wp2_with (first | (go_at_call 140; refine (holds_any _ _ _ _ _ _ _ hCn.cv hz.1.2).mono ?_; rintro e w2 ⟨rfl, rfl⟩) | (refine wpList_load_row rfl 138 (.tmp 6) rfl w1.heap.size rfl _ _ _ _ hCn Try.underlying138 rfl ?_ ?_; (rw [crs_size]; exact sizeCourse)) | (refine wpList_store_row rfl 138 (.tmp 4) (.tmp 21) rfl (w.heap.size + 1) rfl _ _ _ rfl hCo ?_ ?_ (crs_one _ _ _ _) ?_; (rw [crs_size, crs_size]); (rw [crs_size]; exact sizeCourse); intro w4 hC4 hg4 hs4))
  exact bodyPost_ret (v := .tuple #[.agg (crsCells s f o (fun i => jumpOf js i)), .bool true]) (results_cell_slot Try.results136 _ _ _ _ _ _ _ _ rfl rfl hC4 Try.underlying138 rfl (by rw [crs_size]; exact sizeCourse)) rfl
    ⟨rfl, (((below1 _ _).trans (hb.mono (by omega))).alloc (by omega) _).grown hg4 (by simp; omega) (fun k h => by cases h; omega)⟩

set_option maxRecDepth 100000 in
theorem courseAt_no (s f o : Int) (A : Option Addr) (c : Nat) (js : List (Int × Int)) (sq : Int) (w : World) (hj : RJ w w.heap.size A js) (hq : asked s f o js sq = false) :
    Calls Try.prog 136 #[.agg #[.int .i64 s, .int .i64 f, .int .i64 o, .slice A js.length c], .int .i64 sq] w fun e w' =>
      e = .returned (.tuple #[.agg (crsCells 0 0 0 (fun _ => 0)), .bool false]) ∧ Below w.heap.size w w' := by
  have zs : Try.zeroCells138.size = 104 := by rw [courseZero, crs_size]
  have z1 : ∀ u ∈ Try.zeroCells138.toList, u.oneCell' = true := by rw [courseZero]; exact crs_one _ _ _ _
  cases hg : good ⟨s, f, o, js⟩
  · have HG := Lib.hid hg; clear hg hq
    go_enter Try.func136, Try.ntmps136
    go_wp2_with fail
    refine (courseOf_no _ _ _ _ _ _ _ (hj.go (below2 _ _ _)) HG.out).mono ?_
    rintro e w1 ⟨rfl, hx⟩
    rw [courseZero] at hx
    have hb : Below (w.heap.size + 1) (w.alloc (.cells #[.int .i64 s, .int .i64 f, .int .i64 o, .slice A js.length c] 33)) w1 := ((Below.refl _ _).alloc (by simp) _).trans (hx.mono (by simp))
    have hC : CA w1 (w.heap.size + 1) 0 0 0 (fun _ => 0) := (hx.block _ (by simp)).trans (heap_alloc_at _ _ _ (by simp))
    have hst := storeCourse 0 0 0 (fun _ => 0)
    have hs1 : w.heap.size + 1 < w1.heap.size := by have := hx.size; simp at this; omega
    have hCo : CA (w1.alloc (.cells (crsCells 0 0 0 (fun _ => 0)) 138)) (w.heap.size + 1) 0 0 0 (fun _ => 0) := (Below.heap_alloc _ _ _ hs1).trans hC
    go_wp2_with (refine wpList_store_row rfl 138 (.tmp 4) _ rfl (w.heap.size + 1) rfl _ _ Try.zeroCells138 rfl hCo ?_ ?_ z1 ?_; (rw [zs, crs_size]); (rw [zs, sizeCourse]); intro w4 hC4 hg4 hs4)
    rw [courseZero] at hC4
    exact bodyPost_ret (v := .tuple #[.agg (crsCells 0 0 0 (fun _ => 0)), .bool false]) (results_cell_slot Try.results136 _ _ _ _ _ _ _ _ rfl rfl hC4 Try.underlying138 rfl (by rw [crs_size]; exact sizeCourse)) rfl
      ⟨rfl, (((below1 _ _).trans (hb.mono (by omega))).alloc (by omega) _).grown hg4 (by simp; omega) (fun k h => by cases h; omega)⟩
  · have ho : onSq s js sq = false := by simpa [asked, hg] using hq
    have hz := good_sizes hg
    have HG := Lib.hid hg; clear hg hq
    go_enter Try.func136, Try.ntmps136
    go_wp2_with fail
    refine (courseOf_yes _ _ _ _ _ _ _ (hj.go (below2 _ _ _)) HG.out).mono ?_
    rintro e w1 ⟨rfl, hx⟩
    rw [courseZero] at hx
    have hb : Below (w.heap.size + 1) (w.alloc (.cells #[.int .i64 s, .int .i64 f, .int .i64 o, .slice A js.length c] 33)) w1 := ((Below.refl _ _).alloc (by simp) _).trans (hx.mono (by simp))
    have hC : CA w1 (w.heap.size + 1) 0 0 0 (fun _ => 0) := (hx.block _ (by simp)).trans (heap_alloc_at _ _ _ (by simp))
    have hst := storeCourse s f o (fun i => jumpOf js i)
    have hs1 : w.heap.size + 1 < w1.heap.size := by have := hx.size; simp at this; omega
    have hCn : CA (w1.alloc (.cells (crsCells s f o (fun i => jumpOf js i)) 138)) w1.heap.size s f o (fun i => jumpOf js i) := heap_alloc_at _ _ _ rfl
    have hCo : CA (w1.alloc (.cells (crsCells s f o (fun i => jumpOf js i)) 138)) (w.heap.size + 1) 0 0 0 (fun _ => 0) := (Below.heap_alloc _ _ _ hs1).trans hC
    go_wp2_with (first | (go_at_call 140; refine (holds_any _ _ _ _ _ _ _ hCn.cv hz.1.2).mono ?_; rintro e w2 ⟨rfl, rfl⟩) | (refine wpList_store_row rfl 138 (.tmp 4) _ rfl (w.heap.size + 1) rfl _ _ Try.zeroCells138 rfl hCo ?_ ?_ z1 ?_; (rw [zs, crs_size]); (rw [zs, sizeCourse]); intro w4 hC4 hg4 hs4))
    rw [courseZero] at hC4
    exact bodyPost_ret (v := .tuple #[.agg (crsCells 0 0 0 (fun _ => 0)), .bool false]) (results_cell_slot Try.results136 _ _ _ _ _ _ _ _ rfl rfl hC4 Try.underlying138 rfl (by rw [crs_size]; exact sizeCourse)) rfl
      ⟨rfl, (((below1 _ _).trans (hb.mono (by omega))).alloc (by omega) _).grown hg4 (by simp; omega) (fun k h => by cases h; omega)⟩
end Go.Proofs.Yteogfondnpfklaa

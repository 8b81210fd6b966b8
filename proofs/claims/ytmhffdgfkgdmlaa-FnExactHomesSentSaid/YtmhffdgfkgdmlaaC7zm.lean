/-
  Plays: the program's outingOf: moves that come over a channel.
-/
import Derived.Test.YtmhffdgfkgdmlaaC7zl
import Derived.Test.YtmhffdgfkgdmlaaWN
import Derived.Test.YtmhffdgfkgdmlaaWRegB
namespace Go.Proofs.Ytmhffdgfkgdmlaa
open Go.RowKit Go.Conc

theorem outZero : Try.zeroCells80 = outC 0 0 0 none 0 0 (fun _ => false) (fun _ _ => 0) 0 0 := by kernel_rfl
theorem sizeOut : (Try.prog.info? 80).map (·.size) = some 82 := by kernel_rfl
theorem run_buildOut0 (w : World) : (Instr.build 80 #[]).run Try.prog w = .ok (.agg Try.zeroCells80) w := by kernel_rfl
theorem outZ_size : Try.zeroCells80.size = 82 := by rw [outZero, out_size]
theorem outZ_one : ∀ u ∈ Try.zeroCells80.toList, u.oneCell' = true := by rw [outZero]; exact out_one

set_option maxRecDepth 100000 in
set_option maxHeartbeats 1000000 in
theorem outingOf_no (q f k : Int) (A1 A2 A3 : Option Addr) (c1 c2 c3 : Nat) (st sf : List Int) (n : Nat) (w : World) (h1 : RI w w.heap.size A1 st) (h2 : RI w w.heap.size A2 sf) (hc : st.length ≤ c1) (hn : n ≤ 1048576) (hz : (trkOk q f k st sf && decide (n ≤ 200)) = false) :
    Calls Try.prog 57 #[.agg #[.int .i64 q, .int .i64 f, .int .i64 k, .slice A1 st.length c1, .slice A2 sf.length c2], .slice A3 n c3] w fun e w' => e = .returned (.tuple #[.agg Try.zeroCells80, .bool false]) ∧ Below w.heap.size w w' := by
  have hl := h1.1
  have hl2 := h2.1
  have hbo := run_buildOut0
  cases ht : trkOk q f k st sf
  · have HT := Lib.hid ht
    clear ht hz
    have z0 := zeroRing
    go_enter Try.func57, Try.ntmps57
    go_wp2_with fail
    refine (ringOf_noV q f k A1 A2 c1 c2 st sf _ (h1.go (below2 _ _ _)) (h2.go (below2 _ _ _)) hc HT.out).mono ?_
    rintro e w2 ⟨rfl, hx⟩
    have hb2 : Below w.heap.size w w2 := (below2 _ _ _).trans (hx.mono (by simp; omega))
    have k2 : w2.heap[w.heap.size + 1]? = some (.cells Try.zeroCells80 80 (0, 0)) := (hx.block _ (by simp)).trans (heap_alloc_at _ _ _ (by simp))
    have hz2 := heap_lt k2
    go_wp2_with (first
      | (refine wpList_store_row rfl 75 (.tmp 6) _ rfl w2.heap.size rfl _ _ (ringC 0 0 0 none 0 0 (fun _ => false)) rfl (heap_alloc_at w2 _ _ rfl) ?_ ?_ ring_one ?_; (simp only [ring_size]); (rw [ring_size]; exact sizeRing); intro w3 hC3 hg3 hs3; have k3 := (hg3.block (w.heap.size + 1) (by simp; omega) (by simp; omega)).trans ((Below.heap_alloc _ _ _ hz2).trans k2))
      | (refine wpList_store_row rfl 80 (.tmp 4) _ rfl (w.heap.size + 1) rfl _ _ Try.zeroCells80 rfl k3 ?_ ?_ outZ_one ?_; rfl; (rw [outZ_size]; exact sizeOut); intro w4 hC4 hg4 hs4))
    exact bodyPost_ret (v := .tuple #[.agg Try.zeroCells80, .bool false]) (results_cell_slot Try.results57 _ _ _ _ _ _ _ _ rfl rfl hC4 Try.underlying80 rfl (by rw [outZ_size]; exact sizeOut)) rfl
      ⟨rfl, ((hb2.alloc hb2.size _).grown hg3 (by have := hb2.size; simp; omega) (fun k h => by cases h; exact hb2.size)).grown hg4 (by have := hg3.size; have := hb2.size; simp at *; omega) (fun k h => by cases h; omega)⟩
  · have hn2 : ¬ n ≤ 200 := by rw [ht, Bool.true_and] at hz; simpa using hz
    have hn3 : (n : Int) > 200 := by omega
    have HT := Lib.hid ht
    clear ht hz
    have z0 := zeroRing
    go_enter Try.func57, Try.ntmps57
    go_wp2_with fail
    refine (ringOf_yesV q f k A1 A2 c1 c2 st sf _ (h1.go (below2 _ _ _)) (h2.go (below2 _ _ _)) hc HT.out).mono ?_
    rintro e w2 ⟨rfl, hx⟩
    have hb2 : Below w.heap.size w w2 := (below2 _ _ _).trans (hx.mono (by simp; omega))
    have k2 : w2.heap[w.heap.size + 1]? = some (.cells Try.zeroCells80 80 (0, 0)) := (hx.block _ (by simp)).trans (heap_alloc_at _ _ _ (by simp))
    have hz2 := heap_lt k2
    go_wp2_with (first
      | (refine wpList_store_row rfl 75 (.tmp 6) _ rfl w2.heap.size rfl _ _ (ringC q f k A1 st.length c1 (safeB sf)) rfl (heap_alloc_at w2 _ _ rfl) ?_ ?_ ring_one ?_; (simp only [ring_size]); (rw [ring_size]; exact sizeRing); intro w3 hC3 hg3 hs3; have k3 := (hg3.block (w.heap.size + 1) (by simp; omega) (by simp; omega)).trans ((Below.heap_alloc _ _ _ hz2).trans k2))
      | (refine wpList_store_row rfl 80 (.tmp 4) _ rfl (w.heap.size + 1) rfl _ _ Try.zeroCells80 rfl k3 ?_ ?_ outZ_one ?_; rfl; (rw [outZ_size]; exact sizeOut); intro w4 hC4 hg4 hs4))
    exact bodyPost_ret (v := .tuple #[.agg Try.zeroCells80, .bool false]) (results_cell_slot Try.results57 _ _ _ _ _ _ _ _ rfl rfl hC4 Try.underlying80 rfl (by rw [outZ_size]; exact sizeOut)) rfl
      ⟨rfl, ((hb2.alloc hb2.size _).grown hg3 (by have := hb2.size; simp; omega) (fun k h => by cases h; exact hb2.size)).grown hg4 (by have := hg3.size; have := hb2.size; simp at *; omega) (fun k h => by cases h; omega)⟩

theorem run_buildOut (q f k : Int) (A : Option Addr) (n c : Nat) (S : Nat → Bool) (F : Nat → Nat → Int) (w : World) : (Instr.build 80 #[(0, .agg (ringC q f k A n c S)), (1, .agg (standC F))]).run Try.prog w = .ok (.agg (outC q f k A n c S F 0 0)) w := by kernel_rfl
theorem run_allocOut (w : World) : (Instr.alloc 80 true (.tuple #[])).run Try.prog w = .ok (.pointer (some ⟨w.heap.size, 0, none⟩)) (w.alloc (.cells Try.zeroCells80 80)) := by kernel_rfl
/-- The values of so many rows. -/
def bufL (Av : Nat → Option Addr) (Lv Cv : Nat → Nat) (j m : Nat) : Array Value := ((List.range' j m).map fun y => Value.slice (Av y) (Lv y) (Cv y)).toArray
theorem bufL_size {Av : Nat → Option Addr} {Lv Cv : Nat → Nat} {j m : Nat} : (bufL Av Lv Cv j m).size = m := by simp [bufL]
theorem bufL_push {Av : Nat → Option Addr} {Lv Cv : Nat → Nat} {j m : Nat} : (bufL Av Lv Cv j m).push (.slice (Av (j + m)) (Lv (j + m)) (Cv (j + m))) = bufL Av Lv Cv j (m + 1) := by
  simp [bufL, List.range'_concat]
theorem bufL_head {Av : Nat → Option Addr} {Lv Cv : Nat → Nat} {j m : Nat} (z : Value) : (bufL Av Lv Cv j (m + 1)).getD 0 z = .slice (Av j) (Lv j) (Cv j) := by simp [bufL, List.range'_succ]
theorem bufL_tail {Av : Nat → Option Addr} {Lv Cv : Nat → Nat} {j m : Nat} : (bufL Av Lv Cv j (m + 1)).extract 1 (bufL Av Lv Cv j (m + 1)).size = bufL Av Lv Cv (j + 1) m := by
  apply Array.toList_inj.1
  simp [bufL, List.range'_succ]
  rw [List.take_of_length_le (by simp)]
theorem rgVals {w : World} {B : Nat} {A : Option Addr} {M : List (List Int)} (h : RG w B A M) : ∃ (Av : Nat → Option Addr) (Lv Cv : Nat → Nat), ∀ y, y < M.length → ∃ b off, A = some ⟨b, off, none⟩ ∧ b < B ∧ w.cell? ⟨b, off + y, none⟩ = some (.slice (Av y) (Lv y) (Cv y)) ∧ RI w B (Av y) (M.getD y []) ∧ Lv y = (M.getD y []).length := by
  have h' : ∀ y, ∃ Ac : Option Addr × Nat, y < M.length → ∃ b off, A = some ⟨b, off, none⟩ ∧ b < B ∧ w.cell? ⟨b, off + y, none⟩ = some (.slice Ac.1 (M.getD y []).length Ac.2) ∧ RI w B Ac.1 (M.getD y []) := by
    intro y
    by_cases hy : y < M.length
    · obtain ⟨b, off, A', c', e, hb, h1, h2⟩ := h.at_ (Below.refl _ _) hy
      have hg : M.getD y [] = M[y] := by simp [hy]
      exact ⟨(A', c'), fun _ => ⟨b, off, e, hb, by rw [hg]; exact h1, by rw [hg]; exact h2⟩⟩
    · exact ⟨(none, 0), fun h => absurd h hy⟩
  obtain ⟨F, hF⟩ := Classical.axiomOfChoice h'
  exact ⟨fun y => (F y).1, fun y => (M.getD y []).length, fun y => (F y).2, fun y hy => let ⟨b, off, e, hb, h1, h2⟩ := hF y hy; ⟨b, off, e, hb, h1, h2, rfl⟩⟩

theorem infoSl24 : (Try.prog.info? 22).map (·.bytes) = some 24 := by kernel_rfl

set_option maxRecDepth 100000 in
set_option maxHeartbeats 4000000 in
theorem outingOf_yes (q f k : Int) (A1 A2 A3 : Option Addr) (c1 c2 c3 : Nat) (st sf : List Int) (M : List (List Int)) (J : Nat) (w : World) (h1 : RI w w.heap.size A1 st) (h2 : RI w w.heap.size A2 sf) (h3 : RG w w.heap.size A3 M) (hc : st.length ≤ c1) (ht : trkOk q f k st sf = true) (hn : M.length ≤ 200) (hJ : Made q f k st sf M J) :
    Calls Try.prog 57 #[.agg #[.int .i64 q, .int .i64 f, .int .i64 k, .slice A1 st.length c1, .slice A2 sf.length c2], .slice A3 M.length c3] w fun e w' => e = .returned (.tuple #[.agg (outC q f k A1 st.length c1 (safeB sf) (plF q f k st sf M J) J (plS q f k st sf M J)), .bool true]) ∧ Below w.heap.size w w' := by
  have hl := h1.1
  have hl2 := h2.1
  have HT := Lib.hid ht
  have z0 := zeroRing
  have hn3 : ¬ (M.length : Int) > 200 := by omega
  obtain ⟨i0, hi, hib⟩ := Option.map_eq_some_iff.1 infoSl24
  have hmc := fun w => run_makeChan (P := Try.prog) (w := w) Try.underlying124 hi .i64 M.length (by omega) (by rw [hib]; omega)
  obtain ⟨n, hnn⟩ : ∃ n, n = M.length := ⟨_, rfl⟩
  refine calls_of_codeN Try.func57 rfl (by rintro _ ⟨h, _⟩; cases h) ?_
  simp only [Try.ntmps57, List.size_toArray, List.length_cons, List.length_nil, Nat.reduceAdd, Nat.reduceSub, Array.replicate_succ,
     Array.replicate_zero, List.push_toArray, List.append_toArray, List.nil_append, List.cons_append]
  refine CodeN.first fun K Q0 hK _ => ?_
  go_wp2_with fail
  refine CodeN.first fun K Q0 hK _ => ?_
  go_wp2_with fail
  refine (ringOf_yesV q f k A1 A2 c1 c2 st sf _ (h1.go (below2 _ _ _)) (h2.go (below2 _ _ _)) hc HT.out).mono ?_
  rintro e w2 ⟨rfl, hx⟩
  have hb2 : Below w.heap.size w w2 := (below2 _ _ _).trans (hx.mono (by simp; omega))
  have k2 : w2.heap[w.heap.size + 1]? = some (.cells Try.zeroCells80 80 (0, 0)) := (hx.block _ (by simp)).trans (heap_alloc_at _ _ _ (by simp))
  have hz2 := heap_lt k2
  go_wp2_with (refine wpList_store_row rfl 75 (.tmp 6) _ rfl w2.heap.size rfl _ _ (ringC q f k A1 st.length c1 (safeB sf)) rfl (heap_alloc_at w2 _ _ rfl) ?_ ?_ ring_one ?_; (simp only [ring_size]); (rw [ring_size]; exact sizeRing); intro w3 hC3 hg3 hs3)
  have hR3 : RA w3 w2.heap.size 75 q f k A1 st.length c1 (safeB sf) := hC3
  have k3 : w3.heap[w.heap.size + 1]? = some (.cells Try.zeroCells80 80 (0, 0)) := (hg3.block (w.heap.size + 1) (by simp; omega) (by simp; omega)).trans ((Below.heap_alloc _ _ _ hz2).trans k2)
  have hb3 : Below w.heap.size w w3 := (hb2.alloc hb2.size _).grown hg3 (by have := hb2.size; simp; omega) (fun k h => by cases h; exact hb2.size)
  clear hC3 hg3 hs3 k2 hx hb2
  refine CodeN.first fun K Q0 hK _ => ?_
  go_wp2_with fail
  refine CodeN.first fun K Q0 hK _ => ?_
  have hmc3 := hmc w3
  go_wp2_with fail
  have hT := trk_of ht
  have hk1 := hT.k1
  have hk4 := hT.k4
  obtain ⟨Av, Lv, Cv, hM⟩ := rgVals h3
  have HM := Lib.hid hM
  clear h3 hM
  have hg1 := heap_lt k3
  have hg2 := hR3.lt
  obtain ⟨I, hI⟩ : ∃ I : Nat → Act → World → Prop, I = fun r a w' => ∃ (i : Nat) (x0 x1 x2 x3 x5 x7 x9 x10 x11 x12 x13 x14 x15 x16 x17 x18 x19 x20 x21 x22 x23 x24 x25 x26 x27 x28 x32 x33 x34 x35 x36 x37 x38 x39 x40 x41 x42 x43 x44 x45 x46 x47 x48 x49 x50 : Value), i + r = M.length ∧ a = { tmps := #[x0, x1, x2, x3, .pointer (some ⟨w.heap.size + 1, 0, none⟩), x5, .pointer (some ⟨w2.heap.size, 0, none⟩), x7, .chan (some w3.heap.size), x9, x10, x11, x12, x13, x14, x15, x16, x17, x18, x19, x20, x21, x22, x23, x24, x25, x26, x27, x28, .slice A3 M.length c3, .int .i64 (M.length : Int), .int .i64 (i : Int), x32, x33, x34, x35, x36, x37, x38, x39, x40, x41, x42, x43, x44, x45, x46, x47, x48, x49, x50], defers := [] } ∧ w'.heap[w3.heap.size]? = some (.chan M.length (bufL Av Lv Cv 0 i) false i 0 false) ∧ Below w3.heap.size w3 w' := ⟨_, rfl⟩
  have HI := Lib.hid hI
  clear hI
  refine CodeN.seq (CodeN.first fun K Q0 hK _ => ?_)
  go_wp2_with fail
  refine CodeN.block ?_
  refine CodeN.loop (n := M.length) I ?_ (by rw [HI.out]; exact ⟨0, _, _, _, _, _, _, _, _, _, _, _, _, _, _, _, _, _, _, _, _, _, _, _, _, _, _, _, _, _, _, _, _, _, _, _, _, _, _, _, _, _, _, _, _, _, by omega, rfl, heap_alloc_at w3 _ _ rfl, Below.alloc (Below.refl _ w3) (Nat.le_refl _) _⟩)
  intro r a w4 hIr
  rw [HI.out] at hIr
  obtain ⟨i, x0, x1, x2, x3, x5, x7, x9, x10, x11, x12, x13, x14, x15, x16, x17, x18, x19, x20, x21, x22, x23, x24, x25, x26, x27, x28, x32, x33, x34, x35, x36, x37, x38, x39, x40, x41, x42, x43, x44, x45, x46, x47, x48, x49, x50, hir, rfl, hch, hb4⟩ := hIr
  by_cases hi : i < M.length
  · obtain ⟨b, off, rfl, hbw, hcell, -, -⟩ := HM.out i hi
    have hi1 : (i : Int) < (M.length : Int) := by omega
    have hiw : IntKind.i64.wrap ((i : Int) + 1) = (i : Int) + 1 := IntWalk.i64_in _ (by omega)
    have hcell4 : w4.cell? ⟨b, off + i, none⟩ = some (.slice (Av i) (Lv i) (Cv i)) := (bcell (hb3.trans (hb4.mono hb3.size)) hbw).trans hcell
    refine CodeN.first fun K Q0 hK _ => ?_
    go_wp2_with fail
    refine CodeN.seq (CodeN.condT rfl (CodeN.skip ?_))
    simp only [Exit.then]
    refine CodeN.seq (CodeN.block ?_)
    refine CodeN.first fun K Q0 hK _ => ?_
    go_wp2_with fail
    refine CodeN.send (v1 := .chan (some w3.heap.size)) (v2 := .slice (Av i) (Lv i) (Cv i)) (v := .slice (Av i) (Lv i) (Cv i)) rfl rfl rfl rfl rfl rfl hch (by rw [bufL_size]; omega) ?_
    have hpush : (bufL Av Lv Cv 0 i).push (.slice (Av i) (Lv i) (Cv i)) = bufL Av Lv Cv 0 (i + 1) := by have := bufL_push (Av := Av) (Lv := Lv) (Cv := Cv) (j := 0) (m := i); rw [Nat.zero_add] at this; exact this
    rw [hpush]
    simp only [go_sem, Exit.inBlock, Exit.then]
    refine CodeN.last fun K Q0 hK _ => ?_
    go_wp2_with fail
    refine ⟨r - 1, by omega, ?_⟩
    rw [HI.out]
    exact ⟨i + 1, _, _, _, _, _, _, _, _, _, _, _, _, _, _, _, _, _, _, _, _, _, _, _, _, _, _, _, _, _, _, _, _, _, _, _, _, _, _, _, _, _, _, _, _, _, by omega, rfl, heap_setChan w4 _ _ _ _ _ _ _ (heap_lt hch), below_setChan hb4 (Nat.le_refl _) _ _ _ _ _ _⟩
  · obtain rfl : i = M.length := by omega
    have hi1 : ¬ (M.length : Int) < (M.length : Int) := by omega
    clear HI hi
    have hR4 : RA w4 w2.heap.size 75 q f k A1 st.length c1 (safeB sf) := hR3.below hb4 hg2
    have hR4' := hR4.lt
    have hgc := heap_lt hch
    have k4 : w4.heap[w.heap.size + 1]? = some (.cells Try.zeroCells80 80 (0, 0)) := (hb4.block _ hg1).trans k3
    have hb40 : Below w.heap.size w w4 := hb3.trans (hb4.mono hb3.size)
    refine CodeN.first fun K Q0 hK _ => ?_
    go_wp2_with fail
    refine CodeN.seq (CodeN.condF rfl (CodeN.exit ?_))
    simp only [Exit.then, Exit.inBlock, if_true]
    obtain ⟨F0, hF0⟩ : ∃ F0, F0 = alikeFV st.length k q (-1) := ⟨_, rfl⟩
    have HF0 := Lib.hid hF0
    obtain ⟨R, hR⟩ : ∃ R : Act → World → Prop, R = fun a' w' => ∃ (gO : Nat) (x0 x1 x2 x3 x5 x6 x7 x9 x10 x12 x13 x14 x15 x16 x17 x18 x19 x20 x21 x22 x23 x24 x25 x26 x27 x28 x29 x30 x31 x32 x33 x34 x35 x36 x37 x38 x39 x40 x41 x42 x43 x44 x45 x46 x47 x48 x49 x50 : Value), a' = { tmps := #[x0, x1, x2, x3, .pointer (some ⟨w.heap.size + 1, 0, none⟩), x5, x6, x7, .chan (some w3.heap.size), x9, x10, .pointer (some ⟨gO, 0, none⟩), x12, x13, x14, x15, x16, x17, x18, x19, x20, x21, x22, x23, x24, x25, x26, x27, x28, x29, x30, x31, x32, x33, x34, x35, x36, x37, x38, x39, x40, x41, x42, x43, x44, x45, x46, x47, x48, x49, x50], defers := [] } ∧ w4.heap.size ≤ gO ∧ OA w' gO 80 q f k A1 st.length c1 (safeB sf) F0 0 0 ∧ Below w4.heap.size w4 w' := ⟨_, rfl⟩
    have HR := Lib.hid hR
    clear hR hF0
    refine CodeN.mid R (fun K hK => ?_) ?_
    · skip
      refine wp_region_held_drew (S := (fun w' => RA w' w2.heap.size 75 q f k A1 st.length c1 (safeB sf))) (by kernel_rfl) hR4 (fun hS => ?_)
      refine wpAnyH_take (i := 0) (oi := ⟨some 38, _, _, _, _, _⟩) rfl (by kernel_rfl) (by kernel_rfl) (by kernel_rfl) (fun _ _ _ h => h) (yields_load_row rfl 75 (.tmp 6) rfl w2.heap.size rfl _ _ _ _ (fun _ h => h) Try.underlying75 rfl (by rw [ring_size]; exact sizeRing)) hS ?_
      try simp only [Act.put, List.setIfInBounds_toArray, List.set_cons_zero, List.set_cons_succ]
      refine wpAnyH_ready (rs := [1, 3]) (by kernel_rfl) (by simp) ?_
      refine AllReadyH.cons (o := ⟨some 39, _, _, _, _, _⟩) rfl (fun K' hK' => ?_) (AllReadyH.cons (o := ⟨some 11, _, _, _, _, _⟩) rfl (fun K' hK' => ?_) AllReadyH.nil)
      focus
        go_simp
        go_at_call 85
        refine (alike_anyV w2.heap.size q f k A1 st.length c1 (safeB sf) _ (by first | exact (RA.rp hR4).drew | exact (RA.rp hR4).drew.alloc _) (-1) hl (by omega) (by omega)).mono ?_
        rintro e w6 ⟨rfl, hx6⟩
        rw [← HF0.out]
        have hb6 : Below w4.heap.size w4 w6 := by first | exact (Below.refl _ w4).drew.trans hx6 | exact ((Below.refl _ w4).drew.alloc (Nat.le_refl _) (.cells Try.zeroCells80 80)).trans (hx6.mono (by simp))
        have hS6 : RA w6 w2.heap.size 75 q f k A1 st.length c1 (safeB sf) := hR4.below hb6 hR4'
        (try have k6 : w6.heap[w4.heap.size]? = some (.cells Try.zeroCells80 80 (0, 0)) := (hx6.block w4.heap.size (by simp)).trans (heap_alloc_at w4.drew (.cells Try.zeroCells80 80) _ rfl))
        refine hK'.out _ _ hS6 (fun _ => ?_)
        clear hK' K'
        try simp only [Act.put, List.setIfInBounds_toArray, List.set_cons_zero, List.set_cons_succ]
        refine wpAnyH_take (i := 2) (oi := ⟨some 40, _, _, _, _, _⟩) rfl (by kernel_rfl) (by kernel_rfl) (by kernel_rfl) (fun _ _ _ h => h) (yields_build rfl 80 [(0, .tmp 38), (1, .tmp 39)] [(0, .agg (ringC q f k A1 st.length c1 (safeB sf))), (1, .agg (standC F0))] (.agg (outC q f k A1 st.length c1 (safeB sf) F0 0 0)) rfl rfl (run_buildOut q f k A1 st.length c1 (safeB sf) F0)) hS6 ?_
        try simp only [Act.put, List.setIfInBounds_toArray, List.set_cons_zero, List.set_cons_succ]
        refine wpAnyH_ready (rs := [3]) (by kernel_rfl) (by simp) ?_
        refine AllReadyH.cons (o := ⟨some 11, _, _, _, _, _⟩) rfl (fun K' hK' => ?_) AllReadyH.nil
        refine step_alloc rfl 80 rfl Try.zeroCells80 run_allocOut ?_
        refine hK'.out _ _ (by first | exact hS6.alloc _ | exact hR4.drew.alloc _ | exact hR4.alloc _) (fun _ => ?_)
        clear hK' K'
        try simp only [Act.put, List.setIfInBounds_toArray, List.set_cons_zero, List.set_cons_succ]
        refine wpAnyH_ready (rs := [4]) (by kernel_rfl) (by simp) ?_
        first | refine cons_store_row (o := ⟨none, .store 80 (.tmp 11) (.tmp 40), 0, _, _, none⟩) rfl rfl 80 (.tmp 11) (.tmp 40) rfl w4.heap.size rfl 80 Try.zeroCells80 (outC q f k A1 st.length c1 (safeB sf) F0 0 0) rfl k6 (by rw [outZ_size, out_size]) (by rw [out_size]; exact sizeOut) out_one ?_ | refine cons_store_row (o := ⟨none, .store 80 (.tmp 11) (.tmp 40), 0, _, _, none⟩) rfl rfl 80 (.tmp 11) (.tmp 40) rfl w6.heap.size rfl 80 Try.zeroCells80 (outC q f k A1 st.length c1 (safeB sf) F0 0 0) rfl (heap_alloc_at w6 (.cells Try.zeroCells80 80) _ rfl) (by rw [outZ_size, out_size]) (by rw [out_size]; exact sizeOut) out_one ?_
        intro w9 h9 g9 s9
        have hb9 : Below w4.heap.size w4 w9 := by first | exact (hb6.alloc hb6.size _).grown g9 (by have := hb6.size; simp; omega) (fun k h => by cases h; exact hb6.size) | exact hb6.grown g9 hb6.size (fun k h => by cases h; exact Nat.le_refl _)
        have hS9 : RA w9 w2.heap.size 75 q f k A1 st.length c1 (safeB sf) := hR4.below hb9 hR4'
        refine ⟨hS9, ?_⟩
        try simp only [Act.put]
        refine wpAnyH_done (by kernel_rfl) ?_ _
      rotate_left 1
      focus
        refine step_alloc rfl 80 rfl Try.zeroCells80 run_allocOut ?_
        refine hK'.out _ _ (by first | exact hS6.alloc _ | exact hR4.drew.alloc _ | exact hR4.alloc _) (fun _ => ?_)
        clear hK' K'
        try simp only [Act.put, List.setIfInBounds_toArray, List.set_cons_zero, List.set_cons_succ]
        refine wpAnyH_ready (rs := [1]) (by kernel_rfl) (by simp) ?_
        refine AllReadyH.cons (o := ⟨some 39, _, _, _, _, _⟩) rfl (fun K' hK' => ?_) AllReadyH.nil
        go_simp
        go_at_call 85
        refine (alike_anyV w2.heap.size q f k A1 st.length c1 (safeB sf) _ (by first | exact (RA.rp hR4).drew | exact (RA.rp hR4).drew.alloc _) (-1) hl (by omega) (by omega)).mono ?_
        rintro e w6 ⟨rfl, hx6⟩
        rw [← HF0.out]
        have hb6 : Below w4.heap.size w4 w6 := by first | exact (Below.refl _ w4).drew.trans hx6 | exact ((Below.refl _ w4).drew.alloc (Nat.le_refl _) (.cells Try.zeroCells80 80)).trans (hx6.mono (by simp))
        have hS6 : RA w6 w2.heap.size 75 q f k A1 st.length c1 (safeB sf) := hR4.below hb6 hR4'
        (try have k6 : w6.heap[w4.heap.size]? = some (.cells Try.zeroCells80 80 (0, 0)) := (hx6.block w4.heap.size (by simp)).trans (heap_alloc_at w4.drew (.cells Try.zeroCells80 80) _ rfl))
        refine hK'.out _ _ hS6 (fun _ => ?_)
        clear hK' K'
        try simp only [Act.put, List.setIfInBounds_toArray, List.set_cons_zero, List.set_cons_succ]
        refine wpAnyH_take (i := 2) (oi := ⟨some 40, _, _, _, _, _⟩) rfl (by kernel_rfl) (by kernel_rfl) (by kernel_rfl) (fun _ _ _ h => h) (yields_build rfl 80 [(0, .tmp 38), (1, .tmp 39)] [(0, .agg (ringC q f k A1 st.length c1 (safeB sf))), (1, .agg (standC F0))] (.agg (outC q f k A1 st.length c1 (safeB sf) F0 0 0)) rfl rfl (run_buildOut q f k A1 st.length c1 (safeB sf) F0)) hS6 ?_
        try simp only [Act.put, List.setIfInBounds_toArray, List.set_cons_zero, List.set_cons_succ]
        refine wpAnyH_ready (rs := [4]) (by kernel_rfl) (by simp) ?_
        first | refine cons_store_row (o := ⟨none, .store 80 (.tmp 11) (.tmp 40), 0, _, _, none⟩) rfl rfl 80 (.tmp 11) (.tmp 40) rfl w4.heap.size rfl 80 Try.zeroCells80 (outC q f k A1 st.length c1 (safeB sf) F0 0 0) rfl k6 (by rw [outZ_size, out_size]) (by rw [out_size]; exact sizeOut) out_one ?_ | refine cons_store_row (o := ⟨none, .store 80 (.tmp 11) (.tmp 40), 0, _, _, none⟩) rfl rfl 80 (.tmp 11) (.tmp 40) rfl w6.heap.size rfl 80 Try.zeroCells80 (outC q f k A1 st.length c1 (safeB sf) F0 0 0) rfl (heap_alloc_at w6 (.cells Try.zeroCells80 80) _ rfl) (by rw [outZ_size, out_size]) (by rw [out_size]; exact sizeOut) out_one ?_
        intro w9 h9 g9 s9
        have hb9 : Below w4.heap.size w4 w9 := by first | exact (hb6.alloc hb6.size _).grown g9 (by have := hb6.size; simp; omega) (fun k h => by cases h; exact hb6.size) | exact hb6.grown g9 hb6.size (fun k h => by cases h; exact Nat.le_refl _)
        have hS9 : RA w9 w2.heap.size 75 q f k A1 st.length c1 (safeB sf) := hR4.below hb9 hR4'
        refine ⟨hS9, ?_⟩
        try simp only [Act.put]
        refine wpAnyH_done (by kernel_rfl) ?_ _
      rotate_left 1
      all_goals
        go_wp2_with fail
        try refine hK _ _ ?_
        rw [HR.out]
        exact ⟨_, _, _, _, _, _, _, _, _, _, _, _, _, _, _, _, _, _, _, _, _, _, _, _, _, _, _, _, _, _, _, _, _, _, _, _, _, _, _, _, _, _, _, _, _, _, _, _, _, rfl, by first | exact hb6.size | exact Nat.le_refl _, h9, hb9⟩
    · intro a wr hR5
      --CUT
      rw [HR.out] at hR5
      obtain ⟨gO, x0, x1, x2, x3, x5, x6, x7, x9, x10, x12, x13, x14, x15, x16, x17, x18, x19, x20, x21, x22, x23, x24, x25, x26, x27, x28, x29, x30, x31, x32, x33, x34, x35, x36, x37, x38, x39, x40, x41, x42, x43, x44, x45, x46, x47, x48, x49, x50, rfl, hgO, hOr, hbr⟩ := hR5
      clear HR
      have hF0 := HF0.out
      have hchr : wr.heap[w3.heap.size]? = some (.chan M.length (bufL Av Lv Cv 0 M.length) false M.length 0 false) := (hbr.block _ hgc).trans hch
      have kr : wr.heap[w.heap.size + 1]? = some (.cells Try.zeroCells80 80 (0, 0)) := (hbr.block _ (heap_lt k4)).trans k4
      have hbr0 : Below w.heap.size w wr := hb40.trans (hbr.mono hb40.size)
      have hbs := hb40.size
      have hb3s := hb3.size
      obtain ⟨I, hI⟩ : ∃ I : Nat → Act → World → Prop, I = fun r a w' => ∃ (j : Nat) (x0 x1 x2 x3 x5 x6 x7 x9 x10 x12 x13 x14 x15 x16 x17 x18 x19 x20 x21 x22 x23 x24 x25 x26 x27 x28 x29 x30 x31 x32 x33 x34 x35 x36 x37 x38 x39 x40 x41 x42 x43 x44 x45 x46 x47 x48 x49 x50 : Value), j + r = M.length ∧ j ≤ J ∧ a = { tmps := #[x0, x1, x2, x3, .pointer (some ⟨w.heap.size + 1, 0, none⟩), x5, x6, x7, .chan (some w3.heap.size), x9, x10, .pointer (some ⟨gO, 0, none⟩), x12, x13, x14, x15, x16, x17, x18, x19, x20, x21, x22, x23, x24, x25, x26, x27, x28, x29, x30, x31, x32, x33, x34, x35, x36, x37, x38, x39, x40, x41, x42, x43, x44, x45, x46, x47, x48, x49, x50], defers := [] } ∧ w'.heap[w3.heap.size]? = some (.chan M.length (bufL Av Lv Cv j (M.length - j)) false M.length j false) ∧ OA w' gO 80 q f k A1 st.length c1 (safeB sf) (plF q f k st sf M j) (j : Int) (plS q f k st sf M j : Int) ∧ w'.heap[w.heap.size + 1]? = some (.cells Try.zeroCells80 80 (0, 0)) ∧ Below w.heap.size w w' := ⟨_, rfl⟩
      have HI := Lib.hid hI
      clear hI
      refine CodeN.block ?_
      refine CodeN.loop (n := M.length) I ?_ (by rw [HI.out]; exact ⟨0, _, _, _, _, _, _, _, _, _, _, _, _, _, _, _, _, _, _, _, _, _, _, _, _, _, _, _, _, _, _, _, _, _, _, _, _, _, _, _, _, _, _, _, _, _, _, _, _, by omega, Nat.zero_le _, rfl, by rw [Nat.sub_zero]; exact hchr, by rw [hF0] at hOr; exact hOr, kr, hbr0⟩)
      clear hchr hOr kr hbr0 hF0 HF0
      intro r a w5 hIr
      rw [HI.out] at hIr
      obtain ⟨j, x0, x1, x2, x3, x5, x6, x7, x9, x10, x12, x13, x14, x15, x16, x17, x18, x19, x20, x21, x22, x23, x24, x25, x26, x27, x28, x29, x30, x31, x32, x33, x34, x35, x36, x37, x38, x39, x40, x41, x42, x43, x44, x45, x46, x47, x48, x49, x50, hjr, hjJ, rfl, hch5, hO5, k5, hb5⟩ := hIr
      refine CodeN.block ?_
      refine CodeN.first fun K Q0 hK _ => ?_
      go_wp2_with fail
      by_cases hj : j < M.length
      · obtain ⟨m, hm⟩ : ∃ m, M.length - j = m + 1 := ⟨M.length - j - 1, by omega⟩
        rw [hm] at hch5
        refine CodeN.seq (CodeN.selectSome (z := .slice none 0 0) (c := w3.heap.size) (v2 := .int .i64 0) (v3 := .bool true) rfl rfl rfl (by first | rfl | kernel_rfl | (simp [execOp, Act.eval]; done)) hch5 (by rw [bufL_size]; omega) (fun _ => rfl) (fun _ => rfl) ?_)
        rw [bufL_head, bufL_tail]
        simp only [go_sem, Exit.then]
        obtain ⟨W5, hW5⟩ : ∃ W5, W5 = w5.setChan w3.heap.size M.length (bufL Av Lv Cv (j + 1) m) false M.length (j + 1) false := ⟨_, rfl⟩
        have hch6 : W5.heap[w3.heap.size]? = some (.chan M.length (bufL Av Lv Cv (j + 1) (M.length - (j + 1))) false M.length (j + 1) false) := by rw [hW5, show M.length - (j + 1) = m by omega]; exact heap_setChan w5 _ _ _ _ _ _ _ (heap_lt hch5)
        have hO6 : OA W5 gO 80 q f k A1 st.length c1 (safeB sf) (plF q f k st sf M j) (j : Int) (plS q f k st sf M j : Int) := by rw [hW5]; exact (setChan_apart w5 _ _ _ _ _ _ (by omega)).trans hO5
        have k6 : W5.heap[w.heap.size + 1]? = some (.cells Try.zeroCells80 80 (0, 0)) := by rw [hW5]; exact (setChan_apart w5 _ _ _ _ _ _ (by omega)).trans k5
        have hb6 : Below w.heap.size w W5 := by rw [hW5]; exact below_setChan hb5 (by omega) _ _ _ _ _ _
        rw [← hW5]
        clear hW5 hch5 hO5 k5 hb5
        obtain ⟨b, off, -, hbw, -, hri, hLv⟩ := HM.out j hj
        have HLv := Lib.hid hLv
        clear hLv
        refine CodeN.block (CodeN.condT rfl ?_)
        refine CodeN.first fun K Q0 hK _ => ?_
        go_wp2_with fail
        refine CodeN.first fun K Q0 hK _ => ?_
        go_wp2_with fail
        rw [HLv.out]
        have hn1 : (j : Int) ≤ 1000 := by omega
        have hs5 := plS_le (M := M) hT j
        have hbd := plF_bd (M := M) hT j (fun i hi => hJ.ok i (by omega))
        by_cases hjJ : j < J
        · have hok := hJ.ok j hjJ
          refine (goesBy_any gO q f k A1 (Av j) c1 (Cv j) st sf (plF q f k st sf M j) (j : Int) (plS q f k st sf M j : Int) (M.getD j []) W5 hO6 (h1.go hb6) (hri.go hb6) hT hbd (by omega) hn1 (by omega) (by omega) true hok (plF q f k st sf M (j + 1)) ((j : Int) + 1) (plS q f k st sf M (j + 1) : Int) (fun h => by cases h) (fun _ => ⟨rfl, rfl, by rw [plS, Int.natCast_add]⟩)).mono ?_
          rintro e w6 ⟨rfl, hO7, hOn⟩
          have hW5g := hO6.lt
          have k7 : w6.heap[w.heap.size + 1]? = some (.cells Try.zeroCells80 80 (0, 0)) := (hOn.block _ (by have := heap_lt k6; omega) (by omega)).trans k6
          have hch7 := (hOn.block w3.heap.size (heap_lt hch6) (by omega)).trans hch6
          have hb7 : Below w.heap.size w w6 := hb6.trans (hOn.below (by omega) hb6.size)
          clear hok hbd hs5 hri
          go_wp2_with fail
          refine CodeN.condF rfl (CodeN.skip ?_)
          simp only [Exit.then, Exit.inBlock]
          refine ⟨r - 1, by omega, ?_⟩
          rw [HI.out]
          exact ⟨j + 1, _, _, _, _, _, _, _, _, _, _, _, _, _, _, _, _, _, _, _, _, _, _, _, _, _, _, _, _, _, _, _, _, _, _, _, _, _, _, _, _, _, _, _, _, _, _, _, _, by omega, by omega, rfl, hch7, hO7, k7, hb7⟩
        · obtain rfl : j = J := by omega
          have hno := hJ.no hj
          refine (goesBy_any gO q f k A1 (Av j) c1 (Cv j) st sf (plF q f k st sf M j) (j : Int) (plS q f k st sf M j : Int) (M.getD j []) W5 hO6 (h1.go hb6) (hri.go hb6) hT hbd (by omega) hn1 (by omega) (by omega) false hno _ _ _ (fun _ => ⟨rfl, rfl, rfl⟩) (fun h => by cases h)).mono ?_
          rintro e w6 ⟨rfl, hO7, hOn⟩
          have hW5g := hO6.lt
          have k7 : w6.heap[w.heap.size + 1]? = some (.cells Try.zeroCells80 80 (0, 0)) := (hOn.block _ (by have := heap_lt k6; omega) (by omega)).trans k6
          have hb7 : Below w.heap.size w w6 := hb6.trans (hOn.below (by omega) hb6.size)
          have hOe : w6.heap[gO]? = some (.cells (outC q f k A1 st.length c1 (safeB sf) (plF q f k st sf M j) (j : Int) (plS q f k st sf M j : Int)) 80 (0, 0)) := hO7
          clear hno hbd hs5 hri hJ
          go_wp2_with fail
          refine CodeN.condT rfl ?_
          refine CodeN.first fun K Q0 hK _ => ?_
          go_wp2_with (first
            | (refine wpList_load_row rfl 80 (.tmp 11) rfl gO rfl _ _ _ _ hOe Try.underlying80 rfl ?_ ?_; (rw [out_size]; exact sizeOut))
            | (refine wpList_store_row rfl 80 (.tmp 4) _ rfl (w.heap.size + 1) rfl _ _ (outC q f k A1 st.length c1 (safeB sf) (plF q f k st sf M j) (j : Int) (plS q f k st sf M j : Int)) rfl k7 ?_ ?_ out_one ?_; (rw [outZ_size, out_size]); (rw [out_size]; exact sizeOut); intro w9 hC9 hg9 hs9))
          refine CodeN.ret ?_
          simp only [Exit.then, Exit.inBlock]
          exact bodyPost_ret (v := .tuple #[.agg (outC q f k A1 st.length c1 (safeB sf) (plF q f k st sf M j) (j : Int) (plS q f k st sf M j : Int)), .bool true]) (results_cell_slot Try.results57 _ _ _ _ _ _ _ _ rfl rfl hC9 Try.underlying80 rfl (by rw [out_size]; exact sizeOut)) rfl
            ⟨rfl, hb7.grown hg9 hb7.size (fun k h => by cases h; omega)⟩
      · obtain rfl : j = M.length := by omega
        obtain rfl : J = M.length := by have := hJ.le; omega
        rw [Nat.sub_self] at hch5
        refine CodeN.seq (CodeN.selectNone (z := .slice none 0 0) (c := w3.heap.size) (v2 := .int .i64 (-1)) (v3 := .bool false) rfl rfl rfl (by first | rfl | kernel_rfl | (simp [execOp, Act.eval]; done)) hch5 (fun _ => rfl) (fun _ => rfl) ?_)
        simp only [go_sem, Exit.then]
        have hb7 := hb5
        have k7 := k5
        have hOe : w5.heap[gO]? = some (.cells (outC q f k A1 st.length c1 (safeB sf) (plF q f k st sf M M.length) (M.length : Int) (plS q f k st sf M M.length : Int)) 80 (0, 0)) := hO5
        clear hb5 hO5 hJ
        refine CodeN.block (CodeN.condF rfl ?_)
        refine CodeN.first fun K Q0 hK _ => ?_
        go_wp2_with (first
          | (refine wpList_load_row rfl 80 (.tmp 11) rfl gO rfl _ _ _ _ hOe Try.underlying80 rfl ?_ ?_; (rw [out_size]; exact sizeOut))
          | (refine wpList_store_row rfl 80 (.tmp 4) _ rfl (w.heap.size + 1) rfl _ _ (outC q f k A1 st.length c1 (safeB sf) (plF q f k st sf M M.length) (M.length : Int) (plS q f k st sf M M.length : Int)) rfl k7 ?_ ?_ out_one ?_; (rw [outZ_size, out_size]); (rw [out_size]; exact sizeOut); intro w9 hC9 hg9 hs9))
        refine CodeN.ret ?_
        simp only [Exit.then, Exit.inBlock]
        exact bodyPost_ret (v := .tuple #[.agg (outC q f k A1 st.length c1 (safeB sf) (plF q f k st sf M M.length) (M.length : Int) (plS q f k st sf M M.length : Int)), .bool true]) (results_cell_slot Try.results57 _ _ _ _ _ _ _ _ rfl rfl hC9 Try.underlying80 rfl (by rw [out_size]; exact sizeOut)) rfl
          ⟨rfl, hb7.grown hg9 hb7.size (fun k h => by cases h; omega)⟩
end Go.Proofs.Ytmhffdgfkgdmlaa

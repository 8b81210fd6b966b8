/-
  Walks: walkFrom. Written by program (wip/tools/gen_walkfrom.py).
-/
import Derived.Test.YtiekdokgjdgajabC1d
import Derived.Test.YtiekdokgjdgajabC2k
import Derived.Test.YtiekdokgjdgajabWReg
namespace Go.Proofs.Ytiekdokgjdgajab
open Go.RowKit

theorem walkZero : Try.zeroCells57 = wlkCells 0 0 0 (fun _ => 0) 0 0 none none := by kernel_rfl
theorem sizeWalk : (Try.prog.info? 57).map (·.size) = some 108 := by kernel_rfl
theorem sizeSpot : (Try.prog.info? 82).map (·.size) = some 2 := by kernel_rfl
theorem run_buildWalk (w : World) (s f o : Int) (G : Nat → Int) (wt al : Int) (l b : Option Nat) : (Instr.build 57 #[(0, .agg (crsCells s f o G)), (1, .int .i64 wt), (2, .int .i64 al), (3, .map l), (4, .map b)]).run Try.prog w = .ok (.agg (wlkCells s f o G wt al l b)) w := by kernel_rfl

/-- Block g is a walk. -/
def WA (w : World) (g : Nat) (s f o : Int) (G : Nat → Int) (wt al : Int) (l b : Option Nat) : Prop := w.heap[g]? = some (.cells (wlkCells s f o G wt al l b) 57 (0, 0))
/-- Block b is a map from spots that reads as c. -/
abbrev SW (w : World) (b : Nat) (c : Int → Bool → Int) : Prop := SM Try.prog 82 3 w b c

theorem results_cell1 {P : Program} {fn : Func} {p : Tmp} {ty : TypeId} (h : fn.results = #[.cell p ty]) (tmps : Array Value) (w : World) (g : Nat) (t : TypeId) (cs : Array Value) (fr : Nat × Nat) (d : TypeDesc)
    (hp : tmps.getD p undef = .pointer (some ⟨g, 0, none⟩)) (hg : w.heap[g]? = some (.cells cs t fr))
    (hu : P.underlying ty = some d) (hd : (match d with | .struct _ | .array _ _ => true | _ => false) = true) (hi : (P.info? ty).map (·.size) = some cs.size) :
    (results fn tmps).run P w = .ok (.agg cs) w := by
  have hp' : tmps[p]?.getD undef = .pointer (some ⟨g, 0, none⟩) := by simpa using hp
  simp [results, h, hp', asAddr, run_loadVar_row w g t ty cs fr d hg hu hd hi]

set_option maxRecDepth 100000 in
set_option maxHeartbeats 1000000 in
theorem walkFrom_any (s f o : Int) (G : Nat → Int) (sq wt : Int) (w : World) (h0 : 0 ≤ sq) (h1 : sq ≤ 100) :
    Calls Try.prog 79 #[.agg (crsCells s f o G), .int .i64 sq, .int .i64 wt] w fun e w' => ∃ bl bb, e = .returned (.agg (wlkCells s f o G wt 1 (some bl) (some bb))) ∧
      w.heap.size ≤ bl ∧ w.heap.size ≤ bb ∧ bl ≠ bb ∧ SW w' bl (fun q m => if q = sq ∧ m = (sq == wt) then 1 else 0) ∧ SW w' bb (fun _ _ => 0) ∧ Below w.heap.size w w' := by
  have hst := storeCourse s f o G
  go_enter Try.func79, Try.ntmps79
  go_wp2_with fail
  clear hst
  obtain ⟨W, hW⟩ : ∃ W, W = (((w.alloc (.cells (crsCells s f o G) 54)).alloc (.cells Try.zeroCells57 57)).alloc (.cells #[.int .i64 sq, .bool (sq == wt)] 82)) := ⟨_, rfl⟩
  rw [← hW]
  have hB : Below w.heap.size w W := by rw [hW]; exact below3 _ _ _ _
  have hsz : W.heap.size = w.heap.size + 3 := by rw [hW]; simp
  have e2 : W.heap[w.heap.size + 1 + 1]? = some (.cells #[.int .i64 sq, .bool (sq == wt)] 82 (0, 0)) := by rw [hW]; exact heap_alloc_at _ _ _ (by simp)
  have e1 : W.heap[w.heap.size + 1]? = some (.cells Try.zeroCells57 57 (0, 0)) := by rw [hW]; exact (Below.heap_alloc _ _ _ (by simp)).trans (heap_alloc_at _ _ _ (by simp))
  have e0 : W.heap[w.heap.size]? = some (.cells (crsCells s f o G) 54 (0, 0)) := by rw [hW]; exact (Below.heap_alloc _ _ _ (by simp; omega)).trans ((Below.heap_alloc _ _ _ (by simp)).trans (heap_alloc_at _ _ _ rfl))
  clear hW
  obtain ⟨S, hSd⟩ : ∃ S : World → Prop, S = fun w' => w.heap.size + 3 ≤ w'.heap.size ∧ Below w.heap.size w w' ∧ w'.heap[w.heap.size]? = some (.cells (crsCells s f o G) 54 (0, 0)) ∧ (∃ cs, w'.heap[w.heap.size + 1]? = some (.cells cs 57 (0, 0)) ∧ cs.size = 108) ∧ w'.heap[w.heap.size + 1 + 1]? = some (.cells #[.int .i64 sq, .bool (sq == wt)] 82 (0, 0)) := ⟨_, rfl⟩
  have hS0 : S W.drew := by rw [hSd]; exact ⟨by show w.heap.size + 3 ≤ W.heap.size; omega, drewB hB 1, e0, ⟨_, e1, by rw [walkZero, wlk_size]⟩, e2⟩
  have kA : ∀ w' o, S w' → S (w'.alloc o) := fun w' o h => by
    rw [hSd] at h ⊢
    obtain ⟨a0, a1, a2, ⟨cs, a3, a4⟩, a5⟩ := h
    exact ⟨by simp; omega, a1.alloc (by omega) _, (Below.heap_alloc _ _ _ (heap_lt a2)).trans a2, ⟨cs, (Below.heap_alloc _ _ _ (heap_lt a3)).trans a3, a4⟩, (Below.heap_alloc _ _ _ (heap_lt a5)).trans a5⟩
  have kG : ∀ w' w'' b, S w' → w'.grownBy w'' (some b) → w.heap.size + 3 ≤ b → S w'' := fun w' w'' b h hg hb => by
    rw [hSd] at h ⊢
    obtain ⟨a0, a1, a2, ⟨cs, a3, a4⟩, a5⟩ := h
    exact ⟨Nat.le_trans a0 hg.size, a1.grown hg (by omega) (fun k e => by cases e; omega), (hg.block _ (heap_lt a2) (by simp; omega)).trans a2, ⟨cs, (hg.block _ (heap_lt a3) (by simp; omega)).trans a3, a4⟩, (hg.block _ (heap_lt a5) (by simp; omega)).trans a5⟩
  have kL0 : ∀ w', S w' → w'.heap[w.heap.size]? = some (.cells (crsCells s f o G) 54 (0, 0)) := fun w' h => by rw [hSd] at h; exact h.2.2.1
  have kL2 : ∀ w', S w' → w'.heap[w.heap.size + 1 + 1]? = some (.cells #[.int .i64 sq, .bool (sq == wt)] 82 (0, 0)) := fun w' h => by rw [hSd] at h; exact h.2.2.2.2
  have kL1 : ∀ w', S w' → ∃ cs, w'.heap[w.heap.size + 1]? = some (.cells cs 57 (0, 0)) ∧ cs.size = 108 := fun w' h => by rw [hSd] at h; exact h.2.2.2.1
  have kB : ∀ w', S w' → w.heap.size + 3 ≤ w'.heap.size ∧ Below w.heap.size w w' := fun w' h => by rw [hSd] at h; exact ⟨h.1, h.2.1⟩
  have one : wfi 1 = true := by decide
  refine wp_region_held_drew (S := S) (by kernel_rfl) hS0 (fun _ => ?_)
  have z0 : W.drew.heap.size = W.heap.size := rfl
  generalize W.drew = V at *
  refine wpAnyH_take (i := 0) (oi := ⟨some 13, _, _, _, _, _⟩) rfl (by kernel_rfl) (by kernel_rfl) (by kernel_rfl) (fun _ _ _ h => h) (yields_load_row rfl 54 (.tmp 3) rfl w.heap.size rfl _ _ _ _ kL0 Try.underlying54 rfl (by rw [crs_size]; exact sizeCourse)) hS0 ?_
  simp only [Act.put, List.setIfInBounds_toArray, List.set_cons_zero, List.set_cons_succ]
  refine wpAnyH_take (i := 1) (oi := ⟨some 14, _, _, _, _, _⟩) rfl (by kernel_rfl) (by kernel_rfl) (by kernel_rfl) (fun _ _ _ h => h) (yields_move rfl (.tmp 2) (.int .i64 wt) rfl rfl) hS0 ?_
  simp only [Act.put, List.setIfInBounds_toArray, List.set_cons_zero, List.set_cons_succ]
  refine wpAnyH_take (i := 3) (oi := ⟨some 16, _, _, _, _, _⟩) rfl (by kernel_rfl) (by kernel_rfl) (by kernel_rfl) (fun _ _ _ h => h) (yields_load_row rfl 82 (.tmp 7) rfl (w.heap.size + 1 + 1) rfl _ _ _ _ kL2 Try.underlying82 rfl sizeSpot) hS0 ?_
  simp only [Act.put, List.setIfInBounds_toArray, List.set_cons_zero, List.set_cons_succ]
  have updOne : ∀ q m, updS (fun _ _ => 0) sq (sq == wt) 1 q m = if q = sq ∧ m = (sq == wt) then 1 else 0 := fun q m => rfl
  refine wpAnyH_ready (rs := [2, 6]) (by kernel_rfl) (by simp) ?_
  refine rd_makeMap (o := ⟨some 15, _, _, _, _, _⟩) rfl rfl 55 rfl (kA _ _ hS0) ?_ ?_
  · have m2 : SW (V.alloc (.map #[] 0)) V.heap.size (fun _ _ => 0) := SM.made _ _ _ _
    have hS2 := kA V (.map #[] 0) hS0
    simp only [Act.put, List.setIfInBounds_toArray, List.set_cons_zero, List.set_cons_succ]
    refine wpAnyH_ready (rs := [4, 6]) (by kernel_rfl) (by simp) ?_
    refine rd_insert (o := ⟨none, _, _, _, _, _⟩) spotKey rfl rfl 55 (.tmp 15) (.tmp 16) (.const (.int .i64 1)) rfl mapU intU V.heap.size _ m2 sq (sq == wt) 1 rfl rfl rfl h0 h1 (by decide) one ?_ ?_
    · intro w4 m4 g4
      have hS4 := kG _ _ _ hS2 g4 (kB _ hS0).1
      refine ⟨hS4, ?_⟩
      simp only [Act.put]
      refine wpAnyH_take (i := 5) (oi := ⟨some 17, _, _, _, _, _⟩) rfl (by kernel_rfl) (by kernel_rfl) (by kernel_rfl) (fun _ _ _ h => h) (yields_move rfl (.tmp 15) (.map (some V.heap.size)) rfl rfl) hS4 ?_
      simp only [Act.put, List.setIfInBounds_toArray, List.set_cons_zero, List.set_cons_succ]
      refine wpAnyH_ready (rs := [6]) (by kernel_rfl) (by simp) ?_
      refine rd_makeMap (o := ⟨some 18, _, _, _, _, _⟩) rfl rfl 55 rfl (kA _ _ hS4) ?_ AllReadyH.nil
      have m6 : SW (w4.alloc (.map #[] 0)) w4.heap.size (fun _ _ => 0) := SM.made _ _ _ _
      have hS6 := kA w4 (.map #[] 0) hS4
      have m46 := m4.alloc (.map #[] 0)
      have hV := (kB _ hS0).1
      have hV4 := m4.lt
      simp only [Act.put, List.setIfInBounds_toArray, List.set_cons_zero, List.set_cons_succ]
      refine wpAnyH_take (i := 7) (oi := ⟨some 19, _, _, _, _, _⟩) rfl (by kernel_rfl) (by kernel_rfl) (by kernel_rfl) (fun _ _ _ h => h) (yields_build rfl _ _ _ (.agg (wlkCells s f o G wt 1 (some V.heap.size) (some w4.heap.size))) rfl rfl (fun w => run_buildWalk w s f o G wt 1 _ _)) hS6 ?_
      simp only [Act.put, List.setIfInBounds_toArray, List.set_cons_zero, List.set_cons_succ]
      refine wpAnyH_ready (rs := [8]) (by kernel_rfl) (by simp) ?_
      obtain ⟨cs, c1, c2⟩ := kL1 _ hS6
      refine rd_store_row (o := ⟨none, _, _, _, _, _⟩) rfl rfl 57 (.tmp 6) (.tmp 19) rfl (w.heap.size + 1) rfl 57 _ _ rfl c1 (by rw [wlk_size, c2]) (by rw [wlk_size]; exact sizeWalk) (wlk_one _ _ _ _ _ _ _ _) ?_ AllReadyH.nil
      intro w9 h9 g9 s9
      have hk := kB _ hS6
      have hlL := (m46).lt
      have hlB := (m6).lt
      refine ⟨?_, wpAnyH_done (by kernel_rfl) ?_ _⟩
      · rw [hSd]; exact ⟨by omega, hk.2.grown g9 (by omega) (fun k e => by cases e; omega), (g9.block _ (by omega) (by simp)).trans (kL0 _ hS6), ⟨_, h9, wlk_size _ _ _ _ _ _ _ _⟩, (g9.block _ (by omega) (by simp)).trans (kL2 _ hS6)⟩
      · simp only [Act.put]
        go_wp2
        exact bodyPost_ret (v := .agg (wlkCells s f o G wt 1 (some V.heap.size) (some w4.heap.size))) (results_cell1 Try.results79 _ _ _ _ _ _ _ rfl h9 Try.underlying57 rfl (by rw [wlk_size]; exact sizeWalk)) rfl
          ⟨V.heap.size, w4.heap.size, rfl, by omega, by omega, by omega, ((m46).kept g9 (by simp; omega)).congr updOne, (m6).kept g9 (by simp; omega), hk.2.grown g9 (by omega) (fun k e => by cases e; omega)⟩
    · refine rd_makeMap (o := ⟨some 18, _, _, _, _, _⟩) rfl rfl 55 rfl (kA _ _ hS2) ?_ AllReadyH.nil
      have m6 : SW ((V.alloc (.map #[] 0)).alloc (.map #[] 0)) (V.alloc (.map #[] 0)).heap.size (fun _ _ => 0) := SM.made _ _ _ _
      have hS6 := kA _ (.map #[] 0) hS2
      have m26 := m2.alloc (.map #[] 0)
      have hV := (kB _ hS0).1
      have z2 : (V.alloc (.map #[] 0)).heap.size = V.heap.size + 1 := by simp
      simp only [Act.put, List.setIfInBounds_toArray, List.set_cons_zero, List.set_cons_succ]
      refine wpAnyH_ready (rs := [4]) (by kernel_rfl) (by simp) ?_
      refine rd_insert (o := ⟨none, _, _, _, _, _⟩) spotKey rfl rfl 55 (.tmp 15) (.tmp 16) (.const (.int .i64 1)) rfl mapU intU V.heap.size _ m26 sq (sq == wt) 1 rfl rfl rfl h0 h1 (by decide) one ?_ AllReadyH.nil
      intro w4 m4 g4
      have hS4 := kG _ _ _ hS6 g4 (kB _ hS0).1
      have m64 := m6.kept g4 (by simp)
      refine ⟨hS4, ?_⟩
      simp only [Act.put]
      refine wpAnyH_take (i := 5) (oi := ⟨some 17, _, _, _, _, _⟩) rfl (by kernel_rfl) (by kernel_rfl) (by kernel_rfl) (fun _ _ _ h => h) (yields_move rfl (.tmp 15) (.map (some V.heap.size)) rfl rfl) hS4 ?_
      simp only [Act.put, List.setIfInBounds_toArray, List.set_cons_zero, List.set_cons_succ]
      refine wpAnyH_take (i := 7) (oi := ⟨some 19, _, _, _, _, _⟩) rfl (by kernel_rfl) (by kernel_rfl) (by kernel_rfl) (fun _ _ _ h => h) (yields_build rfl _ _ _ (.agg (wlkCells s f o G wt 1 (some V.heap.size) (some (V.alloc (.map #[] 0)).heap.size))) rfl rfl (fun w => run_buildWalk w s f o G wt 1 _ _)) hS4 ?_
      simp only [Act.put, List.setIfInBounds_toArray, List.set_cons_zero, List.set_cons_succ]
      refine wpAnyH_ready (rs := [8]) (by kernel_rfl) (by simp) ?_
      obtain ⟨cs, c1, c2⟩ := kL1 _ hS4
      refine rd_store_row (o := ⟨none, _, _, _, _, _⟩) rfl rfl 57 (.tmp 6) (.tmp 19) rfl (w.heap.size + 1) rfl 57 _ _ rfl c1 (by rw [wlk_size, c2]) (by rw [wlk_size]; exact sizeWalk) (wlk_one _ _ _ _ _ _ _ _) ?_ AllReadyH.nil
      intro w9 h9 g9 s9
      have hk := kB _ hS4
      have hlL := (m4).lt
      have hlB := (m64).lt
      refine ⟨?_, wpAnyH_done (by kernel_rfl) ?_ _⟩
      · rw [hSd]; exact ⟨by omega, hk.2.grown g9 (by omega) (fun k e => by cases e; omega), (g9.block _ (by omega) (by simp)).trans (kL0 _ hS4), ⟨_, h9, wlk_size _ _ _ _ _ _ _ _⟩, (g9.block _ (by omega) (by simp)).trans (kL2 _ hS4)⟩
      · simp only [Act.put]
        go_wp2
        exact bodyPost_ret (v := .agg (wlkCells s f o G wt 1 (some V.heap.size) (some (V.alloc (.map #[] 0)).heap.size))) (results_cell1 Try.results79 _ _ _ _ _ _ _ rfl h9 Try.underlying57 rfl (by rw [wlk_size]; exact sizeWalk)) rfl
          ⟨V.heap.size, (V.alloc (.map #[] 0)).heap.size, rfl, by omega, by omega, by omega, ((m4).kept g9 (by simp; omega)).congr updOne, (m64).kept g9 (by simp; omega), hk.2.grown g9 (by omega) (fun k e => by cases e; omega)⟩
  · refine rd_makeMap (o := ⟨some 18, _, _, _, _, _⟩) rfl rfl 55 rfl (kA _ _ hS0) ?_ AllReadyH.nil
    have m6 : SW (V.alloc (.map #[] 0)) V.heap.size (fun _ _ => 0) := SM.made _ _ _ _
    have hS6 := kA V (.map #[] 0) hS0
    have hV := (kB _ hS0).1
    simp only [Act.put, List.setIfInBounds_toArray, List.set_cons_zero, List.set_cons_succ]
    refine wpAnyH_ready (rs := [2]) (by kernel_rfl) (by simp) ?_
    refine rd_makeMap (o := ⟨some 15, _, _, _, _, _⟩) rfl rfl 55 rfl (kA _ _ hS6) ?_ AllReadyH.nil
    have m2 : SW ((V.alloc (.map #[] 0)).alloc (.map #[] 0)) (V.alloc (.map #[] 0)).heap.size (fun _ _ => 0) := SM.made _ _ _ _
    have hS2 := kA _ (.map #[] 0) hS6
    have m62 := m6.alloc (.map #[] 0)
    have z2 : (V.alloc (.map #[] 0)).heap.size = V.heap.size + 1 := by simp
    simp only [Act.put, List.setIfInBounds_toArray, List.set_cons_zero, List.set_cons_succ]
    refine wpAnyH_ready (rs := [4]) (by kernel_rfl) (by simp) ?_
    refine rd_insert (o := ⟨none, _, _, _, _, _⟩) spotKey rfl rfl 55 (.tmp 15) (.tmp 16) (.const (.int .i64 1)) rfl mapU intU (V.alloc (.map #[] 0)).heap.size _ m2 sq (sq == wt) 1 rfl rfl rfl h0 h1 (by decide) one ?_ AllReadyH.nil
    intro w4 m4 g4
    have hS4 := kG _ _ _ hS2 g4 (by omega)
    have m64 := m62.kept g4 (by simp)
    refine ⟨hS4, ?_⟩
    simp only [Act.put]
    refine wpAnyH_take (i := 5) (oi := ⟨some 17, _, _, _, _, _⟩) rfl (by kernel_rfl) (by kernel_rfl) (by kernel_rfl) (fun _ _ _ h => h) (yields_move rfl (.tmp 15) (.map (some (V.alloc (.map #[] 0)).heap.size)) rfl rfl) hS4 ?_
    simp only [Act.put, List.setIfInBounds_toArray, List.set_cons_zero, List.set_cons_succ]
    refine wpAnyH_take (i := 7) (oi := ⟨some 19, _, _, _, _, _⟩) rfl (by kernel_rfl) (by kernel_rfl) (by kernel_rfl) (fun _ _ _ h => h) (yields_build rfl _ _ _ (.agg (wlkCells s f o G wt 1 (some (V.alloc (.map #[] 0)).heap.size) (some V.heap.size))) rfl rfl (fun w => run_buildWalk w s f o G wt 1 _ _)) hS4 ?_
    simp only [Act.put, List.setIfInBounds_toArray, List.set_cons_zero, List.set_cons_succ]
    refine wpAnyH_ready (rs := [8]) (by kernel_rfl) (by simp) ?_
    obtain ⟨cs, c1, c2⟩ := kL1 _ hS4
    refine rd_store_row (o := ⟨none, _, _, _, _, _⟩) rfl rfl 57 (.tmp 6) (.tmp 19) rfl (w.heap.size + 1) rfl 57 _ _ rfl c1 (by rw [wlk_size, c2]) (by rw [wlk_size]; exact sizeWalk) (wlk_one _ _ _ _ _ _ _ _) ?_ AllReadyH.nil
    intro w9 h9 g9 s9
    have hk := kB _ hS4
    have hlL := (m4).lt
    have hlB := (m64).lt
    refine ⟨?_, wpAnyH_done (by kernel_rfl) ?_ _⟩
    · rw [hSd]; exact ⟨by omega, hk.2.grown g9 (by omega) (fun k e => by cases e; omega), (g9.block _ (by omega) (by simp)).trans (kL0 _ hS4), ⟨_, h9, wlk_size _ _ _ _ _ _ _ _⟩, (g9.block _ (by omega) (by simp)).trans (kL2 _ hS4)⟩
    · simp only [Act.put]
      go_wp2
      exact bodyPost_ret (v := .agg (wlkCells s f o G wt 1 (some (V.alloc (.map #[] 0)).heap.size) (some V.heap.size))) (results_cell1 Try.results79 _ _ _ _ _ _ _ rfl h9 Try.underlying57 rfl (by rw [wlk_size]; exact sizeWalk)) rfl
        ⟨(V.alloc (.map #[] 0)).heap.size, V.heap.size, rfl, by omega, by omega, by omega, ((m4).kept g9 (by simp; omega)).congr updOne, (m64).kept g9 (by simp; omega), hk.2.grown g9 (by omega) (fun k e => by cases e; omega)⟩
end Go.Proofs.Ytiekdokgjdgajab

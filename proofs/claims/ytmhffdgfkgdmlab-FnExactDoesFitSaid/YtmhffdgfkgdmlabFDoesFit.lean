/-
  The law FnExactDoesFit, walked.
-/
import Derived.Test.YtmhffdgfkgdmlabC9m
import Derived.Test.YtmhffdgfkgdmlabL1
import Derived.Test.YtmhffdgfkgdmlabL80
import Derived.Test.YtmhffdgfkgdmlabWReg
namespace Go.Proofs.Ytmhffdgfkgdmlab
open Go.RowKit

theorem sizeClueL : (Try.prog.info? 26).map (·.size) = some 4 := by kernel_rfl
theorem sizeBoardL : (Try.prog.info? 29).map (·.size) = some 4 := by kernel_rfl
set_option maxRecDepth 100000 in
theorem lawDoesFit_big (k a b d s f o : Int) (A : Option Addr) (n c : Nat) (w : World) (hn : n ≤ maxLen) (h : 1048576 < n) :
    Calls Try.prog 4 #[.agg #[.int .i64 k, .int .i64 a, .int .i64 b, .int .i64 d], .agg #[.int .i64 s, .int .i64 f, .int .i64 o, .slice A n c]] w fun e w' => e = .returned (.bool true) ∧ Below w.heap.size w w' := by
  have h1 : (1048576 : Int) < n := by omega
  go_enter Try.func4, Try.ntmps4
  go_wp2_with (go_at_call 17; refine (szBoard_any _ _ _ _ _ _ _ _ hn (by omega) (by omega)).mono ?_; rintro e w1 ⟨rfl, hx⟩)
  go_ret
  exact ⟨rfl, (below2 _ _ _).trans (hx.mono (by simp; omega))⟩
set_option maxRecDepth 100000 in
set_option maxHeartbeats 1000000 in
theorem lawDoesFit_small (k a b d s f o : Int) (A : Option Addr) (c : Nat) (js : List (Int × Int)) (w : World) (hj : RJ w w.heap.size A js) :
    Calls Try.prog 4 #[.agg #[.int .i64 k, .int .i64 a, .int .i64 b, .int .i64 d], .agg #[.int .i64 s, .int .i64 f, .int .i64 o, .slice A js.length c]] w fun e w' => e = .returned (.bool true) ∧ Below w.heap.size w w' := by
  have hl := hj.1
  have h2 : ¬ (1048576 : Int) - js.length < 0 := by omega
  obtain ⟨x, ok, hSP, hIP⟩ := doesFit_both s f o js k a b d
  have HSP := Lib.hid hSP; have HIP := Lib.hid hIP; clear hSP hIP
  have hE : (s == s && f == f && o == o && js == js) = true := by simp
  have HE := Lib.hid hE; clear hE
  go_enter Try.func4, Try.ntmps4
  go_wp2_with fail
  obtain ⟨W0, hW0⟩ : ∃ W0, W0 = (w.alloc (.cells #[.int .i64 k, .int .i64 a, .int .i64 b, .int .i64 d] 26)).alloc (.cells #[.int .i64 s, .int .i64 f, .int .i64 o, .slice A js.length c] 29) := ⟨_, rfl⟩
  have z0 : w.heap.size + 2 ≤ W0.heap.size := by rw [hW0]; simp
  have h0 : Below w.heap.size w W0 := by rw [hW0]; exact below2 _ _ _
  have k1 : W0.heap[w.heap.size]? = some (.cells #[.int .i64 k, .int .i64 a, .int .i64 b, .int .i64 d] 26 (0, 0)) := by rw [hW0]; exact (Below.heap_alloc _ _ _ (by simp)).trans (heap_alloc_at _ _ _ rfl)
  have k2 : W0.heap[w.heap.size + 1]? = some (.cells #[.int .i64 s, .int .i64 f, .int .i64 o, .slice A js.length c] 29 (0, 0)) := by rw [hW0]; exact heap_alloc_at _ _ _ (by simp)
  rw [← hW0]
  have HW0 := Lib.hid hW0; clear hW0
  have hSo : ∀ B, w.heap.size + 2 ≤ B → ∀ w', Below B W0 w' → (Below (w.heap.size + 2) W0 w' ∧ w'.heap[w.heap.size]? = some (.cells #[.int .i64 k, .int .i64 a, .int .i64 b, .int .i64 d] 26 (0, 0)) ∧ w'.heap[w.heap.size + 1]? = some (.cells #[.int .i64 s, .int .i64 f, .int .i64 o, .slice A js.length c] 29 (0, 0))) :=
    fun B hB w' hb => ⟨hb.mono hB, (hb.block _ (by omega)).trans k1, (hb.block _ (by omega)).trans k2⟩
  have HSO := Lib.hid hSo; clear hSo
  have hRJ : ∀ w', Below W0.heap.size W0 w' → RJ w' w'.heap.size A js := fun w' hb => hj.go (h0.trans (hb.mono (by omega)))
  have HRJ := Lib.hid hRJ; clear hRJ
  refine (szBoard_any _ _ _ _ _ _ _ _ (by unfold maxLen; omega) (by omega) (by omega)).mono ?_
  rintro e w1 ⟨rfl, hx⟩
  rw [if_neg (show ¬ (1048576 : Int) < (js.length : Int) by omega)]
  have D : Below W0.heap.size W0 w1 := hx
  clear hx k1 k2
  go_wp2_with fail
  replace D := D.drew
  refine wp_region_held_drew (S := (fun w' => Below (w.heap.size + 2) W0 w' ∧ w'.heap[w.heap.size]? = some (.cells #[.int .i64 k, .int .i64 a, .int .i64 b, .int .i64 d] 26 (0, 0)) ∧ w'.heap[w.heap.size + 1]? = some (.cells #[.int .i64 s, .int .i64 f, .int .i64 o, .slice A js.length c] 29 (0, 0)))) (by kernel_rfl) (HSO.out _ (by omega) _ D) (fun hS => ?_)
  refine wpAnyH_take (i := 0) (oi := ⟨some 17, _, _, _, _, _⟩) rfl (by kernel_rfl) (by kernel_rfl) (by kernel_rfl) (fun _ _ _ h => h) (yields_load_row rfl 26 (.tmp 2) rfl w.heap.size rfl _ _ _ _ (fun _ h => h.2.1) Try.underlying26 rfl sizeClueL) hS ?_
  try simp only [Act.put, List.setIfInBounds_toArray, List.set_cons_zero, List.set_cons_succ]
  refine wpAnyH_take (i := 2) (oi := ⟨some 19, _, _, _, _, _⟩) rfl (by kernel_rfl) (by kernel_rfl) (by kernel_rfl) (fun _ _ _ h => h) (yields_load_row rfl 29 (.tmp 3) rfl (w.heap.size + 1) rfl _ _ _ _ (fun _ h => h.2.2) Try.underlying29 rfl sizeBoardL) hS ?_
  try simp only [Act.put, List.setIfInBounds_toArray, List.set_cons_zero, List.set_cons_succ]
  refine wpAnyH_ready (rs := [1]) (by kernel_rfl) (by simp) ?_
  refine AllReadyH.cons (o := ⟨some 18, _, _, _, _, _⟩) rfl (fun K' hK' => ?_) AllReadyH.nil
  go_simp
  go_at_call 19
  refine (toClue_any _ _ _ _ _).mono ?_
  rintro e w2a ⟨rfl, hx⟩
  (try replace hrow := hrow.below hx hrow.lt)
  replace D := D.trans (hx.mono D.size)
  clear hx
  refine hK'.out _ _ (HSO.out _ (by omega) _ D) (fun _ => ?_)
  clear hK' K'
  try simp only [Act.put, List.setIfInBounds_toArray, List.set_cons_zero, List.set_cons_succ]
  refine wpAnyH_ready (rs := [3]) (by kernel_rfl) (by simp) ?_
  refine AllReadyH.cons (o := ⟨some 20, _, _, _, _, _⟩) rfl (fun K' hK' => ?_) AllReadyH.nil
  go_simp
  go_at_call 20
  refine (toBoard_any _ _ _ _ _ _ _ (HRJ.out _ D)).mono ?_
  rintro e w2b ⟨g, rfl, hg, hrow, hx⟩
  replace D := D.trans (hx.mono D.size)
  clear hx
  refine hK'.out _ _ (HSO.out _ (by omega) _ D) (fun _ => ?_)
  clear hK' K'
  try simp only [Act.put, List.setIfInBounds_toArray, List.set_cons_zero, List.set_cons_succ]
  refine wpAnyH_ready (rs := [4]) (by kernel_rfl) (by simp) ?_
  refine AllReadyH.cons (o := ⟨some 21, _, _, _, _, _⟩) rfl (fun K' hK' => ?_) AllReadyH.nil
  go_simp
  go_at_call 18
  refine (HSP.out _ _ _ (hrow.rj rfl hl hj.2.1)).mono ?_
  rintro e w3 ⟨rfl, hx⟩
  replace D := D.trans (hx.mono D.size)
  clear hx
  refine hK'.out _ _ (HSO.out _ (by omega) _ D) (fun _ => ?_)
  clear hK' K'
  try simp only [Act.put, List.setIfInBounds_toArray, List.set_cons_zero, List.set_cons_succ]
  refine wpAnyH_take (i := 5) (oi := ⟨some 16, _, _, _, _, _⟩) (v := ?vja1) rfl (by kernel_rfl) (by kernel_rfl) (by kernel_rfl) (fun _ _ _ h => h) (Or.inl ⟨by rfl, ?hja1⟩) (HSO.out _ (by omega) _ D) ?rja1
  case hja1 => (intro w' hSw; (try dsimp only at hSw); go_simp; (try with_reducible rfl))
  try simp only [Act.put, List.setIfInBounds_toArray, List.set_cons_zero, List.set_cons_succ]
  refine wpAnyH_take (i := 6) (oi := ⟨some 22, _, _, _, _, _⟩) (v := ?vja2) rfl (by kernel_rfl) (by kernel_rfl) (by kernel_rfl) (fun _ _ _ h => h) (Or.inl ⟨by rfl, ?hja2⟩) (HSO.out _ (by omega) _ D) ?rja2
  case hja2 => (intro w' hSw; (try dsimp only at hSw); go_simp; (try with_reducible rfl))
  try simp only [Act.put, List.setIfInBounds_toArray, List.set_cons_zero, List.set_cons_succ]
  refine wpAnyH_take (i := 7) (oi := ⟨some 23, _, _, _, _, _⟩) (v := ?vja3) rfl (by kernel_rfl) (by kernel_rfl) (by kernel_rfl) (fun _ _ _ h => h) (Or.inl ⟨by rfl, ?hja3⟩) (HSO.out _ (by omega) _ D) ?rja3
  case hja3 => (intro w' hSw; (try dsimp only at hSw); go_simp; (try with_reducible rfl))
  try simp only [Act.put, List.setIfInBounds_toArray, List.set_cons_zero, List.set_cons_succ]
  refine wpAnyH_ready (rs := [8]) (by kernel_rfl) (by simp) ?_
  refine AllReadyH.cons (o := ⟨some 6, _, _, _, _, _⟩) rfl (fun K' hK' => ?_) AllReadyH.nil
  go_simp
  refine hK'.out _ _ (HSO.out _ (by omega) _ D) (fun _ => ?_)
  clear hK' K'
  try simp only [Act.put, List.setIfInBounds_toArray, List.set_cons_zero, List.set_cons_succ]
  refine wpAnyH_ready (rs := [9]) (by kernel_rfl) (by simp) ?_
  refine AllReadyH.cons (o := ⟨some 7, _, _, _, _, _⟩) rfl (fun K' hK' => ?_) AllReadyH.nil
  go_simp
  refine hK'.out _ _ (HSO.out _ (by omega) _ D) (fun _ => ?_)
  clear hK' K'
  try simp only [Act.put, List.setIfInBounds_toArray, List.set_cons_zero, List.set_cons_succ]
  refine wpAnyH_done (by kernel_rfl) ?_ _
  all_goals
    clear hrow
    have qb := fun i => cell_of_row w3 (w.heap.size + 1) i _ _ _ (HSO.out _ (by omega) _ D).2.2
    go_wp2_with fail
    refine (toBoard_any _ _ _ _ _ _ _ (HRJ.out _ D)).mono ?_
    rintro e w4 ⟨g1, rfl, hg1, row1, hx⟩
    replace D := D.trans (hx.mono D.size)
    clear hx qb
    have zr := row1.lt
    have zd := D.size
    go_wp2_with fail
    obtain ⟨X, hX⟩ : ∃ X, X = w4.alloc (.cells #[.int .i64 s, .int .i64 f, .int .i64 o, .slice (some ⟨g1, 0, none⟩) js.length js.length] 37) := ⟨_, rfl⟩
    rw [← hX]
    have k8 : X.heap[w4.heap.size]? = some (.cells #[.int .i64 s, .int .i64 f, .int .i64 o, .slice (some ⟨g1, 0, none⟩) js.length js.length] 37 (0, 0)) := by rw [hX]; exact heap_alloc_at _ _ _ rfl
    have DX : Below W0.heap.size W0 X := by rw [hX]; exact D.alloc D.size _
    have rowX : RowJ X g1 99 js.length (fun k => js.getD k (0, 0)) := by rw [hX]; exact row1.alloc _
    have zx : w4.heap.size < X.heap.size := heap_lt k8
    have zr' : g1 < X.heap.size := by omega
    have zq := DX.size
    have HX := Lib.hid hX
    clear hX D row1
    have hSx : ∀ w', Below X.heap.size X w' → (Below X.heap.size X w' ∧ w'.heap[w.heap.size]? = some (.cells #[.int .i64 k, .int .i64 a, .int .i64 b, .int .i64 d] 26 (0, 0)) ∧ w'.heap[w.heap.size + 1]? = some (.cells #[.int .i64 s, .int .i64 f, .int .i64 o, .slice A js.length c] 29 (0, 0)) ∧ w'.heap[w4.heap.size]? = some (.cells #[.int .i64 s, .int .i64 f, .int .i64 o, .slice (some ⟨g1, 0, none⟩) js.length js.length] 37 (0, 0))) :=
      fun w' hb => ⟨hb, (hb.block _ (by omega)).trans (HSO.out _ (by omega) _ DX).2.1, (hb.block _ (by omega)).trans (HSO.out _ (by omega) _ DX).2.2, (hb.block _ zx).trans k8⟩
    have HSX := Lib.hid hSx; clear hSx k8
    have E : Below X.heap.size X X.drew := (Below.refl _ X).drew
    refine wp_region_held_drew (S := (fun w' => Below X.heap.size X w' ∧ w'.heap[w.heap.size]? = some (.cells #[.int .i64 k, .int .i64 a, .int .i64 b, .int .i64 d] 26 (0, 0)) ∧ w'.heap[w.heap.size + 1]? = some (.cells #[.int .i64 s, .int .i64 f, .int .i64 o, .slice A js.length c] 29 (0, 0)) ∧ w'.heap[w4.heap.size]? = some (.cells #[.int .i64 s, .int .i64 f, .int .i64 o, .slice (some ⟨g1, 0, none⟩) js.length js.length] 37 (0, 0)))) (by kernel_rfl) (HSX.out _ E) (fun hS => ?_)
    refine wpAnyH_take (i := 0) (oi := ⟨some 27, _, _, _, _, _⟩) rfl (by kernel_rfl) (by kernel_rfl) (by kernel_rfl) (fun _ _ _ h => h) (yields_load_row rfl 26 (.tmp 2) rfl w.heap.size rfl _ _ _ _ (fun _ h => h.2.1) Try.underlying26 rfl sizeClueL) hS ?_
    try simp only [Act.put, List.setIfInBounds_toArray, List.set_cons_zero, List.set_cons_succ]
    refine wpAnyH_take (i := 2) (oi := ⟨some 29, _, _, _, _, _⟩) rfl (by kernel_rfl) (by kernel_rfl) (by kernel_rfl) (fun _ _ _ h => h) (yields_load_row rfl 37 (.tmp 8) rfl w4.heap.size rfl _ _ _ _ (fun _ h => h.2.2.2) Try.underlying37 rfl sizeBoard9) hS ?_
    try simp only [Act.put, List.setIfInBounds_toArray, List.set_cons_zero, List.set_cons_succ]
    refine wpAnyH_ready (rs := [1]) (by kernel_rfl) (by simp) ?_
    refine AllReadyH.cons (o := ⟨some 28, _, _, _, _, _⟩) rfl (fun K' hK' => ?_) AllReadyH.nil
    go_simp
    go_at_call 19
    refine (toClue_any _ _ _ _ _).mono ?_
    rintro e w5 ⟨rfl, hx⟩
    replace E := E.trans (hx.mono E.size)
    clear hx
    refine hK'.out _ _ (HSX.out _ E) (fun _ => ?_)
    clear hK' K'
    try simp only [Act.put, List.setIfInBounds_toArray, List.set_cons_zero, List.set_cons_succ]
    refine wpAnyH_ready (rs := [3]) (by kernel_rfl) (by simp) ?_
    refine AllReadyH.cons (o := ⟨some 30, _, _, _, _, _⟩) rfl (fun K' hK' => ?_) AllReadyH.nil
    go_simp
    go_at_call 21
    refine (HIP.out _ _ _ ((rowX.below E zr').rj rfl hl hj.2.1)).mono ?_
    rintro e w6 ⟨rfl, hx⟩
    replace E := E.trans (hx.mono E.size)
    clear hx
    refine hK'.out _ _ (HSX.out _ E) (fun _ => ?_)
    clear hK' K'
    try simp only [Act.put, List.setIfInBounds_toArray, List.set_cons_zero, List.set_cons_succ]
    refine wpAnyH_take (i := 4) (oi := ⟨some 26, _, _, _, _, _⟩) (v := ?vjb1) rfl (by kernel_rfl) (by kernel_rfl) (by kernel_rfl) (fun _ _ _ h => h) (Or.inl ⟨by rfl, ?hjb1⟩) (HSX.out _ E) ?rjb1
    case hjb1 => (intro w' hSw; (try dsimp only at hSw); go_simp; (try with_reducible rfl))
    try simp only [Act.put, List.setIfInBounds_toArray, List.set_cons_zero, List.set_cons_succ]
    refine wpAnyH_take (i := 5) (oi := ⟨some 31, _, _, _, _, _⟩) (v := ?vjb2) rfl (by kernel_rfl) (by kernel_rfl) (by kernel_rfl) (fun _ _ _ h => h) (Or.inl ⟨by rfl, ?hjb2⟩) (HSX.out _ E) ?rjb2
    case hjb2 => (intro w' hSw; (try dsimp only at hSw); go_simp; (try with_reducible rfl))
    try simp only [Act.put, List.setIfInBounds_toArray, List.set_cons_zero, List.set_cons_succ]
    refine wpAnyH_take (i := 6) (oi := ⟨some 32, _, _, _, _, _⟩) (v := ?vjb3) rfl (by kernel_rfl) (by kernel_rfl) (by kernel_rfl) (fun _ _ _ h => h) (Or.inl ⟨by rfl, ?hjb3⟩) (HSX.out _ E) ?rjb3
    case hjb3 => (intro w' hSw; (try dsimp only at hSw); go_simp; (try with_reducible rfl))
    try simp only [Act.put, List.setIfInBounds_toArray, List.set_cons_zero, List.set_cons_succ]
    refine wpAnyH_ready (rs := [7]) (by kernel_rfl) (by simp) ?_
    refine AllReadyH.cons (o := ⟨some 9, _, _, _, _, _⟩) rfl (fun K' hK' => ?_) AllReadyH.nil
    go_simp
    refine hK'.out _ _ (HSX.out _ E) (fun _ => ?_)
    clear hK' K'
    try simp only [Act.put, List.setIfInBounds_toArray, List.set_cons_zero, List.set_cons_succ]
    refine wpAnyH_ready (rs := [8]) (by kernel_rfl) (by simp) ?_
    refine AllReadyH.cons (o := ⟨some 10, _, _, _, _, _⟩) rfl (fun K' hK' => ?_) AllReadyH.nil
    go_simp
    refine hK'.out _ _ (HSX.out _ E) (fun _ => ?_)
    clear hK' K'
    try simp only [Act.put, List.setIfInBounds_toArray, List.set_cons_zero, List.set_cons_succ]
    refine wpAnyH_done (by kernel_rfl) ?_ _
    go_wp2_with fail
    replace E := E.drew
    refine wp_region_held_drew (S := (fun w' => Below X.heap.size X w' ∧ w'.heap[w.heap.size]? = some (.cells #[.int .i64 k, .int .i64 a, .int .i64 b, .int .i64 d] 26 (0, 0)) ∧ w'.heap[w.heap.size + 1]? = some (.cells #[.int .i64 s, .int .i64 f, .int .i64 o, .slice A js.length c] 29 (0, 0)) ∧ w'.heap[w4.heap.size]? = some (.cells #[.int .i64 s, .int .i64 f, .int .i64 o, .slice (some ⟨g1, 0, none⟩) js.length js.length] 37 (0, 0)))) (by kernel_rfl) (HSX.out _ E) (fun hS => ?_)
    refine wpAnyH_take (i := 0) (oi := ⟨some 41, _, _, _, _, _⟩) rfl (by kernel_rfl) (by kernel_rfl) (by kernel_rfl) (fun _ _ _ h => h) (yields_load_row rfl 37 (.tmp 8) rfl w4.heap.size rfl _ _ _ _ (fun _ h => h.2.2.2) Try.underlying37 rfl sizeBoard9) hS ?_
    try simp only [Act.put, List.setIfInBounds_toArray, List.set_cons_zero, List.set_cons_succ]
    refine wpAnyH_take (i := 1) (oi := ⟨some 42, _, _, _, _, _⟩) rfl (by kernel_rfl) (by kernel_rfl) (by kernel_rfl) (fun _ _ _ h => h) (yields_load_row rfl 29 (.tmp 3) rfl (w.heap.size + 1) rfl _ _ _ _ (fun _ h => h.2.2.1) Try.underlying29 rfl sizeBoardL) hS ?_
    try simp only [Act.put, List.setIfInBounds_toArray, List.set_cons_zero, List.set_cons_succ]
    refine wpAnyH_ready (rs := [2]) (by kernel_rfl) (by simp) ?_
    refine AllReadyH.cons (o := ⟨some 43, _, _, _, _, _⟩) rfl (fun K' hK' => ?_) AllReadyH.nil
    go_simp
    go_at_call 20
    refine (toBoard_any _ _ _ _ _ _ _ (HRJ.out _ (DX.trans (E.mono DX.size)))).mono ?_
    rintro e w7 ⟨g2, rfl, hg2, row2, hx⟩
    replace E := E.trans (hx.mono E.size)
    clear hx
    refine hK'.out _ _ (HSX.out _ E) (fun _ => ?_)
    clear hK' K'
    try simp only [Act.put, List.setIfInBounds_toArray, List.set_cons_zero, List.set_cons_succ]
    refine wpAnyH_ready (rs := [3]) (by kernel_rfl) (by simp) ?_
    refine AllReadyH.cons (o := ⟨some 44, _, _, _, _, _⟩) rfl (fun K' hK' => ?_) AllReadyH.nil
    go_simp
    go_at_call 22
    refine (eqBoard_any _ _ _ _ _ _ _ _ _ _ _ _ _ ((rowX.below E zr').rj rfl hl hj.2.1) (row2.rj rfl hl hj.2.1)).mono ?_
    rintro e w8 ⟨rfl, hx⟩
    rw [HE.out]
    replace E := E.trans (hx.mono E.size)
    clear hx
    refine hK'.out _ _ (HSX.out _ E) (fun _ => ?_)
    clear hK' K'
    try simp only [Act.put, List.setIfInBounds_toArray, List.set_cons_zero, List.set_cons_succ]
    refine wpAnyH_take (i := 4) (oi := ⟨some 45, _, _, _, _, _⟩) (v := ?vjc1) rfl (by kernel_rfl) (by kernel_rfl) (by kernel_rfl) (fun _ _ _ h => h) (Or.inl ⟨by rfl, ?hjc1⟩) (HSX.out _ E) ?rjc1
    case hjc1 => (intro w' hSw; (try dsimp only at hSw); go_simp; (try with_reducible rfl))
    try simp only [Act.put, List.setIfInBounds_toArray, List.set_cons_zero, List.set_cons_succ]
    refine wpAnyH_done (by kernel_rfl) ?_ _
    go_wp2
    go_ret
    exact ⟨rfl, h0.trans ((DX.mono (by omega)).trans (E.mono (by have := DX.size; omega)))⟩
end Go.Proofs.Ytmhffdgfkgdmlab

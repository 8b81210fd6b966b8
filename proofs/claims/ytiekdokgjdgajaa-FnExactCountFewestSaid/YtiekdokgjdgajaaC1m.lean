/-
  ReachedFrom, the model's and the program's.
-/
import Derived.Test.YtiekdokgjdgajaaC1l
namespace Go.Proofs.Ytiekdokgjdgajaa
open Go.RowKit

/-- The numbers below n at which F holds. -/
def selL (F : Nat → Bool) (n : Nat) : List Int := ((List.range n).filter F).map (fun i : Nat => (i : Int))
theorem selL_succ (F : Nat → Bool) (k : Nat) : selL F (k + 1) = selL F k ++ if F k then [(k : Int)] else [] := by
  unfold selL
  rw [List.range_succ, List.filter_append, List.map_append]
  cases h : F k <;> simp [h]
theorem selL_len (F : Nat → Bool) (k : Nat) : (selL F k).length ≤ k := by
  unfold selL
  have := List.length_filter_le F (List.range k)
  simp at this ⊢; exact this
theorem selL_more {F : Nat → Bool} {m : Nat} (n : Nat) (hmn : m ≤ n) (h : ∀ i, m ≤ i → F i = false) : selL F n = selL F m := by
  induction hmn with
  | refl => rfl
  | @step k hk ih => rw [selL_succ, h k hk, ih]; simp
theorem same_of {P : Nat → Prop} {F G : Nat → Bool} (hF : ∀ i, F i = true ↔ P i) (hG : ∀ i, G i = true ↔ P i) : G = F := by
  funext i
  rw [Bool.eq_iff_iff, hF, hG]
theorem arrTIdx (P : Nat → Bool) {k : Nat} (hk : k < 101) (w : World) : (Instr.index 92 (.agg (arrT P)) (.int .i64 k)).run Try.prog w = .ok (.bool (P k)) w := by
  have h1 : (0 : Int) ≤ (k : Int) ∧ (k : Int) < ((101 : Nat) : Int) := by omega
  have hs : (arrT P)[k]? = some (.bool (P k)) := arrT_at P hk
  have hu : Try.prog.underlying 92 = some (.array (Try.prog.arrayLen 92) (Try.prog.elem 92)) := by kernel_rfl
  have hn : Try.prog.arrayLen 92 = 101 := by kernel_rfl
  have he : (sizeOf (Try.prog.elem 92)).run Try.prog w = .ok 1 w := by kernel_rfl
  have hc : (part (Try.prog.elem 92) (arrT P) (((k : Int)).toNat * 1)).run Try.prog w = .ok (.bool (P k)) w := by
    rw [Int.toNat_natCast, Nat.mul_one]
    simp [part, hs, go_sem]
  simp only [Instr.index, asIntOf, Sem.run_bind, Sem.run_pure, Result.andThen_ok, run_underlying hu, hn]
  rw [if_pos h1]
  simp only [Sem.run_bind, he, Result.andThen_ok]
  exact hc

set_option maxRecDepth 100000 in
theorem specReachedFrom_no (s f o : Int) (A : Option Addr) (c : Nat) (sq : Int) (js : List (Int × Int)) (w : World) (hj : RJ w w.heap.size A js) (ha : asked s f o js sq = false) :
    Calls Try.prog 50 #[.agg #[.int .i64 s, .int .i64 f, .int .i64 o, .slice A js.length c], .int .i64 sq] w (IntsBack w ([], false)) := by
  have hl := hj.1
  have HA := Lib.hid ha; clear ha
  go_enter Try.func50, Try.ntmps50
  go_wp2_with (go_at_call 57; refine (sqAsked_any _ _ _ _ _ _ _ _ (hj.go (below1 _ _))).mono ?_; rintro e w2 ⟨rfl, hx⟩; rw [HA.out])
  go_ret2
  exact ⟨none, 0, rfl, .inl rfl, (below1 _ _).trans (hx.mono (by simp))⟩

set_option maxRecDepth 100000 in
set_option maxHeartbeats 400000 in
theorem specReachedFrom_yes (s f o : Int) (A : Option Addr) (c : Nat) (q : Nat) (js : List (Int × Int)) (F : Nat → Bool) (w : World) (hj : RJ w w.heap.size A js) (ha : asked s f o js q = true) (hF : ∀ i, F i = true ↔ Rch (nxB s o js) f.toNat q i) :
    Calls Try.prog 50 #[.agg #[.int .i64 s, .int .i64 f, .int .i64 o, .slice A js.length c], .int .i64 q] w (IntsBack w (selL F (s.toNat + 1), true)) := by
  have hl := hj.1
  have hz := good_sizes (asked_good ha)
  obtain ⟨n, hn⟩ : ∃ n : Nat, n = s.toNat + 1 := ⟨_, rfl⟩
  rw [← hn]
  have hn1 : n ≤ 101 := by omega
  have HA := Lib.hid ha; have HF := Lib.hid hF; have HN := Lib.hid hn; clear ha hF hn
  obtain ⟨j0, hji, hjz0, hjz1, hjz2⟩ := info_parts infoInt1
  go_enter Try.func50, Try.ntmps50
  go_wp2_with fail
  refine (sqAsked_any _ _ _ _ _ _ _ _ (hj.go (below1 _ _))).mono ?_
  rintro e w2 ⟨rfl, hx⟩
  rw [HA.out]
  have hb := box_on (Below.refl _ _) hx (by simp)
  have bc := boxcells hb
  have hB2 := (below1 w (.cells #[.int .i64 s, .int .i64 f, .int .i64 o, .slice A js.length c] 30)).trans (hb.mono (by omega))
  clear hx hb
  go_wp2_with fail
  refine (sqReached_any _ _ _ _ _ _ _ _ (hj.go hB2) HA.out).mono ?_
  rintro e w3 ⟨g, F', rfl, hg, hrow, hF', hx3⟩
  rw [same_of HF.out hF', ← HN.out] at hrow
  rw [← HN.out]
  have hB3 := hB2.trans (hx3.mono hB2.size)
  have hgs := hrow.lt
  have hs2 := hB2.size
  clear hx3 bc hF'
  go_wp2_with fail
  go_loopw [6, 17, 7, 8] (fun v i _ _ wr => ∃ k : Nat, k ≤ n ∧ i = .int .i64 (k : Int) ∧ Below w.heap.size w wr ∧ RowB wr g 4 n F ∧ g < wr.heap.size ∧ wr.ownsRow (g + 1) 3 1 v (selL F k).length ((selL F k).map (Value.int .i64))) (fun _ i _ _ _ => n - (intOf i).toNat)
  case atStart => exact ⟨0, Nat.zero_le _, rfl, hB3, hrow, hgs, World.ownsRow_nil _ _ _ _⟩
  case round =>
    clear hB3 hrow hgs
    obtain ⟨k, hk, rfl, hB, hrow, hgs, hown⟩ := hrel
    have hBs := hB.size
    by_cases hlt : k < n
    · have h3 : (k : Int) < (n : Int) := by omega
      have d1 := hrow.cell hlt
      have hln := selL_len F k
      have hf := own_from hown
      cases hP : F k
      · have HE := Lib.hid (show selL F (k + 1) = selL F k by rw [selL_succ, hP]; simp)
        go_wp2
        go_roundw
        case rel =>
          refine ⟨k + 1, hlt, by go_num, hB, hrow, hgs, ?_⟩
          rw [HE.out]; exact hown
        case measure => simp [intOf]; omega
      · have HE := Lib.hid (show selL F (k + 1) = selL F k ++ [(k : Int)] by rw [selL_succ, hP]; simp)
        go_wp2_with (at_builtin; go_loud (refine wpList_append_own _ rfl _ _ 34 rfl (g + 1) 3 j0 (.int .i64 0) 1 8 Try.underlying34 hji hjz0 hjz1 hjz2 rfl (by decide) _ _ _ rfl (hown.alloc _) ⟨wr.heap.size, 0, none⟩ 1 1 [.int .i64 (k : Int)] rfl rfl (cell_new1 _ _ _) (one_int _) (by unfold maxLen; omega) (by omega) (by simp; omega) ?_; intro v1 w4 hown4 hg4 _))
        go_roundw
        case rel =>
          refine ⟨k + 1, hlt, by go_num, (hB.alloc (by omega) _).grown hg4 (by simp; omega) (fun j e => by have := hf _ e; omega), (hrow.alloc _).grown hg4 (fun e => by have := hf _ e.symm; omega), by have := hg4.size; simp at this; omega, ?_⟩
          rw [HE.out, List.length_append, List.map_append]
          exact hown4
        case measure => simp [intOf]; omega
    · have h3 : ¬ (k : Int) < (n : Int) := by omega
      obtain rfl : k = n := by omega
      go_wp2
      obtain ⟨A', c', rfl, ho⟩ := own_oi hown rfl
      go_ret2
      refine ⟨A', c', rfl, ?_, hB⟩
      rcases ho with h | ⟨g', e, hg', hr⟩
      · exact .inl h
      · exact .inr ⟨g', e, by omega, hr⟩

set_option maxRecDepth 100000 in
theorem implReachedFrom_no (s f o : Int) (A : Option Addr) (c : Nat) (sq : Int) (js : List (Int × Int)) (w : World) (hj : RJ w w.heap.size A js) (ha : asked s f o js sq = false) :
    Calls Try.prog 51 #[.agg #[.int .i64 s, .int .i64 f, .int .i64 o, .slice A js.length c], .int .i64 sq] w (IntsBack w ([], false)) := by
  have hl := hj.1
  have hst := storeCourse 0 0 0 (fun _ => 0)
  have HA := Lib.hid ha; clear ha
  go_enter Try.func51, Try.ntmps51
  go_wp2_with fail
  refine (courseAt_no _ _ _ _ _ _ _ _ (hj.go (below1 _ _)) HA.out).mono ?_
  rintro e w2 ⟨rfl, hx⟩
  go_wp2
  go_ret2
  exact ⟨none, 0, rfl, .inl rfl, ((below1 _ _).trans (hx.mono (by simp))).alloc (by have := hx.size; simp at this; omega) _⟩

set_option maxRecDepth 100000 in
set_option maxHeartbeats 400000 in
theorem implReachedFrom_yes (s f o : Int) (A : Option Addr) (c : Nat) (q : Nat) (js : List (Int × Int)) (F : Nat → Bool) (w : World) (hj : RJ w w.heap.size A js) (ha : asked s f o js q = true) (hF : ∀ i, F i = true ↔ Rch (nxB s o js) f.toNat q i) :
    Calls Try.prog 51 #[.agg #[.int .i64 s, .int .i64 f, .int .i64 o, .slice A js.length c], .int .i64 q] w (IntsBack w (selL F 101, true)) := by
  have hl := hj.1
  have hst := storeCourse s f o (fun i => jumpOf js i)
  have HA := Lib.hid ha; have HF := Lib.hid hF; clear ha hF
  obtain ⟨j0, hji, hjz0, hjz1, hjz2⟩ := info_parts infoInt1
  go_enter Try.func51, Try.ntmps51
  go_wp2_with fail
  refine (courseAt_yes _ _ _ _ _ _ _ _ (hj.go (below1 _ _)) HA.out).mono ?_
  rintro e w2 ⟨rfl, hx⟩
  have hs2 : w.heap.size < w2.heap.size := by have := hx.size; simp at this; omega
  have hCn : CA (w2.alloc (.cells (crsCells s f o (fun i => jumpOf js i)) 68)) w2.heap.size s f o (fun i => jumpOf js i) := heap_alloc_at _ _ _ rfl
  have hB2 : Below w.heap.size w (w2.alloc (.cells (crsCells s f o (fun i => jumpOf js i)) 68)) := ((below1 _ _).trans (hx.mono (by simp))).alloc (by omega) _
  clear hx
  go_wp2_with fail
  refine (reached_any _ _ _ _ _ _ _ hCn.cv (by simp) HA.out).mono ?_
  rintro e w3 ⟨F', rfl, hF', hx3⟩
  rw [same_of HF.out hF']
  have hB3 := hB2.trans (hx3.mono (by simp; omega))
  clear hst hCn hx3 hF' hB2
  go_wp2_with fail
  go_loopw [8, 21, 9, 10] (fun v i _ _ wr => ∃ k : Nat, k ≤ 101 ∧ i = .int .i64 (k : Int) ∧ Below w.heap.size w wr ∧ wr.ownsRow w.heap.size 3 1 v (selL F k).length ((selL F k).map (Value.int .i64))) (fun _ i _ _ _ => 101 - (intOf i).toNat)
  case atStart => exact ⟨0, Nat.zero_le _, rfl, hB3, World.ownsRow_nil _ _ _ _⟩
  case round =>
    clear hB3
    obtain ⟨k, hk, rfl, hB, hown⟩ := hrel
    have hBs := hB.size
    by_cases hlt : k < 101
    · have h3 : (k : Int) < 101 := by omega
      have d1 := fun w => arrTIdx F hlt w
      have hln := selL_len F k
      have hf := own_from hown
      cases hP : F k
      · have HE := Lib.hid (show selL F (k + 1) = selL F k by rw [selL_succ, hP]; simp)
        go_wp2
        go_roundw
        case rel =>
          refine ⟨k + 1, hlt, by go_num, hB, ?_⟩
          rw [HE.out]; exact hown
        case measure => simp [intOf]; omega
      · have HE := Lib.hid (show selL F (k + 1) = selL F k ++ [(k : Int)] by rw [selL_succ, hP]; simp)
        go_wp2_with (at_builtin; go_loud (refine wpList_append_own _ rfl _ _ 34 rfl w.heap.size 3 j0 (.int .i64 0) 1 8 Try.underlying34 hji hjz0 hjz1 hjz2 rfl (by decide) _ _ _ rfl (hown.alloc _) ⟨wr.heap.size, 0, none⟩ 1 1 [.int .i64 (k : Int)] rfl rfl (cell_new1 _ _ _) (one_int _) (by unfold maxLen; omega) (by omega) (by simp; omega) ?_; intro v1 w4 hown4 hg4 _))
        go_roundw
        case rel =>
          refine ⟨k + 1, hlt, by go_num, (hB.alloc (by omega) _).grown hg4 (by simp; omega) (fun j e => hf _ e), ?_⟩
          rw [HE.out, List.length_append, List.map_append]
          exact hown4
        case measure => simp [intOf]; omega
    · have h3 : ¬ (k : Int) < 101 := by omega
      obtain rfl : k = 101 := by omega
      go_wp2
      obtain ⟨A', c', rfl, ho⟩ := own_oi hown rfl
      go_ret2
      exact ⟨A', c', rfl, ho, hB⟩

theorem reachedFrom_both (s f o : Int) (js : List (Int × Int)) (sq : Int) : ∃ (R : List Int × Bool), R.1.length ≤ 1048576 ∧
    (∀ (A : Option Addr) (c : Nat) (W : World), RJ W W.heap.size A js → Calls Try.prog 50 #[.agg #[.int .i64 s, .int .i64 f, .int .i64 o, .slice A js.length c], .int .i64 sq] W (IntsBack W R)) ∧
    (∀ (A : Option Addr) (c : Nat) (W : World), RJ W W.heap.size A js → Calls Try.prog 51 #[.agg #[.int .i64 s, .int .i64 f, .int .i64 o, .slice A js.length c], .int .i64 sq] W (IntsBack W R)) := by
  cases h : asked s f o js sq
  · exact ⟨([], false), by simp, fun A c W hj => specReachedFrom_no s f o A c sq js W hj h, fun A c W hj => implReachedFrom_no s f o A c sq js W hj h⟩
  · have hz := good_sizes (asked_good h)
    obtain ⟨q, rfl⟩ := Int.eq_ofNat_of_zero_le (onSq_in (asked_on h)).1
    obtain ⟨F, hF⟩ : ∃ F : Nat → Bool, ∀ i, F i = true ↔ Rch (nxB s o js) f.toNat q i := ⟨fun i => @decide _ (Classical.propDecidable (Rch (nxB s o js) f.toNat q i)), fun i => by simp⟩
    have hok : ∀ i, Rch (nxB s o js) f.toNat q i → okB s js i := fun i hi => by
      induction hi with
      | refl => exact okB_of (asked_on h)
      | step _ h1 h2 ih => exact okB_next (asked_good h) f.toNat _ ih _ h1 h2
    have e : selL F 101 = selL F (s.toNat + 1) := selL_more 101 (by omega) fun i hi => by
      cases hFi : F i
      · rfl
      · have := okB_lt i (hok i ((hF i).1 hFi)); omega
    refine ⟨(selL F (s.toNat + 1), true), by have := selL_len F (s.toNat + 1); simp only; omega, fun A c W hj => specReachedFrom_yes s f o A c q js F W hj h hF, fun A c W hj => ?_⟩
    rw [← e]
    exact implReachedFrom_yes s f o A c q js F W hj h hF
end Go.Proofs.Ytiekdokgjdgajaa

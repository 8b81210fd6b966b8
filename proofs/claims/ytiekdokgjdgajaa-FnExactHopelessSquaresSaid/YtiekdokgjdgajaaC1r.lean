/-
  HopelessSquares, the model's and the program's.
-/
import Derived.Test.YtiekdokgjdgajaaC1m
import Derived.Test.YtiekdokgjdgajaaC1q
namespace Go.Proofs.Ytiekdokgjdgajaa
open Go.RowKit

/-- P tells the squares from which no throws lead to the end. -/
def HopeIs (s f o : Int) (js : List (Int × Int)) (P : Nat → Bool) : Prop := ∀ i : Nat, P i = true ↔ (onSq s js i = true ∧ ∀ t, ¬ Way (eB s f o js) i t s.toNat)

set_option maxRecDepth 100000 in
theorem specHopelessSquares_no (s f o : Int) (A : Option Addr) (c : Nat) (js : List (Int × Int)) (w : World) (hj : RJ w w.heap.size A js) (ha : good ⟨s, f, o, js⟩ = false) :
    Calls Try.prog 52 #[.agg #[.int .i64 s, .int .i64 f, .int .i64 o, .slice A js.length c]] w (IntsBack w ([], false)) := by
  have hl := hj.1
  have HA := Lib.hid ha; clear ha
  go_enter Try.func52, Try.ntmps52
  go_wp2_with (go_at_call 72; refine (sqGood_any _ _ _ _ _ _ _ (hj.go (below1 _ _))).mono ?_; rintro e w2 ⟨rfl, hx⟩; rw [HA.out])
  go_ret2
  exact ⟨none, 0, rfl, .inl rfl, (below1 _ _).trans (hx.mono (by simp))⟩

set_option maxRecDepth 100000 in
set_option maxHeartbeats 800000 in
theorem specHopelessSquares_yes (s f o : Int) (A : Option Addr) (c : Nat) (js : List (Int × Int)) (P : Nat → Bool) (w : World) (hj : RJ w w.heap.size A js) (hgd : good ⟨s, f, o, js⟩ = true) (hP : HopeIs s f o js P) :
    Calls Try.prog 52 #[.agg #[.int .i64 s, .int .i64 f, .int .i64 o, .slice A js.length c]] w (IntsBack w (selL P (s.toNat + 1), true)) := by
  have hl := hj.1
  have hz := good_sizes hgd
  obtain ⟨n, hn⟩ : ∃ n : Nat, n = s.toNat + 1 := ⟨_, rfl⟩
  rw [← hn]
  have hn1 : n ≤ 101 := by omega
  have HA := Lib.hid hgd; have HP := Lib.hid hP; have HN := Lib.hid hn; clear hgd hP hn
  obtain ⟨j0, hji, hjz0, hjz1, hjz2⟩ := info_parts infoInt1
  go_enter Try.func52, Try.ntmps52
  go_wp2_with fail
  refine (sqGood_any _ _ _ _ _ _ _ (hj.go (below1 _ _))).mono ?_
  rintro e w2 ⟨rfl, hx⟩
  rw [HA.out]
  have hb := box_on (Below.refl _ _) hx (by simp)
  have bc := boxcells hb
  have hB2 := (below1 w (.cells #[.int .i64 s, .int .i64 f, .int .i64 o, .slice A js.length c] 30)).trans (hb.mono (by omega))
  clear hx
  go_wp2_with fail
  refine (sqFar_any _ _ _ _ _ _ _ (hj.go hB2) HA.out).mono ?_
  rintro e w3 ⟨g, F, L, rfl, hg, hrow, hyes, hno, hL, hx3⟩
  have hs2 : w.heap.size + 1 ≤ w2.heap.size := by have := hb.size; simpa using this
  replace hb := box_on hb hx3 (by omega)
  have hF1 : ∀ k, F k = true → P k = false := fun k hk => by
    cases h : P k
    · rfl
    · exact absurd (hyes k hk).2.1 (((HP.out k).1 h).2 _)
  have hF2 : ∀ k, F k = false → P k = onSq s js k := fun k hk => by
    rw [Bool.eq_iff_iff, HP.out k]
    exact ⟨fun h => h.1, fun h => ⟨h, hno k (okB_of h) hk⟩⟩
  rw [← HN.out] at hrow ⊢
  have hgs := hrow.lt
  have HF1 := Lib.hid hF1; have HF2 := Lib.hid hF2
  clear hx3 bc hyes hno hL hF1 hF2 hB2
  go_wp2_with fail
  go_loopw [4, 13, 5, 6] (fun v i _ _ wr => ∃ k : Nat, k ≤ n ∧ i = .int .i64 (k : Int) ∧ Below (w.heap.size + 1) (w.alloc (.cells #[.int .i64 s, .int .i64 f, .int .i64 o, .slice A js.length c] 30)) wr ∧ RowI wr g 3 n (farF F L) ∧ g < wr.heap.size ∧ wr.ownsRow (g + 1) 3 1 v (selL P k).length ((selL P k).map (Value.int .i64))) (fun _ i _ _ _ => n - (intOf i).toNat)
  case atStart => exact ⟨0, Nat.zero_le _, rfl, hb, hrow, hgs, World.ownsRow_nil _ _ _ _⟩
  case round =>
    clear hb hrow hgs
    obtain ⟨k, hk, rfl, hb, hrow, hgs, hown⟩ := hrel
    have hs : w.heap.size + 1 ≤ wr.heap.size := by have := hb.size; simpa using this
    have hBw := (below1 w (.cells #[.int .i64 s, .int .i64 f, .int .i64 o, .slice A js.length c] 30)).trans (hb.mono (by omega))
    by_cases hlt : k < n
    · have h3 : (k : Int) < (n : Int) := by omega
      have d1 := hrow.cell hlt
      have hln := selL_len P k
      have bc := boxcells hb
      cases hF : F k
      · rw [farF_no hF] at d1
        have hpo := HF2.out k hF
        cases hon : onSq s js k
        · have HON := Lib.hid hon
          have HE := Lib.hid (show selL P (k + 1) = selL P k by rw [selL_succ, hpo, hon]; simp)
          clear hon hpo
          go_wp2_with (go_at_call 65; refine (sqSquare_any _ _ _ _ _ _ _ _ (hj.go hBw)).mono ?_; rintro e w4 ⟨rfl, hx4⟩; rw [HON.out])
          go_roundw
          case rel =>
            refine ⟨k + 1, hlt, by go_num, box_on hb hx4 (by omega), hrow.below hx4 hgs, by have := hx4.size; omega, ?_⟩
            rw [HE.out]; exact own_below hown hx4
          case measure => simp [intOf]; omega
        · have HON := Lib.hid hon
          have HE := Lib.hid (show selL P (k + 1) = selL P k ++ [(k : Int)] by rw [selL_succ, hpo, hon]; simp)
          clear hon hpo
          have hf := own_from hown
          go_wp2_with (first | (go_at_call 65; refine (sqSquare_any _ _ _ _ _ _ _ _ (hj.go hBw)).mono ?_; rintro e w4 ⟨rfl, hx4⟩; rw [HON.out]) | (at_builtin; go_loud (refine wpList_append_own _ rfl _ _ 34 rfl (g + 1) 3 j0 (.int .i64 0) 1 8 Try.underlying34 hji hjz0 hjz1 hjz2 rfl (by decide) _ _ _ rfl ((own_below hown hx4).alloc _) ⟨w4.heap.size, 0, none⟩ 1 1 [.int .i64 (k : Int)] rfl rfl (cell_new1 _ _ _) (one_int _) (by unfold maxLen; omega) (by omega) (by have := hx4.size; simp; omega) ?_; intro v1 w5 hown5 hg5 _)))
          go_roundw
          case rel =>
            have hs4 := hx4.size
            refine ⟨k + 1, hlt, by go_num, ((box_on hb hx4 (by omega)).alloc (by omega) _).grown hg5 (by simp; omega) (fun j e => by have := hf _ e; omega), ((hrow.below hx4 hgs).alloc _).grown hg5 (fun e => by have := hf _ e.symm; omega), by have := hg5.size; simp at this; omega, ?_⟩
            rw [HE.out, List.length_append, List.map_append]
            exact hown5
          case measure => simp [intOf]; omega
      · rw [farF_yes hF] at d1
        have h0 : ¬ (L k : Int) < 0 := by omega
        have HE := Lib.hid (show selL P (k + 1) = selL P k by rw [selL_succ, HF1.out k hF]; simp)
        go_wp2
        go_roundw
        case rel =>
          refine ⟨k + 1, hlt, by go_num, hb, hrow, hgs, ?_⟩
          rw [HE.out]; exact hown
        case measure => simp [intOf]; omega
    · have h3 : ¬ (k : Int) < (n : Int) := by omega
      obtain rfl : k = n := by omega
      go_wp2
      obtain ⟨A', c', rfl, ho⟩ := own_oi hown rfl
      go_ret2
      refine ⟨A', c', rfl, ?_, hBw⟩
      rcases ho with h | ⟨g', e, hg', hr⟩
      · exact .inl h
      · exact .inr ⟨g', e, by omega, hr⟩

set_option maxRecDepth 100000 in
theorem implHopelessSquares_no (s f o : Int) (A : Option Addr) (c : Nat) (js : List (Int × Int)) (w : World) (hj : RJ w w.heap.size A js) (ha : good ⟨s, f, o, js⟩ = false) :
    Calls Try.prog 53 #[.agg #[.int .i64 s, .int .i64 f, .int .i64 o, .slice A js.length c]] w (IntsBack w ([], false)) := by
  have hl := hj.1
  have hst := storeCourse 0 0 0 (fun _ => 0)
  have HA := Lib.hid ha; clear ha
  go_enter Try.func53, Try.ntmps53
  go_wp2_with fail
  refine (courseOf_no _ _ _ _ _ _ _ (hj.go (below1 _ _)) HA.out).mono ?_
  rintro e w2 ⟨rfl, hx⟩
  go_wp2
  go_ret2
  exact ⟨none, 0, rfl, .inl rfl, ((below1 _ _).trans (hx.mono (by simp))).alloc (by have := hx.size; simp at this; omega) _⟩

set_option maxRecDepth 100000 in
set_option maxHeartbeats 800000 in
theorem implHopelessSquares_yes (s f o : Int) (A : Option Addr) (c : Nat) (js : List (Int × Int)) (P : Nat → Bool) (w : World) (hj : RJ w w.heap.size A js) (hgd : good ⟨s, f, o, js⟩ = true) (hP : HopeIs s f o js P) :
    Calls Try.prog 53 #[.agg #[.int .i64 s, .int .i64 f, .int .i64 o, .slice A js.length c]] w (IntsBack w (selL P (s.toNat + 1), true)) := by
  have hl := hj.1
  have hst := storeCourse s f o (fun i => jumpOf js i)
  have hz := good_sizes hgd
  have HA := Lib.hid hgd; have HP := Lib.hid hP; clear hgd hP
  obtain ⟨j0, hji, hjz0, hjz1, hjz2⟩ := info_parts infoInt1
  go_enter Try.func53, Try.ntmps53
  go_wp2_with fail
  refine (courseOf_yes _ _ _ _ _ _ _ (hj.go (below1 _ _)) HA.out).mono ?_
  rintro e w2 ⟨rfl, hx⟩
  have hs2 : w.heap.size < w2.heap.size := by have := hx.size; simp at this; omega
  have hCn : CA (w2.alloc (.cells (crsCells s f o (fun i => jumpOf js i)) 68)) w2.heap.size s f o (fun i => jumpOf js i) := heap_alloc_at _ _ _ rfl
  have hB2 : Below w.heap.size w (w2.alloc (.cells (crsCells s f o (fun i => jumpOf js i)) 68)) := ((below1 _ _).trans (hx.mono (by simp))).alloc (by omega) _
  clear hx
  go_wp2_with fail
  go_loopw [6, 7, 8, 9] (fun v i _ _ wr => ∃ k : Nat, k ≤ s.toNat + 1 ∧ i = .int .i64 (k : Int) ∧ Below w.heap.size w wr ∧ CA wr w2.heap.size s f o (fun i => jumpOf js i) ∧ wr.ownsRow (w2.heap.size + 1) 3 1 v (selL P k).length ((selL P k).map (Value.int .i64))) (fun _ i _ _ _ => s.toNat + 1 - (intOf i).toNat)
  case atStart => exact ⟨0, Nat.zero_le _, rfl, hB2, hCn, World.ownsRow_nil _ _ _ _⟩
  case round =>
    clear hB2 hCn
    obtain ⟨k, hk, rfl, hB, hC, hown⟩ := hrel
    have hs : w2.heap.size < wr.heap.size := hC.lt
    have c0 := hC.sq
    have hBs := hB.size
    by_cases hlt : k < s.toNat + 1
    · have h3 : (k : Int) ≤ s := by omega
      have hln := selL_len P k
      have hf := own_from hown
      have hpi := HP.out k
      cases hon : onSq s js k
      · have HON := Lib.hid hon
        have HE := Lib.hid (show selL P (k + 1) = selL P k by
          have : P k = false := by
            cases h : P k
            · rfl
            · rw [hon] at hpi; cases (hpi.1 h).1
          rw [selL_succ, this]; simp)
        clear hon hpi
        go_wp2_with (go_at_call 67; refine (holds_any _ _ _ _ _ _ _ hC.cv (by omega)).mono ?_; rintro e w4 ⟨rfl, rfl⟩; rw [HON.out])
        go_roundw
        case rel =>
          refine ⟨k + 1, hlt, by go_num, hB, hC, ?_⟩
          rw [HE.out]; exact hown
        case measure => simp [intOf]; omega
      · have HON := Lib.hid hon
        have hask : asked s f o js k = true := by simp [asked, HA.out, hon]
        rw [hon] at hpi
        have HPI := Lib.hid hpi
        clear hon hpi
        go_wp2_with (go_at_call 67; refine (holds_any _ _ _ _ _ _ _ hC.cv (by omega)).mono ?_; rintro e w4 ⟨rfl, rfl⟩; rw [HON.out])
        refine (fewest_any _ _ _ _ _ _ _ hC.cv hs hask).mono ?_
        rintro e w4 ⟨x, ok, rfl, hr, hx4⟩
        have hs4 := hx4.size
        rcases hr with ⟨rfl, t, rfl, ht⟩ | ⟨rfl, rfl, hno⟩
        · have HE := Lib.hid (show selL P (k + 1) = selL P k by
            have : P k = false := by
              cases h : P k
              · rfl
              · exact absurd ht.1 ((HPI.out.1 h).2 t)
            rw [selL_succ, this]; simp)
          clear ht
          go_wp2
          go_roundw
          case rel =>
            refine ⟨k + 1, hlt, by go_num, hB.trans (hx4.mono hBs), hC.below hx4 hs, ?_⟩
            rw [HE.out]; exact own_below hown hx4
          case measure => simp [intOf]; omega
        · have HE := Lib.hid (show selL P (k + 1) = selL P k ++ [(k : Int)] by
            rw [selL_succ, HPI.out.2 ⟨by trivial, hno⟩]; simp)
          clear hno
          go_wp2_with (at_builtin; go_loud (refine wpList_append_own _ rfl _ _ 34 rfl (w2.heap.size + 1) 3 j0 (.int .i64 0) 1 8 Try.underlying34 hji hjz0 hjz1 hjz2 rfl (by decide) _ _ _ rfl ((own_below hown hx4).alloc _) ⟨w4.heap.size, 0, none⟩ 1 1 [.int .i64 (k : Int)] rfl rfl (cell_new1 _ _ _) (one_int _) (by unfold maxLen; omega) (by omega) (by simp; omega) ?_; intro v1 w5 hown5 hg5 _))
          go_roundw
          case rel =>
            refine ⟨k + 1, hlt, by go_num, ((hB.trans (hx4.mono hBs)).alloc (by omega) _).grown hg5 (by simp; omega) (fun j e => by have := hf _ e; omega), (hg5.block _ (by simp; omega) (fun hg => by have := hf _ hg.symm; omega)).trans ((Below.heap_alloc _ _ _ (by omega)).trans (hC.below hx4 hs)), ?_⟩
            rw [HE.out, List.length_append, List.map_append]
            exact hown5
          case measure => simp [intOf]; omega
    · have h3 : ¬ (k : Int) ≤ s := by omega
      obtain rfl : k = s.toNat + 1 := by omega
      go_wp2
      obtain ⟨A', c', rfl, ho⟩ := own_oi hown rfl
      go_ret2
      refine ⟨A', c', rfl, ?_, hB⟩
      rcases ho with h | ⟨g', e, hg', hr⟩
      · exact .inl h
      · exact .inr ⟨g', e, by omega, hr⟩

theorem hopelessSquares_both (s f o : Int) (js : List (Int × Int)) : ∃ (R : List Int × Bool), R.1.length ≤ 1048576 ∧
    (∀ (A : Option Addr) (c : Nat) (W : World), RJ W W.heap.size A js → Calls Try.prog 52 #[.agg #[.int .i64 s, .int .i64 f, .int .i64 o, .slice A js.length c]] W (IntsBack W R)) ∧
    (∀ (A : Option Addr) (c : Nat) (W : World), RJ W W.heap.size A js → Calls Try.prog 53 #[.agg #[.int .i64 s, .int .i64 f, .int .i64 o, .slice A js.length c]] W (IntsBack W R)) := by
  cases h : good ⟨s, f, o, js⟩
  · exact ⟨([], false), by simp, fun A c W hj => specHopelessSquares_no s f o A c js W hj h, fun A c W hj => implHopelessSquares_no s f o A c js W hj h⟩
  · have hz := good_sizes h
    obtain ⟨P, hP⟩ : ∃ P, HopeIs s f o js P := ⟨fun i => @decide _ (Classical.propDecidable (onSq s js i = true ∧ ∀ t, ¬ Way (eB s f o js) i t s.toNat)), fun i => by simp⟩
    exact ⟨(selL P (s.toNat + 1), true), by have := selL_len P (s.toNat + 1); simp only; omega, fun A c W hj => specHopelessSquares_yes s f o A c js P W hj h hP, fun A c W hj => implHopelessSquares_yes s f o A c js P W hj h hP⟩
end Go.Proofs.Ytiekdokgjdgajaa

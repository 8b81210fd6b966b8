/-
  HopelessSquares, the model's and the program's.
-/
import Derived.Test.YteogfondnpfklaaC1m
import Derived.Test.YteogfondnpfklaaC1q
namespace Go.Proofs.Yteogfondnpfklaa
open Go.RowKit

/-- P tells the squares from which no throws lead to the end. -/
def HopeIs (s f o : Int) (js : List (Int × Int)) (P : Nat → Bool) : Prop := ∀ i : Nat, P i = true ↔ (onSq s js i = true ∧ ∀ t, ¬ Way (eB s f o js) i t s.toNat)



set_option maxRecDepth 100000 in
theorem implHopelessSquares_no (s f o : Int) (A : Option Addr) (c : Nat) (js : List (Int × Int)) (w : World) (hj : RJ w w.heap.size A js) (ha : good ⟨s, f, o, js⟩ = false) :
    Calls Try.prog 121 #[.agg #[.int .i64 s, .int .i64 f, .int .i64 o, .slice A js.length c]] w (IntsBack w ([], false)) := by
  have hl := hj.1
  have hst := storeCourse 0 0 0 (fun _ => 0)
  have HA := Lib.hid ha; clear ha
  go_enter Try.func121, Try.ntmps121
  go_wp2_with fail
  refine (courseOf_no _ _ _ _ _ _ _ (hj.go (below1 _ _)) HA.out).mono ?_
  rintro e w2 ⟨rfl, hx⟩
  go_wp2
  go_ret2
  exact ⟨none, 0, rfl, .inl rfl, ((below1 _ _).trans (hx.mono (by simp))).alloc (by have := hx.size; simp at this; omega) _⟩

set_option maxRecDepth 100000 in
set_option maxHeartbeats 800000 in
theorem implHopelessSquares_yes (s f o : Int) (A : Option Addr) (c : Nat) (js : List (Int × Int)) (P : Nat → Bool) (w : World) (hj : RJ w w.heap.size A js) (hgd : good ⟨s, f, o, js⟩ = true) (hP : HopeIs s f o js P) :
    Calls Try.prog 121 #[.agg #[.int .i64 s, .int .i64 f, .int .i64 o, .slice A js.length c]] w (IntsBack w (selL P (s.toNat + 1), true)) := by
  have hl := hj.1
  have hst := storeCourse s f o (fun i => jumpOf js i)
  have hz := good_sizes hgd
  have HA := Lib.hid hgd; have HP := Lib.hid hP; clear hgd hP
  obtain ⟨j0, hji, hjz0, hjz1, hjz2⟩ := info_parts infoInt1
  go_enter Try.func121, Try.ntmps121
  go_wp2_with fail
  refine (courseOf_yes _ _ _ _ _ _ _ (hj.go (below1 _ _)) HA.out).mono ?_
  rintro e w2 ⟨rfl, hx⟩
  have hs2 : w.heap.size < w2.heap.size := by have := hx.size; simp at this; omega
  have hCn : CA (w2.alloc (.cells (crsCells s f o (fun i => jumpOf js i)) 138)) w2.heap.size s f o (fun i => jumpOf js i) := heap_alloc_at _ _ _ rfl
  have hB2 : Below w.heap.size w (w2.alloc (.cells (crsCells s f o (fun i => jumpOf js i)) 138)) := ((below1 _ _).trans (hx.mono (by simp))).alloc (by omega) _
  clear hx
  go_wp2_with fail
  go_loopw [6, 7, 8, 9] (fun v i _ _ wr => ∃ k : Nat, k ≤ s.toNat + 1 ∧ i = .int .i64 (k : Int) ∧ Below w.heap.size w wr ∧ CA wr w2.heap.size s f o (fun i => jumpOf js i) ∧ wr.ownsRow (w2.heap.size + 1) 3 1 v (selL P k).length ((selL P k).map (Value.int .i64))) (fun _ i _ _ _ => s.toNat + 1 - (intOf i).toNat)
  case atStart => exact ⟨0, Nat.zero_le _, rfl, hB2, hCn, World.ownsRow_nil _ _ _ _⟩
  case round =>
    clear hB2 hCn
    obtain ⟨k, hk, rfl, hB, hC, hown⟩ := hrel
    have hs : w2.heap.size < wr.heap.size := hC.lt
    have c0 := hC.sq
    have hBs := hB.size
    by_cases hlt : k < s.toNat + 1
    · have h3 : (k : Int) ≤ s := by omega
      have hln := selL_len P k
      have hf := own_from hown
      have hpi := HP.out k
      cases hon : onSq s js k
      · have HON := Lib.hid hon
        have HE := Lib.hid (show selL P (k + 1) = selL P k by
          have : P k = false := by
            cases h : P k
            · rfl
            · rw [hon] at hpi; cases (hpi.1 h).1
          rw [selL_succ, this]; simp)
        clear hon hpi
        go_wp2_with (go_at_call 140; refine (holds_any _ _ _ _ _ _ _ hC.cv (by omega)).mono ?_; rintro e w4 ⟨rfl, rfl⟩; rw [HON.out])
        go_roundw
        case rel =>
          refine ⟨k + 1, hlt, by go_num, hB, hC, ?_⟩
          rw [HE.out]; exact hown
        case measure => simp [intOf]; omega
      · have HON := Lib.hid hon
        have hask : asked s f o js k = true := by simp [asked, HA.out, hon]
        rw [hon] at hpi
        have HPI := Lib.hid hpi
        clear hon hpi
        go_wp2_with (go_at_call 140; refine (holds_any _ _ _ _ _ _ _ hC.cv (by omega)).mono ?_; rintro e w4 ⟨rfl, rfl⟩; rw [HON.out])
        refine (fewest_any _ _ _ _ _ _ _ hC.cv hs hask).mono ?_
        rintro e w4 ⟨x, ok, rfl, hr, hx4⟩
        have hs4 := hx4.size
        rcases hr with ⟨rfl, t, rfl, ht⟩ | ⟨rfl, rfl, hno⟩
        · have HE := Lib.hid (show selL P (k + 1) = selL P k by
            have : P k = false := by
              cases h : P k
              · rfl
              · exact absurd ht.1 ((HPI.out.1 h).2 t)
            rw [selL_succ, this]; simp)
          clear ht
          go_wp2
          go_roundw
          case rel =>
            refine ⟨k + 1, hlt, by go_num, hB.trans (hx4.mono hBs), hC.below hx4 hs, ?_⟩
            rw [HE.out]; exact own_below hown hx4
          case measure => simp [intOf]; omega
        · have HE := Lib.hid (show selL P (k + 1) = selL P k ++ [(k : Int)] by
            rw [selL_succ, HPI.out.2 ⟨by trivial, hno⟩]; simp)
          clear hno
          go_wp2_with (at_builtin; go_loud (refine wpList_append_own _ rfl _ _ 54 rfl (w2.heap.size + 1) 3 j0 (.int .i64 0) 1 8 Try.underlying54 hji hjz0 hjz1 hjz2 rfl (by decide) _ _ _ rfl ((own_below hown hx4).alloc _) ⟨w4.heap.size, 0, none⟩ 1 1 [.int .i64 (k : Int)] rfl rfl (cell_new1 _ _ _) (one_int _) (by unfold maxLen; omega) (by omega) (by simp; omega) ?_; intro v1 w5 hown5 hg5 _))
          go_roundw
          case rel =>
            refine ⟨k + 1, hlt, by go_num, ((hB.trans (hx4.mono hBs)).alloc (by omega) _).grown hg5 (by simp; omega) (fun j e => by have := hf _ e; omega), (hg5.block _ (by simp; omega) (fun hg => by have := hf _ hg.symm; omega)).trans ((Below.heap_alloc _ _ _ (by omega)).trans (hC.below hx4 hs)), ?_⟩
            rw [HE.out, List.length_append, List.map_append]
            exact hown5
          case measure => simp [intOf]; omega
    · have h3 : ¬ (k : Int) ≤ s := by omega
      obtain rfl : k = s.toNat + 1 := by omega
      go_wp2
      obtain ⟨A', c', rfl, ho⟩ := own_oi hown rfl
      go_ret2
      refine ⟨A', c', rfl, ?_, hB⟩
      rcases ho with h | ⟨g', e, hg', hr⟩
      · exact .inl h
      · exact .inr ⟨g', e, by omega, hr⟩

end Go.Proofs.Yteogfondnpfklaa

/-
  HasMean, the model's and the program's: all that is reached leads to the end.
-/
import Derived.Test.YtndodohngeaklaaC1lb
import Derived.Test.YtndodohngeaklaaC1n
import Derived.Test.YtndodohngeaklaaC1o
namespace Go.Proofs.Ytndodohngeaklaa
open Go.RowKit

/-- All squares that are reached from q lead to the end. -/
def HasM (s f o : Int) (js : List (Int × Int)) (q : Nat) : Prop := ∀ i, Rch (nxB s o js) f.toNat q i → ∃ t, Way (eB s f o js) i t s.toNat
/-- A board with few squares. -/
def few (s f o : Int) (js : List (Int × Int)) : Bool := good ⟨s, f, o, js⟩ && decide (s ≤ 9)
def fewSq (s f o : Int) (js : List (Int × Int)) (sq : Int) : Bool := few s f o js && onSq s js sq
theorem few_good {s f o : Int} {js : List (Int × Int)} (h : few s f o js = true) : good ⟨s, f, o, js⟩ = true ∧ s ≤ 9 := by simpa [few] using h
theorem fewSq_asked {s f o : Int} {js : List (Int × Int)} {sq : Int} (h : fewSq s f o js sq = true) : asked s f o js sq = true ∧ s ≤ 9 := by
  simp only [fewSq, Bool.and_eq_true] at h
  have := few_good h.1
  exact ⟨by simp [asked, this.1, h.2], this.2⟩

theorem meBoard_any (s f o : Int) (A : Option Addr) (c : Nat) (js : List (Int × Int)) (w : World) (hj : RJ w w.heap.size A js) :
    Calls Try.prog 63 #[.agg #[.int .i64 s, .int .i64 f, .int .i64 o, .slice A js.length c]] w fun e w' => e = .returned (.bool (few s f o js)) ∧ Below w.heap.size w w' := by
  have hl := hj.1
  cases hg : good ⟨s, f, o, js⟩
  · have HE := Lib.hid (show few s f o js = false by rw [few, hg, Bool.false_and])
    have HG := Lib.hid hg; clear hg
    go_enter Try.func63, Try.ntmps63
    go_wp2_with (go_at_call 37; refine (sqGood_any _ _ _ _ _ _ _ (hj.go (below1 _ _))).mono ?_; rintro e w2 ⟨rfl, hx⟩; rw [HG.out])
    go_ret
    exact ⟨ret_bool HE.out.symm, (below1 _ _).trans (hx.mono (by simp))⟩
  · have HE := Lib.hid (show few s f o js = decide (s ≤ 9) by rw [few, hg, Bool.true_and])
    have HG := Lib.hid hg; clear hg
    go_enter Try.func63, Try.ntmps63
    go_wp2_with (go_at_call 37; refine (sqGood_any _ _ _ _ _ _ _ (hj.go (below1 _ _))).mono ?_; rintro e w2 ⟨rfl, hx⟩; rw [HG.out]; have bc := boxcells (box_on (Below.refl _ _) hx (by simp)))
    go_ret
    exact ⟨ret_bool HE.out.symm, (below1 _ _).trans (hx.mono (by simp))⟩

theorem meAsked_any (s f o : Int) (A : Option Addr) (c : Nat) (sq : Int) (js : List (Int × Int)) (w : World) (hj : RJ w w.heap.size A js) :
    Calls Try.prog 51 #[.agg #[.int .i64 s, .int .i64 f, .int .i64 o, .slice A js.length c], .int .i64 sq] w fun e w' => e = .returned (.bool (fewSq s f o js sq)) ∧ Below w.heap.size w w' := by
  have hl := hj.1
  cases hg : few s f o js
  · have HE := Lib.hid (show fewSq s f o js sq = false by rw [fewSq, hg, Bool.false_and])
    have HG := Lib.hid hg; clear hg
    go_enter Try.func51, Try.ntmps51
    go_wp2_with (go_at_call 63; refine (meBoard_any _ _ _ _ _ _ _ (hj.go (below1 _ _))).mono ?_; rintro e w2 ⟨rfl, hx⟩; rw [HG.out])
    go_ret
    exact ⟨ret_bool HE.out.symm, (below1 _ _).trans (hx.mono (by simp))⟩
  · have HE := Lib.hid (show fewSq s f o js sq = onSq s js sq by rw [fewSq, hg, Bool.true_and])
    have HG := Lib.hid hg; clear hg
    go_enter Try.func51, Try.ntmps51
    go_wp2_with fail
    refine (meBoard_any _ _ _ _ _ _ _ (hj.go (below1 _ _))).mono ?_
    rintro e w2 ⟨rfl, hx⟩
    rw [HG.out]
    have hb := box_on (Below.refl _ _) hx (by simp)
    have bc := boxcells hb
    have hB2 := (below1 w (.cells #[.int .i64 s, .int .i64 f, .int .i64 o, .slice A js.length c] 30)).trans (hb.mono (by omega))
    go_wp2_with (go_at_call 30; refine (sqSquare_any _ _ _ _ _ _ _ _ (hj.go hB2)).mono ?_; rintro e w3 ⟨rfl, hx3⟩)
    go_ret
    exact ⟨ret_bool HE.out.symm, hB2.trans (hx3.mono hB2.size)⟩

set_option maxRecDepth 100000 in
set_option maxHeartbeats 400000 in
theorem meHas_any (s f o : Int) (A : Option Addr) (c : Nat) (q : Nat) (js : List (Int × Int)) (h : Bool) (w : World) (hj : RJ w w.heap.size A js) (ha : asked s f o js q = true) (hh : h = true ↔ HasM s f o js q) :
    Calls Try.prog 52 #[.agg #[.int .i64 s, .int .i64 f, .int .i64 o, .slice A js.length c], .int .i64 q] w fun e w' => e = .returned (.bool h) ∧ Below w.heap.size w w' := by
  have hl := hj.1
  have hz := good_sizes (asked_good ha)
  obtain ⟨n, hn⟩ : ∃ n : Nat, n = s.toNat + 1 := ⟨_, rfl⟩
  have hn1 : n ≤ 101 := by omega
  have HA := Lib.hid ha; have HH := Lib.hid hh; have HN := Lib.hid hn; clear ha hh hn
  go_enter Try.func52, Try.ntmps52
  go_wp2_with fail
  refine (sqFar_any _ _ _ _ _ _ _ (hj.go (below1 _ _)) (asked_good HA.out)).mono ?_
  rintro e w2 ⟨g, Ff, L, rfl, hg, hrow, hyes, hno, hL, hx⟩
  rw [← HN.out] at hrow ⊢
  have hb := box_on (Below.refl _ _) hx (by simp)
  have bc := boxcells hb
  have hB2 := (below1 w (.cells #[.int .i64 s, .int .i64 f, .int .i64 o, .slice A js.length c] 30)).trans (hb.mono (by omega))
  clear hx hb
  have HY := Lib.hid hyes; have HNO := Lib.hid hno; clear hyes hno hL
  go_wp2_with fail
  refine (sqReached_any _ _ _ _ _ _ _ _ (hj.go hB2) HA.out).mono ?_
  rintro e w3 ⟨g', F, rfl, hg', hrow', hF, hx3⟩
  rw [← HN.out] at hrow' ⊢
  have hB3 := hB2.trans (hx3.mono hB2.size)
  have hrow3 := hrow.below hx3 hrow.lt
  have HF := Lib.hid hF
  clear hx3 bc hF hB2 hrow
  have hgs := hrow3.lt
  have hgs' := hrow'.lt
  go_wp2_with fail
  go_loopw [14, 6, 7] (fun i _ _ wr => ∃ k : Nat, k ≤ n ∧ i = .int .i64 (k : Int) ∧ wr = w3 ∧ (∀ i, i < k → F i = true → ∃ t, Way (eB s f o js) i t s.toNat)) (fun i _ _ _ => n - (intOf i).toNat)
  case atStart => exact ⟨0, Nat.zero_le _, rfl, rfl, fun i hi => by omega⟩
  case round =>
    obtain ⟨k, hk, rfl, rfl, hall⟩ := hrel
    have HL := Lib.hid hall; clear hall
    by_cases hlt : k < n
    · have h3 : (k : Int) < (n : Int) := by omega
      have d1 := hrow'.cell hlt
      have d2 := hrow3.cell hlt
      cases hP : F k
      · go_wp2
        go_roundw
        case rel => exact ⟨k + 1, hlt, by go_num, by trivial, fun i hi hFi => by
          by_cases e : i = k
          · subst e; rw [hP] at hFi; cases hFi
          · exact HL.out i (by omega) hFi⟩
        case measure => simp [intOf]; omega
      · cases hQ : Ff k
        · rw [farF_no hQ] at d2
          have HE := Lib.hid (show false = h by
            cases h
            · rfl
            · obtain ⟨t, ht⟩ := (HH.out.1 rfl) k ((HF.out k).1 hP)
              exact absurd ht (HNO.out k (rch_ok HA.out k ((HF.out k).1 hP)) hQ t))
          go_wp2
          go_ret
          exact ⟨ret_bool HE.out, hB3⟩
        · rw [farF_yes hQ] at d2
          have h0 : ¬ (L k : Int) < 0 := by omega
          go_wp2
          go_roundw
          case rel => exact ⟨k + 1, hlt, by go_num, by trivial, fun i hi hFi => by
            by_cases e : i = k
            · subst e; exact ⟨_, (HY.out i hQ).2.1⟩
            · exact HL.out i (by omega) hFi⟩
          case measure => simp [intOf]; omega
    · have h3 : ¬ (k : Int) < (n : Int) := by omega
      have HE := Lib.hid (show true = h from (HH.out.2 (fun i hi => HL.out i (by have := okB_lt i (rch_ok HA.out i hi); have := HN.out; omega) ((HF.out i).2 hi))).symm)
      go_wp2
      go_ret
      exact ⟨ret_bool HE.out, hB3⟩

set_option maxRecDepth 100000 in
set_option maxHeartbeats 400000 in
theorem hasMean_any (g : Nat) (s f o : Int) (q : Nat) (js : List (Int × Int)) (h : Bool) (w : World) (hC : CV w g s f o (fun i => jumpOf js i)) (hgw : g < w.heap.size) (ha : asked s f o js q = true) (hh : h = true ↔ HasM s f o js q) :
    Calls Try.prog 54 #[.pointer (some ⟨g, 0, none⟩), .int .i64 q] w fun e w' => e = .returned (.bool h) ∧ Below w.heap.size w w' := by
  have HA := Lib.hid ha; have HH := Lib.hid hh; clear ha hh
  go_enter Try.func54, Try.ntmps54
  go_wp2_with fail
  refine (reached_any _ _ _ _ _ _ _ hC hgw HA.out).mono ?_
  rintro e w3 ⟨F, rfl, hF, hx3⟩
  have HF := Lib.hid hF; clear hF
  go_wp2_with fail
  go_loopw [12, 5, 6, 7, 8] (fun i _ _ _ _ wr => ∃ k : Nat, k ≤ 101 ∧ i = .int .i64 (k : Int) ∧ Below w.heap.size w wr ∧ (∀ i, i < k → F i = true → ∃ t, Way (eB s f o js) i t s.toNat)) (fun i _ _ _ _ _ => 101 - (intOf i).toNat)
  case atStart => exact ⟨0, Nat.zero_le _, rfl, hx3, fun i hi => by omega⟩
  case round =>
    clear hx3
    obtain ⟨k, hk, rfl, hB, hall⟩ := hrel
    have HL := Lib.hid hall; clear hall
    have hBs := hB.size
    by_cases hlt : k < 101
    · have h3 : (k : Int) < 101 := by omega
      have d1 := fun w => arrTIdx F hlt w
      cases hP : F k
      · go_wp2
        go_roundw
        case rel => exact ⟨k + 1, hlt, by go_num, hB, fun i hi hFi => by
          by_cases e : i = k
          · subst e; rw [hP] at hFi; cases hFi
          · exact HL.out i (by omega) hFi⟩
        case measure => simp [intOf]; omega
      · have hask : asked s f o js k = true := by rw [asked, asked_good HA.out, Bool.true_and]; exact onSq_ok (rch_ok HA.out k ((HF.out k).1 hP))
        go_wp2_with fail
        refine (fewest_any _ _ _ _ _ _ _ (hC.below hB hgw) (by omega) hask).mono ?_
        rintro e w4 ⟨x, ok, rfl, hr, hx4⟩
        rcases hr with ⟨rfl, t, rfl, ht⟩ | ⟨rfl, rfl, hno⟩
        · have HT := Lib.hid ht.1; clear ht
          go_wp2
          go_roundw
          case rel => exact ⟨k + 1, hlt, by go_num, hB.trans (hx4.mono hBs), fun i hi hFi => by
            by_cases e : i = k
            · subst e; exact ⟨_, HT.out⟩
            · exact HL.out i (by omega) hFi⟩
          case measure => simp [intOf]; omega
        · have HE := Lib.hid (show false = h by
            cases h
            · rfl
            · obtain ⟨t, ht⟩ := (HH.out.1 rfl) k ((HF.out k).1 hP)
              exact absurd ht (hno t))
          clear hno
          go_wp2
          go_ret
          exact ⟨ret_bool HE.out, hB.trans (hx4.mono hBs)⟩
    · have h3 : ¬ (k : Int) < 101 := by omega
      have HE := Lib.hid (show true = h from (HH.out.2 (fun i hi => by
        have hFi := (HF.out i).2 hi
        by_cases hi2 : i < k
        · exact HL.out i hi2 hFi
        · have := okB_lt i (rch_ok HA.out i hi); have := good_sizes (asked_good HA.out); omega)).symm)
      go_wp2
      go_ret
      exact ⟨ret_bool HE.out, hB⟩
end Go.Proofs.Ytndodohngeaklaa

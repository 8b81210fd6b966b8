/-
  The model: sqSquare, sqAsked, sqThrow, ThrowTo, sqFaces, FacesTo.
-/
import Derived.Test.YtdjnfggcenkbfaaC1a
namespace Go.Proofs.Ytdjnfggcenkbfaa
open Go.RowKit

theorem sqSquare_any (s f o : Int) (A : Option Addr) (c : Nat) (sq : Int) (js : List (Int × Int)) (w : World) (hj : RJ w w.heap.size A js) :
    Calls Try.prog 54 #[.agg #[.int .i64 s, .int .i64 f, .int .i64 o, .slice A js.length c], .int .i64 sq] w fun e w' => e = .returned (.bool (onSq s js sq)) ∧ Below w.heap.size w w' := by
  have hl := hj.1
  cases hi : inB sq 0 s
  · go_enter Try.func54, Try.ntmps54
    go_wp2_with (go_at_call 51; refine (l1In_any _ _ _ _).mono ?_; rintro e w' ⟨rfl, rfl⟩)
    go_ret
    exact ⟨ret_bool (by rw [onSq, hi, Bool.false_and]), below1 _ _⟩
  · go_enter Try.func54, Try.ntmps54
    go_wp2_with (first | (go_at_call 51; refine (l1In_any _ _ _ _).mono ?_; rintro e w' ⟨rfl, rfl⟩) | (go_at_call 69; refine (sqJump_any _ _ _ _ _ _ _ _ (hj.go (below1 _ _))).mono ?_; rintro e w2 ⟨rfl, hx⟩))
    go_ret
    exact ⟨ret_bool (by rw [onSq, hi, Bool.true_and]), (below1 _ _).trans (hx.mono (by simp))⟩

theorem sqAsked_any (s f o : Int) (A : Option Addr) (c : Nat) (sq : Int) (js : List (Int × Int)) (w : World) (hj : RJ w w.heap.size A js) :
    Calls Try.prog 50 #[.agg #[.int .i64 s, .int .i64 f, .int .i64 o, .slice A js.length c], .int .i64 sq] w fun e w' => e = .returned (.bool (asked s f o js sq)) ∧ Below w.heap.size w w' := by
  have hl := hj.1
  cases hg : good ⟨s, f, o, js⟩
  · go_enter Try.func50, Try.ntmps50
    go_wp2_with (go_at_call 71; refine (sqGood_any _ _ _ _ _ _ _ (hj.go (below1 _ _))).mono ?_; rintro e w2 ⟨rfl, hx⟩)
    go_ret
    exact ⟨ret_bool (by rw [asked, hg, Bool.false_and]), (below1 _ _).trans (hx.mono (by simp))⟩
  · go_enter Try.func50, Try.ntmps50
    go_wp2_with fail
    refine (sqGood_any _ _ _ _ _ _ _ (hj.go (below1 _ _))).mono ?_
    rintro e w2 ⟨rfl, hx⟩
    have hb := box_on (Below.refl _ _) hx (by simp)
    have q := boxcells hb
    go_wp2_with fail
    refine (sqSquare_any _ _ _ _ _ _ _ _ (hj.go ((below1 _ _).trans (hb.mono (by omega))))).mono ?_
    rintro e w3 ⟨rfl, hx3⟩
    go_wp2
    go_ret
    exact ⟨ret_bool (by rw [asked, hg, Bool.true_and]), (below1 _ _).trans ((box_on hb hx3 (by have := hb.size; simpa using this)).mono (by omega))⟩

set_option maxHeartbeats 400000 in
theorem sqThrow_any (s f o : Int) (A : Option Addr) (c : Nat) (sq face : Int) (js : List (Int × Int)) (w : World) (hj : RJ w w.heap.size A js) (hs0 : 1 ≤ s) (hs : s ≤ 100) (ho0 : 0 ≤ o) (ho : o ≤ 2) (h0 : 0 ≤ sq) (h1 : sq ≤ s) (hf0 : 1 ≤ face) (hf : face ≤ 8) :
    Calls Try.prog 47 #[.agg #[.int .i64 s, .int .i64 f, .int .i64 o, .slice A js.length c], .int .i64 sq, .int .i64 face] w fun e w' => e = .returned (.int .i64 (thrown s o js sq face)) ∧ Below w.heap.size w w' := by
  have hl := hj.1
  by_cases he : sq = s
  · have e1 : (sq == s) = true := by simpa using he
    go_enter Try.func47, Try.ntmps47
    go_wp2
    go_ret
    exact ⟨ret_int (by simp [thrown, he]), below1 _ _⟩
  · have e1 : (sq == s) = false := by simpa using he
    by_cases hle : sq + face ≤ s
    · have e2 : ¬ s < sq + face := by omega
      go_enter Try.func47, Try.ntmps47
      go_wp2_with (go_at_call 69; refine (sqJump_any _ _ _ _ _ _ _ _ (hj.go (below1 _ _))).mono ?_; rintro e w2 ⟨rfl, hx⟩)
      go_ret
      exact ⟨ret_int (by rw [thrown, if_neg he, if_pos (show sq + face ≤ s by omega)]), (below1 _ _).trans (hx.mono (by simp))⟩
    · have e2 : s < sq + face := by omega
      by_cases hz : o = 0
      · subst hz
        go_enter Try.func47, Try.ntmps47
        go_wp2
        go_ret
        exact ⟨ret_int (by rw [thrown, if_neg he, if_neg (show ¬ sq + face ≤ s by omega), if_pos rfl]), below1 _ _⟩
      · by_cases hz1 : o = 1
        · subst hz1
          go_enter Try.func47, Try.ntmps47
          go_wp2
          go_ret
          exact ⟨ret_int (by rw [thrown, if_neg he, if_neg (show ¬ sq + face ≤ s by omega), if_neg (by decide), if_pos rfl]), below1 _ _⟩
        · obtain rfl : o = 2 := by omega
          by_cases hb : 2 * s - (sq + face) < 0
          · go_enter Try.func47, Try.ntmps47
            go_wp2
            go_ret
            exact ⟨ret_int (by rw [thrown, if_neg he, if_neg (show ¬ sq + face ≤ s by omega), if_neg (by decide), if_neg (by decide), if_pos (show 2 * s - (sq + face) < 0 by omega)]), below1 _ _⟩
          · go_enter Try.func47, Try.ntmps47
            go_wp2_with (go_at_call 69; refine (sqJump_any _ _ _ _ _ _ _ _ (hj.go (below1 _ _))).mono ?_; rintro e w2 ⟨rfl, hx⟩)
            go_ret
            exact ⟨ret_int (by rw [thrown, if_neg he, if_neg (show ¬ sq + face ≤ s by omega), if_neg (by decide), if_neg (by decide), if_neg (show ¬ 2 * s - (sq + face) < 0 by omega)]), (below1 _ _).trans (hx.mono (by simp))⟩

set_option maxHeartbeats 400000 in
theorem specThrowTo_any (s f o : Int) (A : Option Addr) (c : Nat) (sq face : Int) (js : List (Int × Int)) (w : World) (hj : RJ w w.heap.size A js) :
    Calls Try.prog 21 #[.agg #[.int .i64 s, .int .i64 f, .int .i64 o, .slice A js.length c], .int .i64 sq, .int .i64 face] w fun e w' => e = .returned (.tuple #[.int .i64 (throwTo s f o js sq face).1, .bool (throwTo s f o js sq face).2]) ∧ Below w.heap.size w w' := by
  have hl := hj.1
  cases ha : asked s f o js sq
  · have ht : throwTo s f o js sq face = (0, false) := by rw [throwTo, ha]; rfl
    have HT := Lib.hid ht; clear ht
    rw [HT.out]
    go_enter Try.func21, Try.ntmps21
    go_wp2_with (go_at_call 50; refine (sqAsked_any _ _ _ _ _ _ _ _ (hj.go (below1 _ _))).mono ?_; rintro e w2 ⟨rfl, hx⟩)
    go_ret2
    exact ⟨rfl, (below1 _ _).trans (hx.mono (by simp))⟩
  · have hz := good_sizes (asked_good ha)
    have hq := onSq_in (asked_on ha)
    cases hi : inB face 1 f
    · have ht : throwTo s f o js sq face = (0, false) := by rw [throwTo, ha, hi]; rfl
      have HT := Lib.hid ht; clear ht
      rw [HT.out]
      go_enter Try.func21, Try.ntmps21
      go_wp2_with fail
      refine (sqAsked_any _ _ _ _ _ _ _ _ (hj.go (below1 _ _))).mono ?_
      rintro e w2 ⟨rfl, hx⟩
      have hb := box_on (Below.refl _ _) hx (by simp)
      have q := boxcells hb
      go_wp2_with (go_at_call 51; refine (l1In_any _ _ _ _).mono ?_; rintro e w' ⟨rfl, rfl⟩)
      go_ret2
      exact ⟨rfl, (below1 _ _).trans (hb.mono (by omega))⟩
    · have hf := inB_iff.1 hi
      have ht : throwTo s f o js sq face = (thrown s o js sq face, true) := by rw [throwTo, ha, hi]; rfl
      have HT := Lib.hid ht; clear ht
      rw [HT.out]
      go_enter Try.func21, Try.ntmps21
      go_wp2_with fail
      refine (sqAsked_any _ _ _ _ _ _ _ _ (hj.go (below1 _ _))).mono ?_
      rintro e w2 ⟨rfl, hx⟩
      have hb := box_on (Below.refl _ _) hx (by simp)
      have q := boxcells hb
      go_wp2_with (first | (go_at_call 51; refine (l1In_any _ _ _ _).mono ?_; rintro e w' ⟨rfl, rfl⟩) | (go_at_call 47; refine (sqThrow_any _ _ _ _ _ _ _ _ _ (hj.go ((below1 _ _).trans (hb.mono (by omega)))) hz.1.1 hz.1.2 hz.2.2.1.1 hz.2.2.1.2 hq.1 hq.2 hf.1 (by omega)).mono ?_; rintro e w3 ⟨rfl, hx3⟩))
      go_ret2
      exact ⟨rfl, (below1 _ _).trans ((box_on hb hx3 (by have := hb.size; simpa using this)).mono (by omega))⟩
end Go.Proofs.Ytdjnfggcenkbfaa

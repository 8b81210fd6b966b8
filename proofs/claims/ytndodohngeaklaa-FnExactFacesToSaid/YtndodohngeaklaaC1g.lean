/-
  FacesTo, the model's and the program's.
-/
import Derived.Test.YtndodohngeaklaaC1gf
import Derived.Test.YtndodohngeaklaaC1e
import Derived.Test.YtndodohngeaklaaC1d
namespace Go.Proofs.Ytndodohngeaklaa
open Go.RowKit

set_option maxHeartbeats 400000 in
theorem sqFaces_any (s f o : Int) (A : Option Addr) (c : Nat) (sq to : Int) (js : List (Int × Int)) (w : World) (hj : RJ w w.heap.size A js) (hs0 : 1 ≤ s) (hs : s ≤ 100) (hf0 : 1 ≤ f) (hf : f ≤ 8) (ho0 : 0 ≤ o) (ho : o ≤ 2) (h0 : 0 ≤ sq) (h1 : sq ≤ s) :
    Calls Try.prog 31 #[.agg #[.int .i64 s, .int .i64 f, .int .i64 o, .slice A js.length c], .int .i64 sq, .int .i64 to] w fun e w' => e = .returned (.int .i64 (facesTo s o js sq to f.toNat)) ∧ Below w.heap.size w w' := by
  have hl := hj.1
  go_enter Try.func31, Try.ntmps31
  go_wp2
  go_loopw [7, 8] (fun n i wr => ∃ k : Nat, k ≤ f.toNat ∧ i = .int .i64 ((k : Int) + 1) ∧ n = .int .i64 (facesTo s o js sq to k) ∧ Below (w.heap.size + 1) (w.alloc (.cells #[.int .i64 s, .int .i64 f, .int .i64 o, .slice A js.length c] 30)) wr) (fun _ i _ => f.toNat + 1 - (intOf i).toNat)
  case atStart => exact ⟨0, Nat.zero_le _, rfl, rfl, Below.refl _ _⟩
  case round =>
    obtain ⟨k, hk, rfl, rfl, hb⟩ := hrel
    have q := boxcells hb
    have hn := facesTo_le s o js sq to k
    by_cases hlt : k < f.toNat
    · have h3 : (k : Int) + 1 ≤ f := by omega
      go_wp2_with (go_at_call 57; refine (sqThrow_any _ _ _ _ _ _ _ _ _ (hj.go ((below1 _ _).trans (hb.mono (by omega)))) hs0 hs ho0 ho h0 h1 (by omega) (by omega)).mono ?_; rintro e w2 ⟨rfl, hx⟩)
      · have he : thrown s o js sq ((k : Int) + 1) = to := by simpa using (show (thrown s o js sq ((k : Int) + 1) == to) = true by assumption)
        go_roundw
        case rel => exact ⟨k + 1, by omega, by go_num, by rw [facesTo, if_pos he], box_on hb hx (by have := hb.size; simpa using this)⟩
        case measure => simp [intOf]; omega
      · have he : ¬ thrown s o js sq ((k : Int) + 1) = to := by simpa using (show (thrown s o js sq ((k : Int) + 1) == to) = false by assumption)
        go_roundw
        case rel => exact ⟨k + 1, by omega, by go_num, by rw [facesTo, if_neg he]; simp, box_on hb hx (by have := hb.size; simpa using this)⟩
        case measure => simp [intOf]; omega
    · have h3 : ¬ (k : Int) + 1 ≤ f := by omega
      obtain rfl : k = f.toNat := by omega
      go_wp2
      go_ret
      exact ⟨rfl, (below1 _ _).trans (hb.mono (by omega))⟩

set_option maxHeartbeats 400000 in
theorem specFacesTo_any (s f o : Int) (A : Option Addr) (c : Nat) (sq to : Int) (js : List (Int × Int)) (w : World) (hj : RJ w w.heap.size A js) :
    Calls Try.prog 10 #[.agg #[.int .i64 s, .int .i64 f, .int .i64 o, .slice A js.length c], .int .i64 sq, .int .i64 to] w fun e w' => e = .returned (.tuple #[.int .i64 (facesToR s f o js sq to).1, .bool (facesToR s f o js sq to).2]) ∧ Below w.heap.size w w' := by
  have hl := hj.1
  cases ha : asked s f o js sq
  · have ht : facesToR s f o js sq to = (0, false) := by rw [facesToR, ha]; rfl
    have HT := Lib.hid ht; clear ht
    rw [HT.out]
    go_enter Try.func10, Try.ntmps10
    go_wp2_with (go_at_call 29; refine (sqAsked_any _ _ _ _ _ _ _ _ (hj.go (below1 _ _))).mono ?_; rintro e w2 ⟨rfl, hx⟩)
    go_ret2
    exact ⟨rfl, (below1 _ _).trans (hx.mono (by simp))⟩
  · have hz := good_sizes (asked_good ha)
    have hq := onSq_in (asked_on ha)
    cases hi : onSq s js to
    · have ht : facesToR s f o js sq to = (0, false) := by rw [facesToR, ha, hi]; rfl
      have HT := Lib.hid ht; clear ht
      rw [HT.out]
      go_enter Try.func10, Try.ntmps10
      go_wp2_with fail
      refine (sqAsked_any _ _ _ _ _ _ _ _ (hj.go (below1 _ _))).mono ?_
      rintro e w2 ⟨rfl, hx⟩
      have hb := box_on (Below.refl _ _) hx (by simp)
      have q := boxcells hb
      go_wp2_with (go_at_call 30; refine (sqSquare_any _ _ _ _ _ _ _ _ (hj.go ((below1 _ _).trans (hb.mono (by omega))))).mono ?_; rintro e w3 ⟨rfl, hx3⟩)
      go_ret2
      exact ⟨rfl, (below1 _ _).trans ((box_on hb hx3 (by have := hb.size; simpa using this)).mono (by omega))⟩
    · have ht : facesToR s f o js sq to = (facesTo s o js sq to f.toNat, true) := by rw [facesToR, ha, hi]; rfl
      have HT := Lib.hid ht; clear ht
      rw [HT.out]
      go_enter Try.func10, Try.ntmps10
      go_wp2_with fail
      refine (sqAsked_any _ _ _ _ _ _ _ _ (hj.go (below1 _ _))).mono ?_
      rintro e w2 ⟨rfl, hx⟩
      have hb := box_on (Below.refl _ _) hx (by simp)
      have q := boxcells hb
      go_wp2_with (go_at_call 30; refine (sqSquare_any _ _ _ _ _ _ _ _ (hj.go ((below1 _ _).trans (hb.mono (by omega))))).mono ?_; rintro e w3 ⟨rfl, hx3⟩; have hb3 := box_on hb hx3 (by have := hb.size; simpa using this); have q3 := boxcells hb3)
      refine (sqFaces_any _ _ _ _ _ _ _ _ _ (hj.go ((below1 _ _).trans (hb3.mono (by omega)))) hz.1.1 hz.1.2 hz.2.1.1 hz.2.1.2 hz.2.2.1.1 hz.2.2.1.2 hq.1 hq.2).mono ?_
      rintro e w4 ⟨rfl, hx4⟩
      go_wp2
      go_ret2
      exact ⟨rfl, (below1 _ _).trans ((box_on hb3 hx4 (by have := hb3.size; simpa using this)).mono (by omega))⟩

set_option maxRecDepth 100000 in
set_option maxHeartbeats 400000 in
theorem implFacesTo_any (s f o : Int) (A : Option Addr) (c : Nat) (sq to : Int) (js : List (Int × Int)) (w : World) (hj : RJ w w.heap.size A js) :
    Calls Try.prog 12 #[.agg #[.int .i64 s, .int .i64 f, .int .i64 o, .slice A js.length c], .int .i64 sq, .int .i64 to] w fun e w' => e = .returned (.tuple #[.int .i64 (facesToR s f o js sq to).1, .bool (facesToR s f o js sq to).2]) ∧ Below w.heap.size w w' := by
  have hl := hj.1
  cases ha : asked s f o js sq
  · have ht : facesToR s f o js sq to = (0, false) := by rw [facesToR, ha]; rfl
    have HT := Lib.hid ht; clear ht
    rw [HT.out]
    have hst := storeCourse 0 0 0 (fun _ => 0)
    go_enter Try.func12, Try.ntmps12
    go_wp2_with fail
    refine (courseAt_no _ _ _ _ _ _ _ _ (hj.go (below1 _ _)) ha).mono ?_
    rintro e w2 ⟨rfl, hx⟩
    go_wp2
    go_ret2
    exact ⟨rfl, ((below1 _ _).trans (hx.mono (by simp))).alloc (by have := hx.size; simp at this; omega) _⟩
  · have hz := good_sizes (asked_good ha)
    have hq := onSq_in (asked_on ha)
    have hst := storeCourse s f o (fun i => jumpOf js i)
    cases hi : onSq s js to
    · have ht : facesToR s f o js sq to = (0, false) := by rw [facesToR, ha, hi]; rfl
      have HT := Lib.hid ht; clear ht
      rw [HT.out]
      go_enter Try.func12, Try.ntmps12
      go_wp2_with fail
      refine (courseAt_yes _ _ _ _ _ _ _ _ (hj.go (below1 _ _)) ha).mono ?_
      rintro e w2 ⟨rfl, hx⟩
      have hCn : CA (w2.alloc (.cells (crsCells s f o (fun i => jumpOf js i)) 58)) w2.heap.size s f o (fun i => jumpOf js i) := heap_alloc_at _ _ _ rfl
      go_wp2_with (go_at_call 34; refine (holds_any _ _ _ _ _ _ _ hCn.cv hz.1.2).mono ?_; rintro e w' ⟨rfl, rfl⟩)
      go_ret2
      exact ⟨rfl, ((below1 _ _).trans (hx.mono (by simp))).alloc (by have := hx.size; simp at this; omega) _⟩
    · have ht : facesToR s f o js sq to = (facesTo s o js sq to f.toNat, true) := by rw [facesToR, ha, hi]; rfl
      have HT := Lib.hid ht; clear ht
      rw [HT.out]
      go_enter Try.func12, Try.ntmps12
      go_wp2_with fail
      refine (courseAt_yes _ _ _ _ _ _ _ _ (hj.go (below1 _ _)) ha).mono ?_
      rintro e w2 ⟨rfl, hx⟩
      have hCn : CA (w2.alloc (.cells (crsCells s f o (fun i => jumpOf js i)) 58)) w2.heap.size s f o (fun i => jumpOf js i) := heap_alloc_at _ _ _ rfl
      have hB : Below w.heap.size w (w2.alloc (.cells (crsCells s f o (fun i => jumpOf js i)) 58)) := ((below1 _ _).trans (hx.mono (by simp))).alloc (by have := hx.size; simp at this; omega) _
      go_wp2_with (go_at_call 34; refine (holds_any _ _ _ _ _ _ _ hCn.cv hz.1.2).mono ?_; rintro e w' ⟨rfl, rfl⟩)
      refine (crsFacesTo_any _ _ _ _ _ _ _ _ hCn.cv hCn.lt ha).mono ?_
      rintro e w3 ⟨rfl, hx3⟩
      go_wp2
      go_ret2
      exact ⟨rfl, hB.trans (hx3.mono hB.size)⟩
end Go.Proofs.Ytndodohngeaklaa

/-
  PathOfThrows and PlayThrows, the model's and the program's. PathOfThrows and PlayThrows, the program's; PlayThrows, the model's. PlayThrows, the model's and the program's.
-/
import Derived.Test.YteogfondnpfklaaM1t
import Derived.Test.YteogfondnpfklaaC1h
namespace Go.Proofs.Yteogfondnpfklaa
open Go.RowKit

set_option maxHeartbeats 400000 in
theorem l1All_any (A : Option Addr) (c : Nat) (xs : List Int) (lo hi : Int) (w : World) (hj : RI w w.heap.size A xs) :
    Calls Try.prog 106 #[.slice A xs.length c, .int .i64 lo, .int .i64 hi] w fun e w' => e = .returned (.bool (xs.all (fun x => inB x lo hi))) ∧ w = w' := by
  have hl := hj.1
  go_enter Try.func106, Try.ntmps106
  go_wp2
  go_loop [11] (fun i => ∃ k : Nat, k ≤ xs.length ∧ i = .int .i64 k ∧ Hid (xs.all (fun x => inB x lo hi) = (xs.drop k).all (fun x => inB x lo hi))) (fun i => xs.length - (intOf i).toNat)
  case atStart => exact ⟨0, Nat.zero_le _, rfl, Lib.hid rfl⟩
  case round =>
    obtain ⟨k, hk, rfl, Hd⟩ := hrel
    by_cases hlt : k < xs.length
    · obtain ⟨b, off, rfl, hB, h1⟩ := hj.at_ (Below.refl _ _) hlt
      cases hp : inB xs[k] lo hi
      · have HP := Lib.hid hp
        go_wp2_with (go_at_call 50; refine (l1In_any _ _ _ _).mono ?_; rintro e w' ⟨rfl, rfl⟩)
        go_ret
        exact ⟨ret_bool (by rw [Hd.out, drop_step _ _ hlt, List.all_cons, HP.out, Bool.false_and]), rfl⟩
      · have HP := Lib.hid hp
        go_wp2_with (go_at_call 50; refine (l1In_any _ _ _ _).mono ?_; rintro e w' ⟨rfl, rfl⟩)
        go_round
        case rel => exact ⟨k + 1, by omega, by go_num, Lib.hid (by rw [Hd.out, drop_step _ _ hlt, List.all_cons, HP.out, Bool.true_and])⟩
        case measure => simp [intOf]; omega
    · go_wp2
      go_ret
      exact ⟨ret_bool (by rw [Hd.out, List.drop_eq_nil_of_le (by omega)]; rfl), rfl⟩




set_option maxHeartbeats 400000 in
theorem hasThrows_any (g : Nat) (s f o : Int) (G : Nat → Int) (A : Option Addr) (c : Nat) (xs : List Int) (w : World) (hC : CA w g s f o G) (hx : RI w w.heap.size A xs) :
    Calls Try.prog 110 #[.pointer (some ⟨g, 0, none⟩), .slice A xs.length c] w fun e w' => e = .returned (.bool (throwsOk f xs)) ∧ w = w' := by
  have hl := hx.1
  by_cases hn : xs.length ≤ 200
  · have hn' : ¬ (200 : Int) < xs.length := by omega
    have e : throwsOk f xs = xs.all (fun x => inB x 1 f) := by simp [throwsOk, hn]
    rw [e]
    go_enter Try.func110, Try.ntmps110
    go_wp2
    go_loop [12] (fun i => ∃ k : Nat, k ≤ xs.length ∧ i = .int .i64 k ∧ Hid (xs.all (fun x => inB x 1 f) = (xs.drop k).all (fun x => inB x 1 f))) (fun i => xs.length - (intOf i).toNat)
    case atStart => exact ⟨0, Nat.zero_le _, rfl, Lib.hid rfl⟩
    case round =>
      obtain ⟨k, hk, rfl, Hd⟩ := hrel
      by_cases hlt : k < xs.length
      · obtain ⟨b, off, rfl, hB, h1⟩ := hx.at_ (Below.refl _ _) hlt
        cases hp : inB xs[k] 1 f
        · have HP := Lib.hid hp
          go_wp2_with (go_at_call 133; refine (hasFace_any _ _ _ _ _ _ _ hC.cv).mono ?_; rintro e w' ⟨rfl, rfl⟩)
          go_ret
          exact ⟨ret_bool (by rw [Hd.out, drop_step _ _ hlt, List.all_cons, HP.out, Bool.false_and]), rfl⟩
        · have HP := Lib.hid hp
          go_wp2_with (go_at_call 133; refine (hasFace_any _ _ _ _ _ _ _ hC.cv).mono ?_; rintro e w' ⟨rfl, rfl⟩)
          go_round
          case rel => exact ⟨k + 1, by omega, by go_num, Lib.hid (by rw [Hd.out, drop_step _ _ hlt, List.all_cons, HP.out, Bool.true_and])⟩
          case measure => simp [intOf]; omega
      · go_wp2
        go_ret
        exact ⟨ret_bool (by rw [Hd.out, List.drop_eq_nil_of_le (by omega)]; rfl), rfl⟩
  · have hn' : (200 : Int) < xs.length := by omega
    have e : throwsOk f xs = false := by simp [throwsOk, hn]
    rw [e]
    go_enter Try.func110, Try.ntmps110
    go_wp2
    go_ret
    exact ⟨rfl, rfl⟩
end Go.Proofs.Yteogfondnpfklaa

namespace Go.Proofs.Yteogfondnpfklaa
open Go.RowKit

set_option maxRecDepth 100000 in
set_option maxHeartbeats 400000 in
theorem implPathOfThrows_any (s f o : Int) (A A' : Option Addr) (c c' : Nat) (sq : Int) (xs : List Int) (js : List (Int × Int)) (w : World) (hj : RJ w w.heap.size A js) (hxs : RI w w.heap.size A' xs) :
    Calls Try.prog 141 #[.agg #[.int .i64 s, .int .i64 f, .int .i64 o, .slice A js.length c], .int .i64 sq, .slice A' xs.length c'] w (IntsBack w (pathR s f o js sq xs)) := by
  have hl := hj.1
  have hl' := hxs.1
  cases ha : asked s f o js sq
  · have ht : pathR s f o js sq xs = ([], false) := by rw [pathR, ha]; rfl
    rw [ht]
    have hst := storeCourse 0 0 0 (fun _ => 0)
    go_enter Try.func141, Try.ntmps141
    go_wp2_with fail
    refine (courseAt_no _ _ _ _ _ _ _ _ (hj.go (below1 _ _)) ha).mono ?_
    rintro e w2 ⟨rfl, hx⟩
    go_wp2
    go_ret2
    exact ⟨none, 0, rfl, .inl rfl, ((below1 _ _).trans (hx.mono (by simp))).alloc (by have := hx.size; simp at this; omega) _⟩
  · have hz := good_sizes (asked_good ha)
    have hq := onSq_in (asked_on ha)
    have HG := Lib.hid (asked_good ha)
    have hst := storeCourse s f o (fun i => jumpOf js i)
    cases hto : throwsOk f xs
    · have ht : pathR s f o js sq xs = ([], false) := by rw [pathR, ha, hto]; rfl
      rw [ht]
      have HT := Lib.hid hto; clear hto ht
      go_enter Try.func141, Try.ntmps141
      go_wp2_with fail
      refine (courseAt_yes _ _ _ _ _ _ _ _ (hj.go (below1 _ _)) ha).mono ?_
      rintro e w2 ⟨rfl, hx⟩
      have hs2 : w.heap.size < w2.heap.size := by have := hx.size; simp at this; omega
      have hCn : CA (w2.alloc (.cells (crsCells s f o (fun i => jumpOf js i)) 138)) w2.heap.size s f o (fun i => jumpOf js i) := heap_alloc_at _ _ _ rfl
      have hB : Below w.heap.size w (w2.alloc (.cells (crsCells s f o (fun i => jumpOf js i)) 138)) := ((below1 _ _).trans (hx.mono (by simp))).alloc (by omega) _
      go_wp2_with fail
      refine (hasThrows_any _ _ _ _ _ _ _ _ _ hCn (hxs.go hB)).mono ?_
      rintro e w' ⟨rfl, rfl⟩
      rw [HT.out]
      go_wp2
      go_ret2
      exact ⟨none, 0, rfl, .inl rfl, hB⟩
    · have ht : pathR s f o js sq xs = (pathTo s o js sq xs xs.length, true) := by rw [pathR, ha, hto]; rfl
      rw [ht]
      have hn := throwsOk_len hto
      have HT := Lib.hid hto; clear hto ht
      obtain ⟨i0, hi, hz0, hz1, hz2⟩ := info_parts infoInt1
      go_enter Try.func141, Try.ntmps141
      go_wp2_with fail
      refine (courseAt_yes _ _ _ _ _ _ _ _ (hj.go (below1 _ _)) ha).mono ?_
      rintro e w2 ⟨rfl, hx⟩
      have hs2 : w.heap.size < w2.heap.size := by have := hx.size; simp at this; omega
      have hCn : CA (w2.alloc (.cells (crsCells s f o (fun i => jumpOf js i)) 138)) w2.heap.size s f o (fun i => jumpOf js i) := heap_alloc_at _ _ _ rfl
      have hB : Below w.heap.size w (w2.alloc (.cells (crsCells s f o (fun i => jumpOf js i)) 138)) := ((below1 _ _).trans (hx.mono (by simp))).alloc (by omega) _
      go_wp2_with fail
      refine (hasThrows_any _ _ _ _ _ _ _ _ _ hCn (hxs.go hB)).mono ?_
      rintro e w' ⟨rfl, rfl⟩
      rw [HT.out]
      have hC1 : CA ((w2.alloc (.cells (crsCells s f o (fun i => jumpOf js i)) 138)).alloc (.cells #[.int .i64 sq] 3)) w2.heap.size s f o (fun i => jumpOf js i) := (Below.heap_alloc _ _ _ (by simp)).trans hCn
      go_wp2
      clear hCn
      go_loopw [1, 10, 30] (fun sv v i wr => ∃ k : Nat, k ≤ xs.length ∧ i = .int .i64 k ∧ sv = .int .i64 (walkTo s o js sq xs k) ∧ Below w.heap.size w wr ∧ CA wr w2.heap.size s f o (fun i => jumpOf js i) ∧ wr.ownsRow (w2.heap.size + 1) 3 1 v (k + 1) ((pathTo s o js sq xs k).map (Value.int .i64))) (fun _ _ i _ => xs.length - (intOf i).toNat)
      case atStart => exact ⟨0, Nat.zero_le _, rfl, by rw [walkTo_zero], hB.alloc (by simp; omega) _, hC1, by rw [pathTo_zero]; exact own_new1 _ _ _ _ (by simp) (by simp)⟩
      case round =>
        clear hC1
        obtain ⟨k, hk, rfl, rfl, hb, hC, hown⟩ := hrel
        have hs : w2.heap.size < wr.heap.size := hC.lt
        have hin := walkTo_in HG.out hq.1 hq.2 HT.out k hk
        by_cases hlt : k < xs.length
        · obtain ⟨b, off, rfl, hBB, h3⟩ := hxs.at_ hb hlt
          have hf := throwsOk_at HT.out hlt
          have HW := Lib.hid (walkTo_succ s o js sq xs k hlt)
          go_wp2_with (first | (go_at_call 137; refine (behind_bel _ _ _ _ _ _ _ _ hC.cv hz.1.1 hz.1.2 hz.2.2.1.1 hz.2.2.1.2 hin.1 hin.2 (good_end (asked_good ha)) (walkTo_fix (asked_good ha) (onSq_fix (asked_on ha)) k hk) hf.1 (by omega)).mono ?_; rintro e w' ⟨rfl, hxd, hsd⟩; replace hown := own_below hown hxd; replace hb := keepB hb (by have := hb.size; omega) hxd; replace hC := hC.below hxd hs; rw [← hsd] at hs; clear hsd) | (at_builtin; go_loud (refine wpList_append_own _ rfl _ _ 54 rfl (w2.heap.size + 1) 3 i0 (.int .i64 0) 1 8 Try.underlying54 hi hz0 hz1 hz2 rfl (by decide) _ _ _ rfl (hown.alloc _) ⟨w'.heap.size, 0, none⟩ 1 1 [.int .i64 (thrown s o js (walkTo s o js sq xs k) xs[k])] rfl rfl (cell_new1 _ _ _) (one_int _) (by unfold maxLen; omega) (by omega) (by simp; omega) ?_; intro v1 w4 hown4 hg4 _)))
          go_roundw
          case rel =>
            have hf := own_from hown
            refine ⟨k + 1, by omega, by go_num, by rw [HW.out], (hb.alloc (by omega) _).grown hg4 (by simp; omega) (fun g hg => by have := hf g hg; omega), (hg4.block _ (by simp; omega) (fun hg => by have := hf _ hg.symm; omega)).trans ((Below.heap_alloc _ _ _ hs).trans hC), ?_⟩
            rw [pathTo_succ, List.map_append, HW.out]
            exact hown4
          case measure => simp [intOf]; omega
        · obtain rfl : k = xs.length := by omega
          go_wp2
          obtain ⟨A2, c2, rfl, ho⟩ := own_oi hown (pathTo_len _ _ _ _ _ _)
          go_ret2
          refine ⟨A2, c2, rfl, ?_, hb⟩
          rcases ho with h | ⟨g, e, hg, hr⟩
          · exact .inl h
          · exact .inr ⟨g, e, by omega, hr⟩
end Go.Proofs.Yteogfondnpfklaa

namespace Go.Proofs.Yteogfondnpfklaa
open Go.RowKit

theorem pathTo_at (s o : Int) (js : List (Int × Int)) (sq : Int) (xs : List Int) (n : Nat) (h : n < (pathTo s o js sq xs n).length) : (pathTo s o js sq xs n)[n] = walkTo s o js sq xs n := by
  have := pathTo_last s o js sq xs n
  rw [List.getElem?_eq_getElem h] at this
  exact Option.some.inj this


set_option maxHeartbeats 400000 in
theorem implPlayThrows_any (s f o : Int) (A A' : Option Addr) (c c' : Nat) (sq : Int) (xs : List Int) (js : List (Int × Int)) (w : World) (hj : RJ w w.heap.size A js) (hx : RI w w.heap.size A' xs) :
    Calls Try.prog 122 #[.agg #[.int .i64 s, .int .i64 f, .int .i64 o, .slice A js.length c], .int .i64 sq, .slice A' xs.length c'] w fun e w' => e = .returned (.tuple #[.int .i64 (playR s f o js sq xs).1, .bool (playR s f o js sq xs).2]) ∧ Below w.heap.size w w' := by
  have hl := hj.1
  have hl' := hx.1
  cases hk : (asked s f o js sq && throwsOk f xs)
  · have ht : playR s f o js sq xs = (0, false) := by rw [playR, hk]; rfl
    have ht2 : pathR s f o js sq xs = ([], false) := by rw [pathR, hk]; rfl
    have HT2 := Lib.hid ht2
    rw [ht]
    clear hk ht2
    go_enter Try.func122, Try.ntmps122
    go_wp2_with fail
    refine (implPathOfThrows_any _ _ _ _ _ _ _ _ _ _ _ (hj.go (below1 _ _)) (hx.go (below1 _ _))).mono ?_
    rintro e w3 ⟨A2, c2, rfl, ho, hx3⟩
    rw [HT2.out]
    go_wp2
    go_ret2
    exact ⟨rfl, (below1 _ _).trans (hx3.mono (by simp))⟩
  · have ht : playR s f o js sq xs = (walkTo s o js sq xs xs.length, true) := by rw [playR, hk]; rfl
    have ht2 : pathR s f o js sq xs = (pathTo s o js sq xs xs.length, true) := by rw [pathR, hk]; rfl
    have HT2 := Lib.hid ht2
    have hn : xs.length ≤ 200 := by rw [Bool.and_eq_true] at hk; exact throwsOk_len hk.2
    rw [ht]
    clear hk ht2
    go_enter Try.func122, Try.ntmps122
    go_wp2_with fail
    refine (implPathOfThrows_any _ _ _ _ _ _ _ _ _ _ _ (hj.go (below1 _ _)) (hx.go (below1 _ _))).mono ?_
    rintro e w3 ⟨A2, c2, rfl, ho, hx3⟩
    rw [HT2.out] at ho ⊢
    simp only at ho ⊢
    have R3 := ho.ri (by rw [pathTo_len]; omega)
    obtain ⟨b, off, rfl, hBB, h3⟩ := R3.at_ (Below.refl _ _) (k := xs.length) (by rw [pathTo_len]; omega)
    rw [pathTo_at] at h3
    have hpl := pathTo_len s o js sq xs xs.length
    rw [hpl]
    clear R3 ho
    go_wp2
    go_ret2
    exact ⟨rfl, (below1 _ _).trans (hx3.mono (by simp))⟩
end Go.Proofs.Yteogfondnpfklaa

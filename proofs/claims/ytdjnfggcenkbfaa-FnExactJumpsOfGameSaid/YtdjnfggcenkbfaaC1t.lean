/-
  PathOfThrows and PlayThrows, the model's and the program's.
-/
import Derived.Test.YtdjnfggcenkbfaaM1t
import Derived.Test.YtdjnfggcenkbfaaC1h
namespace Go.Proofs.Ytdjnfggcenkbfaa
open Go.RowKit

set_option maxHeartbeats 400000 in
theorem l1All_any (A : Option Addr) (c : Nat) (xs : List Int) (lo hi : Int) (w : World) (hj : RI w w.heap.size A xs) :
    Calls Try.prog 64 #[.slice A xs.length c, .int .i64 lo, .int .i64 hi] w fun e w' => e = .returned (.bool (xs.all (fun x => inB x lo hi))) ∧ w = w' := by
  have hl := hj.1
  go_enter Try.func64, Try.ntmps64
  go_wp2
  go_loop [11] (fun i => ∃ k : Nat, k ≤ xs.length ∧ i = .int .i64 k ∧ Hid (xs.all (fun x => inB x lo hi) = (xs.drop k).all (fun x => inB x lo hi))) (fun i => xs.length - (intOf i).toNat)
  case atStart => exact ⟨0, Nat.zero_le _, rfl, Lib.hid rfl⟩
  case round =>
    obtain ⟨k, hk, rfl, Hd⟩ := hrel
    by_cases hlt : k < xs.length
    · obtain ⟨b, off, rfl, hB, h1⟩ := hj.at_ (Below.refl _ _) hlt
      cases hp : inB xs[k] lo hi
      · have HP := Lib.hid hp
        go_wp2_with (go_at_call 51; refine (l1In_any _ _ _ _).mono ?_; rintro e w' ⟨rfl, rfl⟩)
        go_ret
        exact ⟨ret_bool (by rw [Hd.out, drop_step _ _ hlt, List.all_cons, HP.out, Bool.false_and]), rfl⟩
      · have HP := Lib.hid hp
        go_wp2_with (go_at_call 51; refine (l1In_any _ _ _ _).mono ?_; rintro e w' ⟨rfl, rfl⟩)
        go_round
        case rel => exact ⟨k + 1, by omega, by go_num, Lib.hid (by rw [Hd.out, drop_step _ _ hlt, List.all_cons, HP.out, Bool.true_and])⟩
        case measure => simp [intOf]; omega
    · go_wp2
      go_ret
      exact ⟨ret_bool (by rw [Hd.out, List.drop_eq_nil_of_le (by omega)]; rfl), rfl⟩

set_option maxHeartbeats 400000 in
theorem sqThrows_any (s f o : Int) (A A' : Option Addr) (c c' : Nat) (sq : Int) (xs : List Int) (js : List (Int × Int)) (w : World) (hj : RJ w w.heap.size A js) (hx : RI w w.heap.size A' xs) :
    Calls Try.prog 39 #[.agg #[.int .i64 s, .int .i64 f, .int .i64 o, .slice A js.length c], .int .i64 sq, .slice A' xs.length c'] w fun e w' => e = .returned (.bool (asked s f o js sq && throwsOk f xs)) ∧ Below w.heap.size w w' := by
  have hl := hj.1
  have hl' := hx.1
  cases ha : asked s f o js sq
  · go_enter Try.func39, Try.ntmps39
    go_wp2_with (go_at_call 50; refine (sqAsked_any _ _ _ _ _ _ _ _ (hj.go (below1 _ _))).mono ?_; rintro e w2 ⟨rfl, hx2⟩)
    go_ret
    exact ⟨rfl, (below1 _ _).trans (hx2.mono (by simp))⟩
  · by_cases hn : xs.length ≤ 200
    · have hn' : decide ((xs.length : Int) ≤ 200) = true := by simp; omega
      have e : (true && throwsOk f xs) = xs.all (fun x => inB x 1 f) := by simp [throwsOk, hn]
      rw [e]
      go_enter Try.func39, Try.ntmps39
      go_wp2_with fail
      refine (sqAsked_any _ _ _ _ _ _ _ _ (hj.go (below1 _ _))).mono ?_
      rintro e w2 ⟨rfl, hx2⟩
      rw [ha]
      have hb := box_on (Below.refl _ _) hx2 (by simp)
      have q := boxcells hb
      go_wp2_with (go_at_call 64; refine (l1All_any _ _ _ _ _ _ (hx.go ((below1 _ _).trans (hb.mono (by omega))))).mono ?_; rintro e w' ⟨rfl, rfl⟩)
      go_ret
      exact ⟨rfl, (below1 _ _).trans (hb.mono (by omega))⟩
    · have hn' : decide ((xs.length : Int) ≤ 200) = false := by simp; omega
      have e : (true && throwsOk f xs) = false := by simp [throwsOk, hn]
      rw [e]
      go_enter Try.func39, Try.ntmps39
      go_wp2_with fail
      refine (sqAsked_any _ _ _ _ _ _ _ _ (hj.go (below1 _ _))).mono ?_
      rintro e w2 ⟨rfl, hx2⟩
      rw [ha]
      go_wp2
      go_ret
      exact ⟨rfl, (below1 _ _).trans (hx2.mono (by simp))⟩

set_option maxRecDepth 100000 in
set_option maxHeartbeats 400000 in
theorem sqPlay_any (s f o : Int) (A A' : Option Addr) (c c' : Nat) (sq : Int) (xs : List Int) (js : List (Int × Int)) (w : World) (hj : RJ w w.heap.size A js) (hx : RI w w.heap.size A' xs) (hg : good ⟨s, f, o, js⟩ = true) (h0 : 0 ≤ sq) (h1 : sq ≤ s) (ht : throwsOk f xs = true) :
    Calls Try.prog 58 #[.agg #[.int .i64 s, .int .i64 f, .int .i64 o, .slice A js.length c], .int .i64 sq, .slice A' xs.length c'] w fun e w' => ∃ v, e = .returned v ∧ w'.ownsRow (w.heap.size + 1) 3 1 v (xs.length + 1) ((pathTo s o js sq xs xs.length).map (Value.int .i64)) ∧ Below w.heap.size w w' := by
  have hl := hj.1
  have hl' := throwsOk_len ht
  have hz := good_sizes hg
  have HG := Lib.hid hg
  have HT := Lib.hid ht
  clear hg ht
  obtain ⟨i0, hi, hz0, hz1, hz2⟩ := info_parts infoInt1
  go_enter Try.func58, Try.ntmps58
  go_wp2
  go_loopw [1, 7, 14] (fun sv v i wr => ∃ k : Nat, k ≤ xs.length ∧ i = .int .i64 k ∧ sv = .int .i64 (walkTo s o js sq xs k) ∧ Below (w.heap.size + 1) (w.alloc (.cells #[.int .i64 s, .int .i64 f, .int .i64 o, .slice A js.length c] 31)) wr ∧ wr.ownsRow (w.heap.size + 1) 3 1 v (k + 1) ((pathTo s o js sq xs k).map (Value.int .i64))) (fun _ _ i _ => xs.length - (intOf i).toNat)
  case atStart => exact ⟨0, Nat.zero_le _, rfl, by rw [walkTo_zero], (Below.refl _ _).alloc (by simp) _, by rw [pathTo_zero]; exact own_new1 _ _ _ _ (by simp) (by simp)⟩
  case round =>
    obtain ⟨k, hk, rfl, rfl, hb, hown⟩ := hrel
    have q := boxcells hb
    have hb' := (below1 w (.cells #[.int .i64 s, .int .i64 f, .int .i64 o, .slice A js.length c] 31)).trans (hb.mono (by omega))
    have hs : w.heap.size < wr.heap.size := by have := hb.size; simp at this; omega
    have hin := walkTo_in HG.out h0 h1 HT.out k hk
    by_cases hlt : k < xs.length
    · obtain ⟨b, off, rfl, hB, h3⟩ := hx.at_ hb' hlt
      have hf := throwsOk_at HT.out hlt
      have HW := Lib.hid (walkTo_succ s o js sq xs k hlt)
      go_wp2_with (first | (go_at_call 47; refine (sqThrow_any _ _ _ _ _ _ _ _ _ (hj.go hb') hz.1.1 hz.1.2 hz.2.2.1.1 hz.2.2.1.2 hin.1 hin.2 hf.1 (by omega)).mono ?_; rintro e w3 ⟨rfl, hx3⟩) | (at_builtin; go_loud (refine wpList_append_own _ rfl _ _ 25 rfl (w.heap.size + 1) 3 i0 (.int .i64 0) 1 8 Try.underlying25 hi hz0 hz1 hz2 rfl (by decide) _ _ _ rfl ((own_below hown hx3).alloc _) ⟨w3.heap.size, 0, none⟩ 1 1 [.int .i64 (thrown s o js (walkTo s o js sq xs k) xs[k])] rfl rfl (cell_new1 _ _ _) (one_int _) (by unfold maxLen; omega) (by omega) (by have := hx3.size; simp; omega) ?_; intro v1 w4 hown4 hg4 _)))
      go_roundw
      case rel =>
        have hs3 := hx3.size
        refine ⟨k + 1, by omega, by go_num, by rw [HW.out], ((box_on hb hx3 (by omega)).alloc (by omega) _).grown hg4 (by simp; omega) (fun g hg => by have := own_from hown g hg; omega), ?_⟩
        rw [pathTo_succ, List.map_append, HW.out]
        exact hown4
      case measure => simp [intOf]; omega
    · obtain rfl : k = xs.length := by omega
      go_wp2
      go_ret
      exact ⟨_, rfl, hown, hb'⟩

set_option maxHeartbeats 400000 in
theorem specPathOfThrows_any (s f o : Int) (A A' : Option Addr) (c c' : Nat) (sq : Int) (xs : List Int) (js : List (Int × Int)) (w : World) (hj : RJ w w.heap.size A js) (hx : RI w w.heap.size A' xs) :
    Calls Try.prog 27 #[.agg #[.int .i64 s, .int .i64 f, .int .i64 o, .slice A js.length c], .int .i64 sq, .slice A' xs.length c'] w (IntsBack w (pathR s f o js sq xs)) := by
  have hl := hj.1
  have hl' := hx.1
  cases hk : (asked s f o js sq && throwsOk f xs)
  · have ht : pathR s f o js sq xs = ([], false) := by rw [pathR, hk]; rfl
    rw [ht]
    have HK := Lib.hid hk; clear hk
    go_enter Try.func27, Try.ntmps27
    go_wp2_with fail
    refine (sqThrows_any _ _ _ _ _ _ _ _ _ _ _ (hj.go (below1 _ _)) (hx.go (below1 _ _))).mono ?_
    rintro e w2 ⟨rfl, hx2⟩
    rw [HK.out]
    go_wp2
    go_ret2
    exact ⟨none, 0, rfl, .inl rfl, (below1 _ _).trans (hx2.mono (by simp))⟩
  · have ht : pathR s f o js sq xs = (pathTo s o js sq xs xs.length, true) := by rw [pathR, hk]; rfl
    rw [ht]
    have hk2 := hk
    rw [Bool.and_eq_true] at hk2
    have hz := good_sizes (asked_good hk2.1)
    have hq := onSq_in (asked_on hk2.1)
    have HK := Lib.hid hk; clear hk
    have HG := Lib.hid (asked_good hk2.1)
    have HT := Lib.hid hk2.2
    clear hk2
    go_enter Try.func27, Try.ntmps27
    go_wp2_with fail
    refine (sqThrows_any _ _ _ _ _ _ _ _ _ _ _ (hj.go (below1 _ _)) (hx.go (below1 _ _))).mono ?_
    rintro e w2 ⟨rfl, hx2⟩
    rw [HK.out]
    have hb := box_on (Below.refl _ _) hx2 (by simp)
    have q := boxcells hb
    have hB := (below1 w (.cells #[.int .i64 s, .int .i64 f, .int .i64 o, .slice A js.length c] 31)).trans (hb.mono (by omega))
    go_wp2_with fail
    refine (sqPlay_any _ _ _ _ _ _ _ _ _ _ _ (hj.go hB) (hx.go hB) HG.out hq.1 hq.2 HT.out).mono ?_
    rintro e w3 ⟨v, rfl, hown, hx3⟩
    obtain ⟨A2, c2, rfl, ho⟩ := own_oi hown (pathTo_len _ _ _ _ _ _)
    go_wp2
    go_ret2
    have z2 : w.heap.size + 1 ≤ w2.heap.size := by have := hb.size; simpa using this
    refine ⟨A2, c2, rfl, ?_, hB.trans (hx3.mono hB.size)⟩
    rcases ho with h | ⟨g, e, hg, hr⟩
    · exact .inl h
    · exact .inr ⟨g, e, by omega, hr⟩

set_option maxHeartbeats 400000 in
theorem hasThrows_any (g : Nat) (s f o : Int) (G : Nat → Int) (A : Option Addr) (c : Nat) (xs : List Int) (w : World) (hC : CA w g s f o G) (hx : RI w w.heap.size A xs) :
    Calls Try.prog 43 #[.pointer (some ⟨g, 0, none⟩), .slice A xs.length c] w fun e w' => e = .returned (.bool (throwsOk f xs)) ∧ w = w' := by
  have hl := hx.1
  by_cases hn : xs.length ≤ 200
  · have hn' : ¬ (200 : Int) < xs.length := by omega
    have e : throwsOk f xs = xs.all (fun x => inB x 1 f) := by simp [throwsOk, hn]
    rw [e]
    go_enter Try.func43, Try.ntmps43
    go_wp2
    go_loop [12] (fun i => ∃ k : Nat, k ≤ xs.length ∧ i = .int .i64 k ∧ Hid (xs.all (fun x => inB x 1 f) = (xs.drop k).all (fun x => inB x 1 f))) (fun i => xs.length - (intOf i).toNat)
    case atStart => exact ⟨0, Nat.zero_le _, rfl, Lib.hid rfl⟩
    case round =>
      obtain ⟨k, hk, rfl, Hd⟩ := hrel
      by_cases hlt : k < xs.length
      · obtain ⟨b, off, rfl, hB, h1⟩ := hx.at_ (Below.refl _ _) hlt
        cases hp : inB xs[k] 1 f
        · have HP := Lib.hid hp
          go_wp2_with (go_at_call 53; refine (hasFace_any _ _ _ _ _ _ _ hC.cv).mono ?_; rintro e w' ⟨rfl, rfl⟩)
          go_ret
          exact ⟨ret_bool (by rw [Hd.out, drop_step _ _ hlt, List.all_cons, HP.out, Bool.false_and]), rfl⟩
        · have HP := Lib.hid hp
          go_wp2_with (go_at_call 53; refine (hasFace_any _ _ _ _ _ _ _ hC.cv).mono ?_; rintro e w' ⟨rfl, rfl⟩)
          go_round
          case rel => exact ⟨k + 1, by omega, by go_num, Lib.hid (by rw [Hd.out, drop_step _ _ hlt, List.all_cons, HP.out, Bool.true_and])⟩
          case measure => simp [intOf]; omega
      · go_wp2
        go_ret
        exact ⟨ret_bool (by rw [Hd.out, List.drop_eq_nil_of_le (by omega)]; rfl), rfl⟩
  · have hn' : (200 : Int) < xs.length := by omega
    have e : throwsOk f xs = false := by simp [throwsOk, hn]
    rw [e]
    go_enter Try.func43, Try.ntmps43
    go_wp2
    go_ret
    exact ⟨rfl, rfl⟩
end Go.Proofs.Ytdjnfggcenkbfaa

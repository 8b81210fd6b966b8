/-
  LikeliestAt, the model's and the program's; an array by value, indexed.
-/
import Derived.Test.YtiekdokgjdgajabC2t
import Derived.Test.YtiekdokgjdgajabM6
namespace Go.Proofs.Ytiekdokgjdgajab
open Go.RowKit

theorem arrIdx (P : Nat → Int) {k : Nat} (hk : k < 101) (w : World) : (Instr.index 52 (.agg (arrC P)) (.int .i64 k)).run Try.prog w = .ok (.int .i64 (P k)) w := by
  have h1 : (0 : Int) ≤ (k : Int) ∧ (k : Int) < ((101 : Nat) : Int) := by omega
  have hs : (arrC P)[k]? = some (.int .i64 (P k)) := arr_at P hk
  have hc : (part (Try.prog.elem 52) (arrC P) (((k : Int)).toNat * 1)).run Try.prog w = .ok (.int .i64 (P k)) w := by
    rw [Int.toNat_natCast, Nat.mul_one]
    simp [part, hs, go_sem]
  simp only [Instr.index, asIntOf, Sem.run_bind, Sem.run_pure, Result.andThen_ok, run_underlying arrU, arrLen]
  rw [if_pos h1]
  simp only [Sem.run_bind, arrElem, Result.andThen_ok]
  exact hc

def likR (s f o : Int) (js : List (Int × Int)) (sq th : Int) : List Int × Bool := if asked s f o js sq && inB th 0 20 then ((lkS (fun i => pl s f o js sq th.toNat i) (nsq s)).2, true) else ([], false)
theorem likR_len {s f o : Int} {js : List (Int × Int)} {sq th : Int} : (likR s f o js sq th).1.length ≤ 1048576 := by
  unfold likR
  by_cases h : (asked s f o js sq && inB th 0 20) = true
  · rw [if_pos h]
    rw [Bool.and_eq_true] at h
    have := good_sizes (asked_good h.1)
    have h2 := lkS_len (fun i => pl s f o js sq th.toNat i) (nsq s)
    unfold nsq at h2 ⊢
    simp only at h2 ⊢
    omega
  · rw [if_neg h]; simp

set_option maxRecDepth 100000 in
set_option maxHeartbeats 1000000 in
theorem specLikeliestAt_any (s f o : Int) (A : Option Addr) (c : Nat) (sq th : Int) (js : List (Int × Int)) (w : World) (hj : RJ w w.heap.size A js) :
    Calls Try.prog 30 #[.agg #[.int .i64 s, .int .i64 f, .int .i64 o, .slice A js.length c], .int .i64 sq, .int .i64 th] w (IntsBack w (likR s f o js sq th)) := by
  have hl := hj.1
  cases ha : (asked s f o js sq && inB th 0 20)
  · have ht : likR s f o js sq th = ([], false) := by rw [likR, ha]; rfl
    rw [ht]
    have HA := Lib.hid ha; clear ha ht
    go_enter Try.func30, Try.ntmps30
    go_wp2_with (go_at_call 47; refine (chAsked_any _ _ _ _ _ _ _ _ _ (hj.go (below1 _ _))).mono ?_; rintro e w2 ⟨rfl, hx⟩; rw [HA.out])
    go_ret2
    exact ⟨none, 0, rfl, .inl rfl, (below1 _ _).trans (hx.mono (by simp))⟩
  · have ht : likR s f o js sq th = ((lkS (fun i => pl s f o js sq th.toNat i) (nsq s)).2, true) := by rw [likR, ha]; rfl
    rw [ht]
    have ha1 := ha
    rw [Bool.and_eq_true] at ha1
    have hz := good_sizes (asked_good ha1.1)
    have hth := inB_iff.1 ha1.2
    obtain ⟨t, rfl⟩ := Int.eq_ofNat_of_zero_le hth.1
    simp only [Int.toNat_natCast]
    have HA := Lib.hid ha; have HA1 := Lib.hid ha1.1; clear ha ht ha1
    have ht20 : t ≤ 20 := by omega
    have hn1 : nsq s ≤ 101 := by unfold nsq; omega
    obtain ⟨i0, hi, hz0, hz1, hz2⟩ := info_parts infoInt1
    obtain ⟨n, hn⟩ : ∃ n : Nat, n = nsq s := ⟨_, rfl⟩
    obtain ⟨P, hP⟩ : ∃ P : Nat → Int, P = fun i : Nat => pl s f o js sq t i := ⟨_, rfl⟩
    have hP0 : ∀ i, 0 ≤ P i := fun i => by rw [hP]; exact pl_nonneg _ _ _ _ _ _ _
    rw [← hn, ← hP]
    rw [← hn] at hn1
    have HP0 := Lib.hid hP0; have HN := Lib.hid hn; have HPP := Lib.hid hP
    clear hn hP hP0
    go_enter Try.func30, Try.ntmps30
    go_wp2_with fail
    refine (chAsked_any _ _ _ _ _ _ _ _ _ (hj.go (below1 _ _))).mono ?_
    rintro e w2 ⟨rfl, hx⟩
    rw [HA.out]
    have hb := box_on (Below.refl _ _) hx (by simp)
    have q := boxcells hb
    have hB2 := (below1 w (.cells #[.int .i64 s, .int .i64 f, .int .i64 o, .slice A js.length c] 31)).trans (hb.mono (by omega))
    go_wp2_with fail
    refine (chPlaces_any _ _ _ _ _ _ _ _ _ (hj.go hB2) HA1.out ht20).mono ?_
    rintro e w3 ⟨g, rfl, hg, hrow, hx3⟩
    have hB3 := hB2.trans (hx3.mono hB2.size)
    have hgs := hrow.lt
    have hs2 := hB2.size
    rw [← HN.out, ← HPP.out] at hrow
    rw [← HN.out]
    clear hx3 hx hb q
    go_wp2_with fail
    go_loopw [8, 9, 22, 10, 11] (fun m v i _ _ wr => ∃ k : Nat, k ≤ n ∧ i = .int .i64 (k : Int) ∧ m = .int .i64 (lkS P k).1 ∧ Below w.heap.size w wr ∧ RowI wr g 3 n P ∧ g < wr.heap.size ∧ wr.ownsRow (g + 1) 3 1 v (lkS P k).2.length ((lkS P k).2.map (Value.int .i64))) (fun _ _ i _ _ _ => n - (intOf i).toNat)
    case atStart => exact ⟨0, Nat.zero_le _, rfl, rfl, hB3, hrow, hgs, World.ownsRow_nil _ _ _ _⟩
    case round =>
      clear hB3 hrow hgs
      obtain ⟨k, hk, rfl, rfl, hB, hrow, hgs, hown⟩ := hrel
      have hBs := hB.size
      by_cases hlt : k < n
      · have h3 : (k : Int) < (n : Int) := by omega
        have d1 := hrow.cell hlt
        have p0 := HP0.out k
        have hlen := lkS_len P k
        have hln := lkS_len P (k + 1)
        have hf := own_from hown
        have hst : lkS P (k + 1) = stepS (lkS P k) (P k) k := rfl
        have HST := Lib.hid hst; clear hst
        by_cases h1 : (lkS P k).1 < P k
        · have h2 : 0 < P k := by
            rcases (lk_both P HP0.out k).2 with h | h <;> omega
          have hown0 : (wr.alloc (.cells #[.int .i64 (k : Int)] 3)).ownsRow (g + 1) 3 1 (.slice none 0 0) 0 [] := World.ownsRow_nil _ _ _ _
          go_wp2_with (at_builtin; go_loud (refine wpList_append_own _ rfl _ _ 26 rfl (g + 1) 3 i0 (.int .i64 0) 1 8 Try.underlying26 hi hz0 hz1 hz2 rfl (by decide) _ _ _ rfl hown0 ⟨wr.heap.size, 0, none⟩ 1 1 [.int .i64 (k : Int)] rfl rfl (cell_new1 _ _ _) (one_int _) (by unfold maxLen; omega) (by omega) (by simp; omega) ?_; intro v1 w4 hown4 hg4 _))
          go_roundw
          case rel =>
            have e : lkS P (k + 1) = (P k, [(k : Int)]) := by rw [HST.out, stepS, if_pos h1]
            refine ⟨k + 1, hlt, by go_num, ?_⟩
            rw [e]
            exact ⟨rfl, (hB.alloc (by omega) _).grown hg4 (by simp; omega) (fun j e => by cases e), (hrow.alloc _).grown hg4 (by intro e; cases e), by have := hg4.size; simp at this; omega, hown4⟩
          case measure => simp [intOf]; omega
        · by_cases h2 : P k = (lkS P k).1 ∧ 0 < P k
          · obtain ⟨h4, h5⟩ := h2
            have e : lkS P (k + 1) = ((lkS P k).1, (lkS P k).2 ++ [(k : Int)]) := by rw [HST.out, stepS, if_neg h1, if_pos ⟨h4, h5⟩]
            have HE := Lib.hid e; clear e
            have h6 : 0 < (lkS P k).1 := by omega
            have h7 : (P k == (lkS P k).1) = true := by simpa using h4
            have H4 := Lib.hid h4; clear h4
            go_wp2_with (at_builtin; go_loud (refine wpList_append_own _ rfl _ _ 26 rfl (g + 1) 3 i0 (.int .i64 0) 1 8 Try.underlying26 hi hz0 hz1 hz2 rfl (by decide) _ _ _ rfl (hown.alloc _) ⟨wr.heap.size, 0, none⟩ 1 1 [.int .i64 (k : Int)] rfl rfl (cell_new1 _ _ _) (one_int _) (by unfold maxLen; omega) (by omega) (by simp; omega) ?_; intro v1 w4 hown4 hg4 _))
            go_roundw
            case rel =>
              refine ⟨k + 1, hlt, by go_num, ?_⟩
              rw [HE.out]
              exact ⟨rfl, (hB.alloc (by omega) _).grown hg4 (by simp; omega) (fun j e => by have := hf _ e; omega), (hrow.alloc _).grown hg4 (fun e => by have := hf _ e.symm; omega), by have := hg4.size; simp at this; omega, by rw [List.length_append, List.map_append]; exact hown4⟩
            case measure => simp [intOf]; omega
          · have e : lkS P (k + 1) = lkS P k := by rw [HST.out, stepS, if_neg h1, if_neg h2]
            have HE := Lib.hid e; clear e
            by_cases h4 : P k = (lkS P k).1
            · have h5 : ¬ 0 < P k := fun h => h2 ⟨h4, h⟩
              have h7 : (P k == (lkS P k).1) = true := by simpa using h4
              have H4 := Lib.hid h4; clear h4 h2
              go_wp2
              go_roundw
              case rel =>
                refine ⟨k + 1, hlt, by go_num, ?_⟩
                rw [HE.out]
                exact ⟨rfl, hB, hrow, hgs, hown⟩
              case measure => simp [intOf]; omega
            · have h7 : (P k == (lkS P k).1) = false := by simpa using h4
              have H4 := Lib.hid h4; clear h4 h2
              go_wp2
              go_roundw
              case rel =>
                refine ⟨k + 1, hlt, by go_num, ?_⟩
                rw [HE.out]
                exact ⟨rfl, hB, hrow, hgs, hown⟩
              case measure => simp [intOf]; omega
      · have h3 : ¬ (k : Int) < (n : Int) := by omega
        obtain rfl : k = n := by omega
        go_wp2
        obtain ⟨A', c', rfl, ho⟩ := own_oi hown rfl
        go_ret2
        refine ⟨A', c', rfl, ?_, hB⟩
        rcases ho with h | ⟨g', e, hg', hr⟩
        · exact .inl h
        · exact .inr ⟨g', e, by omega, hr⟩
set_option maxRecDepth 100000 in
set_option maxHeartbeats 1000000 in
theorem implLikeliestAt_any (s f o : Int) (A : Option Addr) (c : Nat) (sq th : Int) (js : List (Int × Int)) (w : World) (hj : RJ w w.heap.size A js) :
    Calls Try.prog 31 #[.agg #[.int .i64 s, .int .i64 f, .int .i64 o, .slice A js.length c], .int .i64 sq, .int .i64 th] w (IntsBack w (likR s f o js sq th)) := by
  have hl := hj.1
  cases ha : (asked s f o js sq && inB th 0 20)
  · have ht : likR s f o js sq th = ([], false) := by rw [likR, ha]; rfl
    rw [ht]
    have hn : (asked s f o js sq && decide (0 ≤ th) && decide (th ≤ 20)) = false := by rw [Bool.and_assoc]; exact ha
    have hst := fun w => storeWalk 0 0 0 (fun _ => 0) 0 0 none none w
    have HN := Lib.hid hn; clear ha ht hn
    go_enter Try.func31, Try.ntmps31
    go_wp2_with (go_at_call 50; refine (walkHome_no _ _ _ _ _ _ _ _ _ _ (hj.go (below1 _ _)) HN.out).mono ?_; rintro e w2 ⟨rfl, hx⟩)
    go_ret2
    exact ⟨none, 0, rfl, .inl rfl, ((below1 _ _).trans (hx.mono (by simp))).alloc (by have := hx.size; simp at this; omega) _⟩
  · have ht : likR s f o js sq th = ((lkS (fun i => pl s f o js sq th.toNat i) (nsq s)).2, true) := by rw [likR, ha]; rfl
    rw [ht]
    have ha1 := ha
    rw [Bool.and_eq_true] at ha1
    have hz := good_sizes (asked_good ha1.1)
    have hth := inB_iff.1 ha1.2
    obtain ⟨t, rfl⟩ := Int.eq_ofNat_of_zero_le hth.1
    simp only [Int.toNat_natCast]
    have HA := Lib.hid ha1.1
    have hp := pow_lt63 hz.2.1.1 hz.2.1.2 (show t ≤ 20 by omega)
    have hn1 : nsq s ≤ 101 := by unfold nsq; omega
    obtain ⟨P, hP⟩ : ∃ P : Nat → Int, P = fun i : Nat => pl s f o js sq t i := ⟨_, rfl⟩
    have hP0 : ∀ i, 0 ≤ P i := fun i => by rw [hP]; exact pl_nonneg _ _ _ _ _ _ _
    have hPz : ∀ i : Nat, nsq s ≤ i → i < 101 → P i = 0 := fun i h1 _ => by
      rw [hP]
      by_cases h : pl s f o js sq t i = 0
      · exact h
      · have := pl_on (asked_good ha1.1) (asked_on ha1.1) t i h
        unfold nsq at h1; omega
    have e2 : (lkS P (nsq s)).2 = (lkI P 101).2 := by
      rw [← (lk_both P hP0 (nsq s)).1, lkI_more 101 hn1 hPz]
    have hsum : ∀ q, ct s f o js s sq t q false + ct s f o js s sq t q true ≤ 1152921504606846976 := fun q => by
      rw [ct_pl]
      have := pl_le (asked_good ha1.1) (asked_on ha1.1) t q
      omega
    have hct : (fun i : Nat => ct s f o js s sq t i false + ct s f o js s sq t i true) = P := by rw [hP]; funext i; rw [ct_pl]
    rw [← hP, e2]
    have HSUM := Lib.hid hsum; have HP0 := Lib.hid hP0; have HCT := Lib.hid hct
    clear ha ht ha1 hp hP hP0 hPz e2 hsum hct hn1
    obtain ⟨i0, hi, hz0, hz1, hz2⟩ := info_parts infoInt1
    have hst : ∀ (x y : Option Nat) (w : World), (storeCells ⟨w.heap.size, 0, none⟩ (wlkCells s f o (fun i => jumpOf js i) s (f ^ t) x y).toList 0).run Try.prog (w.alloc (.cells Try.zeroCells57 57)) = .ok () (w.alloc (.cells (wlkCells s f o (fun i => jumpOf js i) s (f ^ t) x y) 57)) := fun x y w => storeWalk _ _ _ _ _ _ _ _ w
    go_enter Try.func31, Try.ntmps31
    go_wp2_with fail
    refine (walkHome_yes _ _ _ _ _ _ _ _ _ _ (hj.go (below1 _ _)) HA.out hth.2 (by omega)).mono ?_
    rintro e w1 ⟨bl, bb, rfl, l0, b0, hne, l1, b1, hL, hE, hx⟩
    have hs1 := hx.size
    simp only [World.size_alloc] at l0 b0 hs1
    have HNE := Lib.hid hne; clear hne
    have hW : WA (w1.alloc (.cells (wlkCells s f o (fun i => jumpOf js i) s (f ^ t) (some bl) (some bb)) 57)) w1.heap.size s f o (fun i => jumpOf js i) s (f ^ t) (some bl) (some bb) := heap_alloc_at _ _ _ rfl
    have hL1 := hL.alloc (.cells (wlkCells s f o (fun i => jumpOf js i) s (f ^ t) (some bl) (some bb)) 57)
    have hB1 : Below w.heap.size w (w1.alloc (.cells (wlkCells s f o (fun i => jumpOf js i) s (f ^ t) (some bl) (some bb)) 57)) := ((below1 _ _).trans (hx.mono (by simp))).alloc (by omega) _
    clear hL hE
    go_wp2_with fail
    refine (places_any _ _ _ _ _ _ _ _ _ _ _ hW hL1 (fun q m => ct_nonneg _ _ _ _ _ _ _ _ _) HSUM.out).mono ?_
    rintro e w2 ⟨rfl, hx2⟩
    rw [HCT.out]
    have hB2 : Below w.heap.size w w2 := hB1.trans (hx2.mono (by simp; omega))
    have hs2 := hB2.size
    clear hst hW hL1 hx2
    go_wp2_with fail
    go_loopw [10, 11, 24, 12, 13] (fun v m i _ _ wr => ∃ k : Nat, k ≤ 101 ∧ i = .int .i64 (k : Int) ∧ m = .int .i64 (lkI P k).1 ∧ Below w.heap.size w wr ∧ wr.ownsRow w.heap.size 3 1 v (lkI P k).2.length ((lkI P k).2.map (Value.int .i64))) (fun _ _ i _ _ _ => 101 - (intOf i).toNat)
    case atStart => exact ⟨0, Nat.zero_le _, rfl, rfl, hB2, World.ownsRow_nil _ _ _ _⟩
    case round =>
      clear hB2
      obtain ⟨k, hk, rfl, rfl, hB, hown⟩ := hrel
      have hBs := hB.size
      by_cases hlt : k < 101
      · have h3 : (k : Int) < 101 := by omega
        have d1 := fun w => arrIdx P hlt w
        have p0 := HP0.out k
        have hlen := lkI_len P k
        have hln := lkI_len P (k + 1)
        have hf := own_from hown
        have hst : lkI P (k + 1) = stepI (lkI P k) (P k) k := rfl
        have HST := Lib.hid hst; clear hst
        by_cases h1 : (lkI P k).1 < P k
        · have hown0 : (wr.alloc (.cells #[.int .i64 (k : Int)] 3)).ownsRow w.heap.size 3 1 (.slice none 0 0) 0 [] := World.ownsRow_nil _ _ _ _
          go_wp2_with (at_builtin; go_loud (refine wpList_append_own _ rfl _ _ 26 rfl w.heap.size 3 i0 (.int .i64 0) 1 8 Try.underlying26 hi hz0 hz1 hz2 rfl (by decide) _ _ _ rfl hown0 ⟨wr.heap.size, 0, none⟩ 1 1 [.int .i64 (k : Int)] rfl rfl (cell_new1 _ _ _) (one_int _) (by unfold maxLen; omega) (by omega) (by simp; omega) ?_; intro v1 w4 hown4 hg4 _))
          go_roundw
          case rel =>
            have e : lkI P (k + 1) = (P k, [(k : Int)]) := by rw [HST.out, stepI, if_pos h1]
            refine ⟨k + 1, hlt, by go_num, ?_⟩
            rw [e]
            exact ⟨rfl, (hB.alloc (by omega) _).grown hg4 (by simp; omega) (fun j e => by cases e), hown4⟩
          case measure => simp [intOf]; omega
        · by_cases h4 : P k = (lkI P k).1
          · have e : lkI P (k + 1) = ((lkI P k).1, (lkI P k).2 ++ [(k : Int)]) := by rw [HST.out, stepI, if_neg h1, if_pos h4]
            have HE := Lib.hid e; clear e
            have h7 : (P k == (lkI P k).1) = true := by simpa using h4
            have H4 := Lib.hid h4; clear h4
            go_wp2_with (at_builtin; go_loud (refine wpList_append_own _ rfl _ _ 26 rfl w.heap.size 3 i0 (.int .i64 0) 1 8 Try.underlying26 hi hz0 hz1 hz2 rfl (by decide) _ _ _ rfl (hown.alloc _) ⟨wr.heap.size, 0, none⟩ 1 1 [.int .i64 (k : Int)] rfl rfl (cell_new1 _ _ _) (one_int _) (by unfold maxLen; omega) (by omega) (by simp; omega) ?_; intro v1 w4 hown4 hg4 _))
            go_roundw
            case rel =>
              refine ⟨k + 1, hlt, by go_num, ?_⟩
              rw [HE.out]
              exact ⟨rfl, (hB.alloc (by omega) _).grown hg4 (by simp; omega) (fun j e => hf _ e), by rw [List.length_append, List.map_append]; exact hown4⟩
            case measure => simp [intOf]; omega
          · have e : lkI P (k + 1) = lkI P k := by rw [HST.out, stepI, if_neg h1, if_neg h4]
            have HE := Lib.hid e; clear e
            have h7 : (P k == (lkI P k).1) = false := by simpa using h4
            have H4 := Lib.hid h4; clear h4
            go_wp2
            go_roundw
            case rel =>
              refine ⟨k + 1, hlt, by go_num, ?_⟩
              rw [HE.out]
              exact ⟨rfl, hB, hown⟩
            case measure => simp [intOf]; omega
      · have h3 : ¬ (k : Int) < 101 := by omega
        obtain rfl : k = 101 := by omega
        go_wp2
        obtain ⟨A', c', rfl, ho⟩ := own_oi hown rfl
        go_ret2
        exact ⟨A', c', rfl, ho, hB⟩
end Go.Proofs.Ytiekdokgjdgajab

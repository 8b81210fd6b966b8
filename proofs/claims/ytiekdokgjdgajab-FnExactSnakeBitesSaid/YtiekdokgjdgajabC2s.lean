/-
  The model: chAsked, chPlaces.
-/
import Derived.Test.YtiekdokgjdgajabC1e
import Derived.Test.YtiekdokgjdgajabM2
import Derived.Test.YtiekdokgjdgajabWBig
import Derived.Deep.QuietTactic
import Derived.BigQuiet
import Derived.Deep.RegionHeld3
namespace Go.Proofs.Ytiekdokgjdgajab
open Go.RowKit

theorem infoInt2 : (Try.prog.info? 3).map (fun i => (i.zero, i.size, i.bytes)) = some (some (.int .i64 0), 1, 8) := by kernel_rfl
theorem chAsked_any (s f o : Int) (A : Option Addr) (c : Nat) (sq th : Int) (js : List (Int × Int)) (w : World) (hj : RJ w w.heap.size A js) :
    Calls Try.prog 47 #[.agg #[.int .i64 s, .int .i64 f, .int .i64 o, .slice A js.length c], .int .i64 sq, .int .i64 th] w fun e w' => e = .returned (.bool (asked s f o js sq && inB th 0 20)) ∧ Below w.heap.size w w' := by
  have hl := hj.1
  cases ha : asked s f o js sq
  · have HA := Lib.hid ha; clear ha
    go_enter Try.func47, Try.ntmps47
    go_wp2_with (go_at_call 60; refine (sqAsked_any _ _ _ _ _ _ _ _ (hj.go (below1 _ _))).mono ?_; rintro e w2 ⟨rfl, hx⟩; rw [HA.out])
    go_ret
    exact ⟨ret_bool rfl, (below1 _ _).trans (hx.mono (by simp))⟩
  · have HA := Lib.hid ha; clear ha
    go_enter Try.func47, Try.ntmps47
    go_wp2_with (first | (go_at_call 60; refine (sqAsked_any _ _ _ _ _ _ _ _ (hj.go (below1 _ _))).mono ?_; rintro e w2 ⟨rfl, hx⟩; rw [HA.out]) | (go_at_call 72; refine (l1In_any _ _ _ _).mono ?_; rintro e w' ⟨rfl, rfl⟩))
    go_ret
    exact ⟨ret_bool (by rw [Bool.true_and]), (below1 _ _).trans (hx.mono (by simp))⟩

set_option maxRecDepth 100000 in
set_option maxHeartbeats 400000 in
theorem chPlaces_any (s f o : Int) (A : Option Addr) (c : Nat) (sq : Int) (t : Nat) (js : List (Int × Int)) (w : World) (hj : RJ w w.heap.size A js) (ha : asked s f o js sq = true) (ht : t ≤ 20) :
    Calls Try.prog 48 #[.agg #[.int .i64 s, .int .i64 f, .int .i64 o, .slice A js.length c], .int .i64 sq, .int .i64 t] w fun e w' => ∃ g, e = .returned (.slice (some ⟨g, 0, none⟩) (nsq s) (nsq s)) ∧ w.heap.size ≤ g ∧
      RowI w' g 3 (nsq s) (fun i => pl s f o js sq t i) ∧ Below w.heap.size w w' := by
  have hl := hj.1
  have hz := good_sizes (asked_good ha)
  have hq := onSq_in (asked_on ha)
  obtain ⟨q, rfl⟩ := Int.eq_ofNat_of_zero_le hq.1
  have HA := Lib.hid ha; clear ha
  obtain ⟨n, hn⟩ : ∃ n : Nat, n = nsq s := ⟨_, rfl⟩
  rw [← hn]
  have hsn : s + 1 = (n : Int) := by rw [hn]; unfold nsq; omega
  have HN := Lib.hid hn; clear hn
  have iw : IntKind.i64.wrap (s + 1) = s + 1 := IntWalk.i64_in _ (by omega)
  rw [hsn] at iw
  have hn1 : n ≤ 101 := by omega
  have iq : (q : Int) < (n : Int) := by omega
  have iqn : q < n := by omega
  obtain ⟨i0, hi, hz0, hz1, hz2⟩ := info_parts infoInt2
  go_enter Try.func48, Try.ntmps48
  go_wp2_with (at_make; refine wpList_make_full _ rfl _ _ 26 rfl (w.heap.size + 1) 3 i0 _ 1 Try.underlying26 hi hz0 hz1 _ _ _ _ n rfl rfl rfl rfl (by rw [hz2]; omega) (by unfold maxLen; omega) (by simp) ?_; intro w1 hown hgrow; have hrow := madeI hown rfl; simp only [World.size_alloc] at hrow; have d1 := hrow.cell iqn; have d2 := hrow.free q)
  have hB1 : Below (w.heap.size + 1) (w.alloc (.cells #[.int .i64 s, .int .i64 f, .int .i64 o, .slice A js.length c] 31)) (w1.setCell ⟨w.heap.size + 1, q, none⟩ (.int .i64 1)) := ((Below.refl _ _).grown hgrow (by simp) (fun k e => by cases e)).setCell (by simp) _
  have hN0 : RowI (w1.setCell ⟨w.heap.size + 1, q, none⟩ (.int .i64 1)) (w.heap.size + 1) 3 n (fun i => pl s f o js q 0 i) := (hrow.set iqn 1).congr (fun i hi => by
    rw [pl]
    by_cases e : i = q
    · subst e; simp
    · rw [if_neg e, if_neg (by omega)])
  clear d1 d2 hrow hown hgrow
  go_loopw [2, 7] (fun th now wr => ∃ (k g : Nat), k ≤ t ∧ th = .int .i64 ((t : Int) - (k : Int)) ∧ now = .slice (some ⟨g, 0, none⟩) n n ∧ w.heap.size + 1 ≤ g ∧ RowI wr g 3 n (fun i => pl s f o js q k i) ∧ Below (w.heap.size + 1) (w.alloc (.cells #[.int .i64 s, .int .i64 f, .int .i64 o, .slice A js.length c] 31)) wr) (fun th _ _ => (intOf th).toNat)
  case atStart => exact ⟨0, w.heap.size + 1, Nat.zero_le _, by simp, rfl, Nat.le_refl _, hN0, hB1⟩
  case round =>
    clear hB1 hN0
    obtain ⟨k, g, hk, rfl, rfl, hg, hrow, hB⟩ := hrel
    have bc := boxcells hB
    have c0 : wr.cell? ⟨w.heap.size, 0, none⟩ = some (.int .i64 s) := (bc 0).trans rfl
    have lg := hrow.lt
    have hsw := hB.size
    simp only [World.size_alloc] at hsw
    by_cases hlt : k < t
    · have h3 : (0 : Int) < (t : Int) - (k : Int) := by omega
      clear bc
      go_wp2_with (at_make; refine wpList_make_full _ rfl _ _ 26 rfl (w.heap.size + 1) 3 i0 _ 1 Try.underlying26 hi hz0 hz1 _ _ _ _ n rfl rfl rfl rfl (by rw [hz2]; omega) (by unfold maxLen; omega) (by omega) ?_; intro w1 hown hgrow)
      have hnew := madeI hown rfl
      have hrow1 := hrow.grown hgrow (by simp)
      have hB1 : Below (w.heap.size + 1) (w.alloc (.cells #[.int .i64 s, .int .i64 f, .int .i64 o, .slice A js.length c] 31)) w1 := hB.grown hgrow (by omega) (fun k e => by cases e)
      have lg1 : g < wr.heap.size := lg
      clear hown hgrow hrow hB c0 lg hsw
      generalize hg2 : wr.heap.size = g2 at *
      have hg2n : w.heap.size + 1 ≤ g2 := by omega
      go_loopw [29, 9, 10, 11] (fun i _ _ _ wi => ∃ m : Nat, m ≤ n ∧ i = .int .i64 m ∧ RowI wi g 3 n (fun i => pl s f o js q k i) ∧ RowI wi g2 3 n (fun x => sumTo (fun i => pl s f o js q k i * facesTo s o js i x f.toNat) m) ∧ Below (w.heap.size + 1) (w.alloc (.cells #[.int .i64 s, .int .i64 f, .int .i64 o, .slice A js.length c] 31)) wi) (fun i _ _ _ _ => n - (intOf i).toNat)
      case atStart => exact ⟨0, Nat.zero_le _, rfl, hrow1, hnew, hB1⟩
      case round =>
        clear hrow1 hnew hB1
        obtain ⟨m, hm, rfl, hrow, hnew, hB⟩ := hrel
        have bc := boxcells hB
        have hsw := hB.size
        simp only [World.size_alloc] at hsw
        by_cases hlm : m < n
        · have hlm' : (m : Int) < (n : Int) := by omega
          have d1 := hrow.cell hlm
          have hmn : m < nsq s := by rw [← HN.out]; exact hlm
          clear bc
          by_cases hv : 0 < pl s f o js q k m
          · go_wp2
            clear d1
            go_loopw [11] (fun fc wi => ∃ j : Nat, j ≤ f.toNat ∧ fc = .int .i64 ((j : Int) + 1) ∧ RowI wi g 3 n (fun i => pl s f o js q k i) ∧ RowI wi g2 3 n (fun x => sumTo (fun i => pl s f o js q k i * facesTo s o js i x f.toNat) m + pl s f o js q k m * facesTo s o js m x j) ∧ Below (w.heap.size + 1) (w.alloc (.cells #[.int .i64 s, .int .i64 f, .int .i64 o, .slice A js.length c] 31)) wi) (fun fc _ => f.toNat + 1 - (intOf fc).toNat)
            case atStart => exact ⟨0, Nat.zero_le _, rfl, hrow, hnew.congr (fun x _ => by simp [facesTo]), hB⟩
            case round =>
              clear hrow hnew hB hsw
              obtain ⟨j, hj', rfl, hrow, hnew, hB⟩ := hrel
              have bc := boxcells hB
              have c1 : wr.cell? ⟨w.heap.size, 1, none⟩ = some (.int .i64 f) := (bc 1).trans rfl
              have hsw := hB.size
              simp only [World.size_alloc] at hsw
              by_cases hlj : j < f.toNat
              · have h4 : (j : Int) + 1 ≤ f := by omega
                have hm0 : (0 : Int) ≤ (m : Int) := by omega
                have hms : (m : Int) ≤ s := by omega
                have hY := thrown_in (o := o) (asked_good HA.out) hm0 hms (show (1 : Int) ≤ (j : Int) + 1 by omega)
                have p1 := pl_part (asked_good HA.out) (asked_on HA.out) k hmn (Nat.le_of_lt hlj) (thrown s o js m ((j : Int) + 1))
                have p2 := pl_part (asked_good HA.out) (asked_on HA.out) k hmn (j := j + 1) hlj (thrown s o js m ((j : Int) + 1))
                rw [facesTo_succ, if_pos rfl, Int.mul_add, Int.mul_one] at p2
                have hp := pow_lt63 hz.2.1.1 hz.2.1.2 (show k + 1 ≤ 20 by omega)
                have hp0 : 0 ≤ pl s f o js q k m := pl_nonneg _ _ _ _ _ _ _
                have hset : ∀ wi, RowI wi g2 3 n (fun x => sumTo (fun i => pl s f o js q k i * facesTo s o js i x f.toNat) m + pl s f o js q k m * facesTo s o js m x j) → ∃ V : Int, wi.cell? ⟨g2, (thrown s o js m ((j : Int) + 1)).toNat, none⟩ = some (.int .i64 V) ∧ wi.frozen? ⟨g2, (thrown s o js m ((j : Int) + 1)).toNat, none⟩ = false ∧ IntKind.i64.wrap (V + pl s f o js q k m) = V + pl s f o js q k m ∧
                    RowI (wi.setCell ⟨g2, (thrown s o js m ((j : Int) + 1)).toNat, none⟩ (.int .i64 (V + pl s f o js q k m))) g2 3 n (fun x => sumTo (fun i => pl s f o js q k i * facesTo s o js i x f.toNat) m + pl s f o js q k m * facesTo s o js m x (j + 1)) := fun wi h => by
                  have ec : (((thrown s o js m ((j : Int) + 1)).toNat : Nat) : Int) = thrown s o js m ((j : Int) + 1) := by omega
                  have hlt9 : (thrown s o js m ((j : Int) + 1)).toNat < n := by omega
                  have h9 := h.cell hlt9
                  simp only [ec] at h9
                  refine ⟨_, h9, h.free _, IntWalk.i64_in _ (by omega), (h.set hlt9 _).congr (fun x hx => ?_)⟩
                  rw [facesTo_succ]
                  by_cases e : x = (thrown s o js m ((j : Int) + 1)).toNat
                  · rw [if_pos e, if_pos (by omega), e, ec, Int.mul_add, Int.mul_one]; omega
                  · rw [if_neg e, if_neg (by omega), Int.add_zero]
                have i5 : 0 ≤ thrown s o js m ((j : Int) + 1) := hY.1
                have i6 : thrown s o js m ((j : Int) + 1) < (n : Int) := by omega
                have ngg : g ≠ g2 := by omega
                clear p1 p2 hp hp0 hY
                go_wp2_with (go_at_call 66; refine (sqThrow_any s f o A c m ((j : Int) + 1) js _ (hj.go ((below1 _ _).trans (hB.mono (by omega)))) hz.1.1 hz.1.2 hz.2.2.1.1 hz.2.2.1.2 hm0 hms (by omega) (by omega)).mono ?_; rintro e w5 ⟨rfl, hx5⟩; obtain ⟨V, v1, v2, v3, v4⟩ := hset w5 (hnew.below hx5 hnew.lt))
                go_roundw
                case rel => exact ⟨j + 1, hlj, by go_num, (hrow.below hx5 hrow.lt).far (by simpa using ngg) _, v4, (keepB hB (by simp <;> omega) hx5).setCell (by simp <;> omega) _⟩
                case measure => simp [intOf]; omega
              · have h4 : ¬ (j : Int) + 1 ≤ f := by omega
                obtain rfl : j = f.toNat := by omega
                go_wp2
                go_roundw
                case rel => exact ⟨m + 1, by omega, by go_num, hrow, hnew.congr (fun x _ => by rw [sumTo]), hB⟩
                case measure => simp [intOf]; omega
          · have hv0 : pl s f o js q k m = 0 := by have := pl_nonneg s f o js q k m; omega
            have HV := Lib.hid hv0; clear hv0
            go_wp2
            go_roundw
            case rel => exact ⟨m + 1, by omega, by go_num, hrow, hnew.congr (fun x _ => by rw [sumTo, HV.out, Int.zero_mul, Int.add_zero]), hB⟩
            case measure => simp [intOf]; omega
        · have hlm' : ¬ (m : Int) < (n : Int) := by omega
          obtain rfl : m = n := by omega
          go_wp2
          go_roundw
          case rel => exact ⟨k + 1, g2, hlt, by simp; omega, rfl, hg2n, hnew.congr (fun x _ => by rw [pl, ← HN.out]), hB⟩
          case measure => simp [intOf]; omega
    · have h3 : ¬ (0 : Int) < (t : Int) - (k : Int) := by omega
      obtain rfl : k = t := by omega
      go_wp2
      go_ret
      exact ⟨g, rfl, by omega, hrow, (below1 _ _).trans (hB.mono (by omega))⟩
end Go.Proofs.Ytiekdokgjdgajab

/-
  PartMet, the program's and the model's.
-/
import Derived.Test.YtiekdokgjdgajabC2i
import Derived.Test.YtiekdokgjdgajabC2m
import Derived.Test.YtiekdokgjdgajabM6
namespace Go.Proofs.Ytiekdokgjdgajab
open Go.RowKit

set_option maxRecDepth 100000 in
set_option maxHeartbeats 400000 in
theorem implPartMet_no (s f o : Int) (A : Option Addr) (c : Nat) (sq to th : Int) (js : List (Int × Int)) (w : World) (hj : RJ w w.heap.size A js) (hno : partOk s f o js sq to th = false) :
    Calls Try.prog 39 #[.agg #[.int .i64 s, .int .i64 f, .int .i64 o, .slice A js.length c], .int .i64 sq, .int .i64 to, .int .i64 th] w (PartIs w 0 0 false) := by
  have hl := hj.1
  have hn : (asked s f o js sq && onSq s js to && decide (0 ≤ th) && decide (th ≤ 20)) = false := by rw [Bool.and_assoc]; exact hno
  have hst := fun w => storeWalk 0 0 0 (fun _ => 0) 0 0 none none w
  have HN := Lib.hid hn; clear hn hno
  go_enter Try.func39, Try.ntmps39
  go_wp2_with (go_at_call 67; refine (walkTo_no _ _ _ _ _ _ _ _ _ _ _ (hj.go (below1 _ _)) HN.out).mono ?_; rintro e w2 ⟨rfl, hx⟩)
  exact bodyPost_ret (v := .tuple #[.int .i64 0, .int .i64 0, .bool false]) (by simp [results, Try.results39]) rfl
    ⟨rfl, ((below1 _ _).trans (hx.mono (by simp))).alloc (by have := hx.size; simp at this; omega) _⟩

set_option maxRecDepth 100000 in
set_option maxHeartbeats 400000 in
theorem implPartMet_yes (s f o : Int) (A : Option Addr) (c : Nat) (sq to : Int) (t m F : Nat) (js : List (Int × Int)) (w : World) (hj : RJ w w.heap.size A js) (hyes : partOk s f o js sq to t = true) (hm : mt s f o js to sq t = (m : Int)) (hF : f ^ t = (F : Int)) :
    Calls Try.prog 39 #[.agg #[.int .i64 s, .int .i64 f, .int .i64 o, .slice A js.length c], .int .i64 sq, .int .i64 to, .int .i64 t] w (PartIs w (lowA m F) (lowB m F) true) := by
  have hl := hj.1
  simp only [partOk, Bool.and_eq_true] at hyes
  obtain ⟨⟨ha, hto⟩, hth⟩ := hyes
  have hz := good_sizes (asked_good ha)
  have hth' := inB_iff.1 hth
  have ht20 : t ≤ 20 := by omega
  have HA := Lib.hid ha
  have HTO := Lib.hid hto
  have hp := pow_lt63 hz.2.1.1 hz.2.1.2 ht20
  have hml := mt_le (wt := to) (asked_good ha) (asked_on ha) t
  have hm1 : m ≤ 1152921504606846976 := by omega
  have hF1 : F ≤ 1152921504606846976 := by omega
  have hF2 : 1 ≤ F := by omega
  have HM := Lib.hid (show sumTo (fun i => ct s f o js to sq t i true) 101 = (m : Int) from hm)
  have HF := Lib.hid hF
  clear ha hto hp hml hth hm hF
  have hst : ∀ (x y : Option Nat) (w : World), (storeCells ⟨w.heap.size, 0, none⟩ (wlkCells s f o (fun i => jumpOf js i) to (f ^ t) x y).toList 0).run Try.prog (w.alloc (.cells Try.zeroCells57 57)) = .ok () (w.alloc (.cells (wlkCells s f o (fun i => jumpOf js i) to (f ^ t) x y) 57)) := fun x y w => storeWalk _ _ _ _ _ _ _ _ w
  go_enter Try.func39, Try.ntmps39
  go_wp2_with fail
  refine (walkTo_yes _ _ _ _ _ _ _ _ _ _ _ (hj.go (below1 _ _)) HA.out HTO.out hth'.2 (by omega)).mono ?_
  rintro e w1 ⟨bl, bb, rfl, l0, b0, hne, l1, b1, hL, hE, hx⟩
  have hs1 := hx.size
  simp only [World.size_alloc] at l0 b0 hs1
  have HNE := Lib.hid hne; clear hne
  have hW : WA (w1.alloc (.cells (wlkCells s f o (fun i => jumpOf js i) to (f ^ t) (some bl) (some bb)) 57)) w1.heap.size s f o (fun i => jumpOf js i) to (f ^ t) (some bl) (some bb) := heap_alloc_at _ _ _ rfl
  have hL1 := hL.alloc (.cells (wlkCells s f o (fun i => jumpOf js i) to (f ^ t) (some bl) (some bb)) 57)
  go_wp2_with fail
  have hWd : WA (w1.alloc (.cells (wlkCells s f o (fun i => jumpOf js i) to (f ^ t) (some bl) (some bb)) 57)).drew w1.heap.size s f o (fun i => jumpOf js i) to (f ^ t) (some bl) (some bb) := hW
  have hLd : SW (w1.alloc (.cells (wlkCells s f o (fun i => jumpOf js i) to (f ^ t) (some bl) (some bb)) 57)).drew bl (ct s f o js to sq t) := hL1.keep rfl
  have hB1 : Below w.heap.size w (w1.alloc (.cells (wlkCells s f o (fun i => jumpOf js i) to (f ^ t) (some bl) (some bb)) 57)).drew := (((below1 _ _).trans (hx.mono (by simp))).alloc (by omega) _).drew
  have hall : (w1.alloc (.cells (wlkCells s f o (fun i => jumpOf js i) to (f ^ t) (some bl) (some bb)) 57)).drew.cell? ⟨w1.heap.size, 105, none⟩ = some (.int .i64 (F : Int)) := hWd.all.trans (by rw [HF.out])
  clear hL hE
  refine wp_region_held_drew (S := (fun w' => w'.cell? ⟨w1.heap.size, 105, none⟩ = some (.int .i64 (F : Int)) ∧ w1.heap.size < w'.heap.size)) (by kernel_rfl) ⟨hall, by simp⟩ (fun hS => ?_)
  refine wpAnyH_take (i := 1) (oi := ⟨some 27, _, _, _, _, _⟩) (v := ?va1) rfl (by kernel_rfl) (by kernel_rfl) (by kernel_rfl) (fun _ _ _ h => h) (Or.inl ⟨by rfl, ?ha1⟩) hS ?ra1
  case ha1 => (intro w' hSw; (try dsimp only at hSw); go_simp; (try with_reducible rfl))
  try simp only [Act.put, List.setIfInBounds_toArray, List.set_cons_zero, List.set_cons_succ]
  refine wpAnyH_take (i := 2) (oi := ⟨some 28, _, _, _, _, _⟩) (v := ?va2) rfl (by kernel_rfl) (by kernel_rfl) (by kernel_rfl) (fun _ _ _ h => h) (Or.inl ⟨by rfl, ?ha2⟩) hS ?ra2
  case ha2 => (intro w' hSw; (try dsimp only at hSw); go_simp; (try with_reducible rfl))
  try simp only [Act.put, List.setIfInBounds_toArray, List.set_cons_zero, List.set_cons_succ]
  refine wpAnyH_ready (rs := [0]) (by kernel_rfl) (by simp) ?_
  refine AllReadyH.cons (o := ⟨some 26, _, _, _, _, _⟩) rfl (fun K' hK' => ?_) AllReadyH.nil
  go_simp
  go_at_call 58
  refine (met_any _ _ _ _ _ _ _ _ _ _ _ hWd hLd (fun q m => ct_nonneg _ _ _ _ _ _ _ _ _) (by rw [HM.out]; omega)).mono ?_
  rintro e w6 ⟨rfl, hx6⟩
  rw [HM.out]
  have k1 := keepcell hx6 hall
  refine hK'.out _ _ ⟨k1, cell_lt k1⟩ (fun _ => ?_)
  clear hK' K'
  try simp only [Act.put, List.setIfInBounds_toArray, List.set_cons_zero, List.set_cons_succ]
  refine wpAnyH_ready (rs := [3]) (by kernel_rfl) (by simp) ?_
  refine AllReadyH.cons (o := ⟨some 29, _, _, _, _, _⟩) rfl (fun K' hK' => ?_) AllReadyH.nil
  go_simp
  go_at_call 57
  refine (lowest_any m F _ hm1 hF1 hF2).mono ?_
  rintro e w5 ⟨rfl, hx5⟩
  have k2 := keepcell hx5 k1
  refine hK'.out _ _ ⟨k2, cell_lt k2⟩ (fun _ => ?_)
  clear hK' K'
  try simp only [Act.put, List.setIfInBounds_toArray, List.set_cons_zero, List.set_cons_succ]
  refine wpAnyH_take (i := 4) (oi := ⟨some 25, _, _, _, _, _⟩) (v := ?va4) rfl (by kernel_rfl) (by kernel_rfl) (by kernel_rfl) (fun _ _ _ h => h) (Or.inl ⟨by rfl, ?ha4⟩) ⟨k2, cell_lt k2⟩ ?ra4
  case ha4 => (intro w' hSw; (try dsimp only at hSw); go_simp; (try with_reducible rfl))
  try simp only [Act.put, List.setIfInBounds_toArray, List.set_cons_zero, List.set_cons_succ]
  refine wpAnyH_take (i := 5) (oi := ⟨some 30, _, _, _, _, _⟩) (v := ?va5) rfl (by kernel_rfl) (by kernel_rfl) (by kernel_rfl) (fun _ _ _ h => h) (Or.inl ⟨by rfl, ?ha5⟩) ⟨k2, cell_lt k2⟩ ?ra5
  case ha5 => (intro w' hSw; (try dsimp only at hSw); go_simp; (try with_reducible rfl))
  try simp only [Act.put, List.setIfInBounds_toArray, List.set_cons_zero, List.set_cons_succ]
  refine wpAnyH_take (i := 6) (oi := ⟨some 31, _, _, _, _, _⟩) (v := ?va6) rfl (by kernel_rfl) (by kernel_rfl) (by kernel_rfl) (fun _ _ _ h => h) (Or.inl ⟨by rfl, ?ha6⟩) ⟨k2, cell_lt k2⟩ ?ra6
  case ha6 => (intro w' hSw; (try dsimp only at hSw); go_simp; (try with_reducible rfl))
  try simp only [Act.put, List.setIfInBounds_toArray, List.set_cons_zero, List.set_cons_succ]
  refine wpAnyH_ready (rs := [7]) (by kernel_rfl) (by simp) ?_
  refine AllReadyH.cons (o := ⟨some 13, _, _, _, _, _⟩) rfl (fun K' hK' => ?_) AllReadyH.nil
  go_simp
  refine hK'.out _ _ ⟨k2, cell_lt k2⟩ (fun _ => ?_)
  clear hK' K'
  try simp only [Act.put, List.setIfInBounds_toArray, List.set_cons_zero, List.set_cons_succ]
  refine wpAnyH_ready (rs := [8]) (by kernel_rfl) (by simp) ?_
  refine AllReadyH.cons (o := ⟨some 14, _, _, _, _, _⟩) rfl (fun K' hK' => ?_) AllReadyH.nil
  go_simp
  refine hK'.out _ _ ⟨k2, cell_lt k2⟩ (fun _ => ?_)
  clear hK' K'
  try simp only [Act.put, List.setIfInBounds_toArray, List.set_cons_zero, List.set_cons_succ]
  refine wpAnyH_done (by kernel_rfl) ?_ _
  go_wp2
  exact bodyPost_ret (v := .tuple #[.int .i64 (lowA m F), .int .i64 (lowB m F), .bool true]) (by simp [results, Try.results39]) rfl
    ⟨rfl, (hB1.trans (hx6.mono hB1.size)).trans (hx5.mono (Nat.le_trans hB1.size hx6.size))⟩
set_option maxRecDepth 100000 in
set_option maxHeartbeats 400000 in
theorem specPartMet_no (s f o : Int) (A : Option Addr) (c : Nat) (sq to th : Int) (js : List (Int × Int)) (w : World) (hj : RJ w w.heap.size A js) (hno : partOk s f o js sq to th = false) :
    Calls Try.prog 38 #[.agg #[.int .i64 s, .int .i64 f, .int .i64 o, .slice A js.length c], .int .i64 sq, .int .i64 to, .int .i64 th] w (PartIs w 0 0 false) := by
  have hl := hj.1
  cases ha : (asked s f o js sq && inB th 0 20)
  · have HA := Lib.hid ha; clear ha hno
    go_enter Try.func38, Try.ntmps38
    go_wp2_with (go_at_call 47; refine (chAsked_any _ _ _ _ _ _ _ _ _ (hj.go (below1 _ _))).mono ?_; rintro e w2 ⟨rfl, hx⟩; rw [HA.out])
    exact bodyPost_ret (v := .tuple #[.int .i64 0, .int .i64 0, .bool false]) (by simp [results, Try.results38]) rfl ⟨rfl, (below1 _ _).trans (hx.mono (by simp))⟩
  · have hto : onSq s js to = false := by
      cases h : onSq s js to
      · rfl
      · rw [Bool.and_eq_true] at ha
        rw [partOk, ha.1, h, ha.2] at hno; cases hno
    have HA := Lib.hid ha
    have HTO := Lib.hid hto; clear ha hto hno
    go_enter Try.func38, Try.ntmps38
    go_wp2_with fail
    refine (chAsked_any _ _ _ _ _ _ _ _ _ (hj.go (below1 _ _))).mono ?_
    rintro e w2 ⟨rfl, hx⟩
    rw [HA.out]
    have hb := box_on (Below.refl _ _) hx (by simp)
    have q := boxcells hb
    have hB2 := (below1 w (.cells #[.int .i64 s, .int .i64 f, .int .i64 o, .slice A js.length c] 31)).trans (hb.mono (by omega))
    go_wp2_with (go_at_call 54; refine (sqSquare_any _ _ _ _ _ _ _ _ (hj.go hB2)).mono ?_; rintro e w3 ⟨rfl, hx3⟩; rw [HTO.out])
    exact bodyPost_ret (v := .tuple #[.int .i64 0, .int .i64 0, .bool false]) (by simp [results, Try.results38]) rfl ⟨rfl, hB2.trans (hx3.mono hB2.size)⟩

set_option maxRecDepth 100000 in
set_option maxHeartbeats 4000000 in
theorem specPartMet_yes (s f o : Int) (A : Option Addr) (c : Nat) (q q0 t m0 F : Nat) (js : List (Int × Int)) (w : World) (hj : RJ w w.heap.size A js) (hyes : partOk s f o js q q0 t = true) (hm : mt s f o js q0 q t = (m0 : Int)) (hF : f ^ t = (F : Int)) :
    Calls Try.prog 38 #[.agg #[.int .i64 s, .int .i64 f, .int .i64 o, .slice A js.length c], .int .i64 q, .int .i64 q0, .int .i64 t] w (PartIs w (lowA m0 F) (lowB m0 F) true) := by
  have hl := hj.1
  simp only [partOk, Bool.and_eq_true] at hyes
  obtain ⟨⟨ha, hto⟩, hth⟩ := hyes
  have hz := good_sizes (asked_good ha)
  have hq := onSq_in (asked_on ha)
  have hq0 := onSq_in hto
  have ht20 : t ≤ 20 := by have := inB_iff.1 hth; omega
  have HA2 := Lib.hid (show (asked s f o js q && inB t 0 20) = true by rw [ha, hth]; rfl)
  have hp := pow_lt63 hz.2.1.1 hz.2.1.2 ht20
  have hml := mt_le (wt := q0) (asked_good ha) (asked_on ha) t
  have hm1 : m0 ≤ 1152921504606846976 := by omega
  have HA := Lib.hid ha; have HTO := Lib.hid hto; have HM := Lib.hid hm; have HF := Lib.hid hF; clear ha hto hm hF hp hml hth
  obtain ⟨n, hn⟩ : ∃ n : Nat, n = nsq s := ⟨_, rfl⟩
  have hsn : s + 1 = (n : Int) := by rw [hn]; unfold nsq; omega
  have HN := Lib.hid hn; clear hn
  have iw : IntKind.i64.wrap (s + 1) = s + 1 := IntWalk.i64_in _ (by omega)
  rw [hsn] at iw
  have hn1 : n ≤ 101 := by omega
  have iq : (q : Int) < (n : Int) := by omega
  have iqn : q < n := by omega
  have iq0 : (q0 : Int) < (n : Int) := by omega
  have iqn0 : q0 < n := by omega
  obtain ⟨i0, hi, hz0, hz1, hz2⟩ := info_parts infoInt2
  go_enter Try.func38, Try.ntmps38
  go_wp2_with fail
  refine (chAsked_any _ _ _ _ _ _ _ _ _ (hj.go (below1 _ _))).mono ?_
  rintro e w2 ⟨rfl, hx⟩
  rw [HA2.out]
  have hb := box_on (Below.refl _ _) hx (by simp)
  have bc := boxcells hb
  have hB2 := (below1 w (.cells #[.int .i64 s, .int .i64 f, .int .i64 o, .slice A js.length c] 31)).trans (hb.mono (by omega))
  go_wp2_with fail
  refine (sqSquare_any _ _ _ _ _ _ _ _ (hj.go hB2)).mono ?_
  rintro e w3 ⟨rfl, hx3⟩
  rw [HTO.out]
  have hb3 := (box_on hb hx3 (by have := hb.size; simpa using this))
  have bc3 := boxcells hb3
  have hs3 := hb3.size
  simp only [World.size_alloc] at hs3
  clear bc hb hx hx3
  go_wp2_with (at_make; refine wpList_make_full _ rfl _ _ 26 rfl (w.heap.size + 1) 3 i0 _ 1 Try.underlying26 hi hz0 hz1 _ _ _ _ n rfl rfl rfl rfl (by rw [hz2]; omega) (by unfold maxLen; omega) (by omega) ?_; intro w1 hown hgrow; have hrow := madeI hown rfl; have d1 := hrow.cell iqn; have d2 := hrow.free q)
  have hB1 : Below (w.heap.size + 1) (w.alloc (.cells #[.int .i64 s, .int .i64 f, .int .i64 o, .slice A js.length c] 31)) (w1.setCell ⟨w3.heap.size, q, none⟩ (.int .i64 1)) := (hb3.grown hgrow (by omega) (fun k e => by cases e)).setCell (by simp; omega) _
  have hN0 : RowI (w1.setCell ⟨w3.heap.size, q, none⟩ (.int .i64 1)) w3.heap.size 3 n (fun i => un s f o js q0 q 0 i) := (hrow.set iqn 1).congr (fun i hi => by
    rw [un]
    by_cases e : i = q
    · subst e; simp
    · rw [if_neg e, if_neg (by omega)])
  clear d1 d2 hrow hown hgrow bc3 hb3
  go_loopw [11, 12, 13] (fun now met left wr => ∃ (k r g : Nat), k + r = t ∧ left = .int .i64 (r : Int) ∧ met = .int .i64 (away s f o js q0 q t k) ∧ now = .slice (some ⟨g, 0, none⟩) n n ∧ w.heap.size + 1 ≤ g ∧ RowI wr g 3 n (fun i => un s f o js q0 q k i) ∧ Below (w.heap.size + 1) (w.alloc (.cells #[.int .i64 s, .int .i64 f, .int .i64 o, .slice A js.length c] 31)) wr) (fun _ _ left _ => (intOf left).toNat)
  case atStart => exact ⟨0, t, w3.heap.size, by omega, rfl, rfl, rfl, hs3, hN0, hB1⟩
  case round =>
    clear hB1 hN0
    obtain ⟨k, r, g, hkr, rfl, rfl, rfl, hg, hrow, hB⟩ := hrel
    have bc := boxcells hB
    have lg := hrow.lt
    have hsw := hB.size
    simp only [World.size_alloc] at hsw
    have u1 := hrow.cell iqn0
    have hap := away_part (wt := q0) (asked_good HA.out) (asked_on HA.out) (show k ≤ t by omega)
    have hal := away_le (wt := q0) (asked_good HA.out) (asked_on HA.out) (show k ≤ t by omega)
    have has := away_step (asked_good HA.out) (asked_on HA.out) HTO.out (show k ≤ t by omega)
    rw [show t - k = r by omega] at hap hal has
    have hpt := pow_lt63 hz.2.1.1 hz.2.1.2 ht20
    have e1 : IntKind.i64.wrap (un s f o js q0 q k q0 * f ^ r) = un s f o js q0 q k q0 * f ^ r := IntWalk.i64_in _ (by omega)
    have e2 : IntKind.i64.wrap (away s f o js q0 q t k + un s f o js q0 q k q0 * f ^ r) = mt s f o js q0 q k * f ^ r := by rw [IntWalk.i64_in _ (by omega)]; exact has
    clear hap hal has hpt
    match r with
    | 0 =>
      obtain rfl : k = t := by omega
      rw [Int.pow_zero, Int.mul_one] at e1 e2
      rw [Int.mul_one, HM.out] at e2
      go_wp2_with fail
      refine wp_region_held_drew (S := (fun w' => Below (w.heap.size + 1) (w.alloc (.cells #[.int .i64 s, .int .i64 f, .int .i64 o, .slice A js.length c] 31)) w' ∧ (∀ i, w'.cell? ⟨w.heap.size, i, none⟩ = #[.int .i64 s, .int .i64 f, .int .i64 o, .slice A js.length c][i]?) ∧ w'.cell? ⟨g, q0, none⟩ = some (.int .i64 (un s f o js q0 q k q0)))) (by kernel_rfl) ⟨hB.drew, boxcells hB.drew, u1⟩ (fun hS => ?_)
      refine wpAnyH_take (i := 0) (oi := ⟨some 39, _, _, _, _, _⟩) (v := ?va0) rfl (by kernel_rfl) (by kernel_rfl) (by kernel_rfl) (fun _ _ _ h => h) (Or.inl ⟨by rfl, ?ha0⟩) hS ?ra0
      case ha0 => (intro w' hSw; (try dsimp only at hSw); go_simp; (try with_reducible rfl))
      try simp only [Act.put, List.setIfInBounds_toArray, List.set_cons_zero, List.set_cons_succ]
      refine wpAnyH_take (i := 1) (oi := ⟨some 40, _, _, _, _, _⟩) (v := ?va1) rfl (by kernel_rfl) (by kernel_rfl) (by kernel_rfl) (fun _ _ _ h => h) (Or.inl ⟨by rfl, ?ha1⟩) hS ?ra1
      case ha1 => (intro w' hSw; (try dsimp only at hSw); go_simp; (try with_reducible rfl))
      try simp only [Act.put, List.setIfInBounds_toArray, List.set_cons_zero, List.set_cons_succ]
      refine wpAnyH_take (i := 2) (oi := ⟨some 41, _, _, _, _, _⟩) (v := ?va2) rfl (by kernel_rfl) (by kernel_rfl) (by kernel_rfl) (fun _ _ _ h => h) (Or.inl ⟨by rfl, ?ha2⟩) hS ?ra2
      case ha2 => (intro w' hSw; (try dsimp only at hSw); go_simp; (try with_reducible rfl))
      try simp only [Act.put, List.setIfInBounds_toArray, List.set_cons_zero, List.set_cons_succ]
      refine wpAnyH_take (i := 3) (oi := ⟨some 42, _, _, _, _, _⟩) (v := ?va3) rfl (by kernel_rfl) (by kernel_rfl) (by kernel_rfl) (fun _ _ _ h => h) (Or.inl ⟨by rfl, ?ha3⟩) hS ?ra3
      case ha3 => (intro w' hSw; (try dsimp only at hSw); go_simp; (try with_reducible rfl))
      try simp only [Act.put, List.setIfInBounds_toArray, List.set_cons_zero, List.set_cons_succ]
      refine wpAnyH_take (i := 4) (oi := ⟨some 43, _, _, _, _, _⟩) (v := ?va4) rfl (by kernel_rfl) (by kernel_rfl) (by kernel_rfl) (fun _ _ _ h => h) (Or.inl ⟨by rfl, ?ha4⟩) hS ?ra4
      case ha4 => (intro w' hSw; (try dsimp only at hSw); go_simp; (try with_reducible rfl))
      try simp only [Act.put, List.setIfInBounds_toArray, List.set_cons_zero, List.set_cons_succ]
      refine wpAnyH_take (i := 5) (oi := ⟨some 44, _, _, _, _, _⟩) (v := ?va5) rfl (by kernel_rfl) (by kernel_rfl) (by kernel_rfl) (fun _ _ _ h => h) (Or.inl ⟨by rfl, ?ha5⟩) hS ?ra5
      case ha5 => (intro w' hSw; (try dsimp only at hSw); go_simp; (try with_reducible rfl))
      try simp only [Act.put, List.setIfInBounds_toArray, List.set_cons_zero, List.set_cons_succ]
      refine wpAnyH_take (i := 6) (oi := ⟨some 45, _, _, _, _, _⟩) (v := ?va6) rfl (by kernel_rfl) (by kernel_rfl) (by kernel_rfl) (fun _ _ _ h => h) (Or.inl ⟨by rfl, ?ha6⟩) hS ?ra6
      case ha6 => (intro w' hSw; (try dsimp only at hSw); go_simp; (try with_reducible rfl))
      try simp only [Act.put, List.setIfInBounds_toArray, List.set_cons_zero, List.set_cons_succ]
      refine wpAnyH_ready (rs := [7]) (by kernel_rfl) (by simp) ?_
      refine AllReadyH.cons (o := ⟨some 46, _, _, _, _, _⟩) rfl (fun K' hK' => ?_) AllReadyH.nil
      go_simp
      go_at_call 65
      refine (chAll_any _ _ _ _ _ _ 0 _ hz.2.1.1 hz.2.1.2 (by omega)).mono ?_
      rintro e w5 ⟨rfl, hx5⟩
      have k1 := box_on hB.drew hx5 (by have := hB.size; simpa using this)
      have k2 := keepcell hx5 (show wr.drew.cell? ⟨g, q0, none⟩ = _ from u1)
      refine hK'.out _ _ ⟨k1, boxcells k1, k2⟩ (fun _ => ?_)
      clear hK' K'
      try simp only [Act.put, List.setIfInBounds_toArray, List.set_cons_zero, List.set_cons_succ]
      refine wpAnyH_take (i := 8) (oi := ⟨some 47, _, _, _, _, _⟩) (v := ?va8) rfl (by kernel_rfl) (by kernel_rfl) (by kernel_rfl) (fun _ _ _ h => h) (Or.inl ⟨by rfl, ?ha8⟩) ⟨k1, boxcells k1, k2⟩ ?ra8
      case ha8 => (intro w' hSw; (try dsimp only at hSw); go_simp; (try with_reducible rfl))
      try simp only [Act.put, List.setIfInBounds_toArray, List.set_cons_zero, List.set_cons_succ]
      refine wpAnyH_take (i := 9) (oi := ⟨some 48, _, _, _, _, _⟩) (v := ?va9) rfl (by kernel_rfl) (by kernel_rfl) (by kernel_rfl) (fun _ _ _ h => h) (Or.inl ⟨by rfl, ?ha9⟩) ⟨k1, boxcells k1, k2⟩ ?ra9
      case ha9 => (intro w' hSw; (try dsimp only at hSw); go_simp; (try with_reducible rfl))
      try simp only [Act.put, List.setIfInBounds_toArray, List.set_cons_zero, List.set_cons_succ]
      refine wpAnyH_ready (rs := [10]) (by kernel_rfl) (by simp) ?_
      refine AllReadyH.cons (o := ⟨some 12, _, _, _, _, _⟩) rfl (fun K' hK' => ?_) AllReadyH.nil
      go_simp
      refine hK'.out _ _ ⟨k1, boxcells k1, k2⟩ (fun _ => ?_)
      clear hK' K'
      try simp only [Act.put, List.setIfInBounds_toArray, List.set_cons_zero, List.set_cons_succ]
      refine wpAnyH_done (by kernel_rfl) ?_ _
      have j1 := k1.setCell (p := ⟨g, q0, none⟩) (by simp; omega) (.int .i64 0)
      have j2 := boxcells j1
      have j3 := (hrow.drew.below hx5 lg).free q0
      try simp only [Int.pow_zero, Int.mul_one, e1, e2]
      go_wp2_with (go_at_call 55; refine (chPart_any s f o A c js m0 k F _ hz.2.1.1 hz.2.1.2 ht20 HF.out hm1).mono ?_; rintro e w6 ⟨rfl, hx6⟩)
      exact bodyPost_ret (v := .tuple #[.int .i64 (lowA m0 F), .int .i64 (lowB m0 F), .bool true]) (by simp [results, Try.results38]) rfl
        ⟨rfl, (below1 _ _).trans ((box_on j1 hx6 (by have := j1.size; simpa using this)).mono (by omega))⟩
    | r + 1 =>
      have hr0 : ¬ ((r + 1 : Nat) : Int) = 0 := by omega
      go_wp2_with fail
      refine wp_region_held_drew (S := (fun w' => Below (w.heap.size + 1) (w.alloc (.cells #[.int .i64 s, .int .i64 f, .int .i64 o, .slice A js.length c] 31)) w' ∧ (∀ i, w'.cell? ⟨w.heap.size, i, none⟩ = #[.int .i64 s, .int .i64 f, .int .i64 o, .slice A js.length c][i]?) ∧ w'.cell? ⟨g, q0, none⟩ = some (.int .i64 (un s f o js q0 q k q0)))) (by kernel_rfl) ⟨hB.drew, boxcells hB.drew, u1⟩ (fun hS => ?_)
      refine wpAnyH_take (i := 0) (oi := ⟨some 39, _, _, _, _, _⟩) (v := ?vb0) rfl (by kernel_rfl) (by kernel_rfl) (by kernel_rfl) (fun _ _ _ h => h) (Or.inl ⟨by rfl, ?hb0⟩) hS ?rb0
      case hb0 => (intro w' hSw; (try dsimp only at hSw); go_simp; (try with_reducible rfl))
      try simp only [Act.put, List.setIfInBounds_toArray, List.set_cons_zero, List.set_cons_succ]
      refine wpAnyH_take (i := 1) (oi := ⟨some 40, _, _, _, _, _⟩) (v := ?vb1) rfl (by kernel_rfl) (by kernel_rfl) (by kernel_rfl) (fun _ _ _ h => h) (Or.inl ⟨by rfl, ?hb1⟩) hS ?rb1
      case hb1 => (intro w' hSw; (try dsimp only at hSw); go_simp; (try with_reducible rfl))
      try simp only [Act.put, List.setIfInBounds_toArray, List.set_cons_zero, List.set_cons_succ]
      refine wpAnyH_take (i := 2) (oi := ⟨some 41, _, _, _, _, _⟩) (v := ?vb2) rfl (by kernel_rfl) (by kernel_rfl) (by kernel_rfl) (fun _ _ _ h => h) (Or.inl ⟨by rfl, ?hb2⟩) hS ?rb2
      case hb2 => (intro w' hSw; (try dsimp only at hSw); go_simp; (try with_reducible rfl))
      try simp only [Act.put, List.setIfInBounds_toArray, List.set_cons_zero, List.set_cons_succ]
      refine wpAnyH_take (i := 3) (oi := ⟨some 42, _, _, _, _, _⟩) (v := ?vb3) rfl (by kernel_rfl) (by kernel_rfl) (by kernel_rfl) (fun _ _ _ h => h) (Or.inl ⟨by rfl, ?hb3⟩) hS ?rb3
      case hb3 => (intro w' hSw; (try dsimp only at hSw); go_simp; (try with_reducible rfl))
      try simp only [Act.put, List.setIfInBounds_toArray, List.set_cons_zero, List.set_cons_succ]
      refine wpAnyH_take (i := 4) (oi := ⟨some 43, _, _, _, _, _⟩) (v := ?vb4) rfl (by kernel_rfl) (by kernel_rfl) (by kernel_rfl) (fun _ _ _ h => h) (Or.inl ⟨by rfl, ?hb4⟩) hS ?rb4
      case hb4 => (intro w' hSw; (try dsimp only at hSw); go_simp; (try with_reducible rfl))
      try simp only [Act.put, List.setIfInBounds_toArray, List.set_cons_zero, List.set_cons_succ]
      refine wpAnyH_take (i := 5) (oi := ⟨some 44, _, _, _, _, _⟩) (v := ?vb5) rfl (by kernel_rfl) (by kernel_rfl) (by kernel_rfl) (fun _ _ _ h => h) (Or.inl ⟨by rfl, ?hb5⟩) hS ?rb5
      case hb5 => (intro w' hSw; (try dsimp only at hSw); go_simp; (try with_reducible rfl))
      try simp only [Act.put, List.setIfInBounds_toArray, List.set_cons_zero, List.set_cons_succ]
      refine wpAnyH_take (i := 6) (oi := ⟨some 45, _, _, _, _, _⟩) (v := ?vb6) rfl (by kernel_rfl) (by kernel_rfl) (by kernel_rfl) (fun _ _ _ h => h) (Or.inl ⟨by rfl, ?hb6⟩) hS ?rb6
      case hb6 => (intro w' hSw; (try dsimp only at hSw); go_simp; (try with_reducible rfl))
      try simp only [Act.put, List.setIfInBounds_toArray, List.set_cons_zero, List.set_cons_succ]
      refine wpAnyH_ready (rs := [7]) (by kernel_rfl) (by simp) ?_
      refine AllReadyH.cons (o := ⟨some 46, _, _, _, _, _⟩) rfl (fun K' hK' => ?_) AllReadyH.nil
      go_simp
      go_at_call 65
      refine (chAll_any _ _ _ _ _ _ (r + 1) _ hz.2.1.1 hz.2.1.2 (by omega)).mono ?_
      rintro e w5 ⟨rfl, hx5⟩
      have k1 := box_on hB.drew hx5 (by have := hB.size; simpa using this)
      have k2 := keepcell hx5 (show wr.drew.cell? ⟨g, q0, none⟩ = _ from u1)
      refine hK'.out _ _ ⟨k1, boxcells k1, k2⟩ (fun _ => ?_)
      clear hK' K'
      try simp only [Act.put, List.setIfInBounds_toArray, List.set_cons_zero, List.set_cons_succ]
      refine wpAnyH_take (i := 8) (oi := ⟨some 47, _, _, _, _, _⟩) (v := ?vb8) rfl (by kernel_rfl) (by kernel_rfl) (by kernel_rfl) (fun _ _ _ h => h) (Or.inl ⟨by rfl, ?hb8⟩) ⟨k1, boxcells k1, k2⟩ ?rb8
      case hb8 => (intro w' hSw; (try dsimp only at hSw); go_simp; (try with_reducible rfl))
      try simp only [Act.put, List.setIfInBounds_toArray, List.set_cons_zero, List.set_cons_succ]
      refine wpAnyH_take (i := 9) (oi := ⟨some 48, _, _, _, _, _⟩) (v := ?vb9) rfl (by kernel_rfl) (by kernel_rfl) (by kernel_rfl) (fun _ _ _ h => h) (Or.inl ⟨by rfl, ?hb9⟩) ⟨k1, boxcells k1, k2⟩ ?rb9
      case hb9 => (intro w' hSw; (try dsimp only at hSw); go_simp; (try with_reducible rfl))
      try simp only [Act.put, List.setIfInBounds_toArray, List.set_cons_zero, List.set_cons_succ]
      refine wpAnyH_ready (rs := [10]) (by kernel_rfl) (by simp) ?_
      refine AllReadyH.cons (o := ⟨some 12, _, _, _, _, _⟩) rfl (fun K' hK' => ?_) AllReadyH.nil
      go_simp
      refine hK'.out _ _ ⟨k1, boxcells k1, k2⟩ (fun _ => ?_)
      clear hK' K'
      try simp only [Act.put, List.setIfInBounds_toArray, List.set_cons_zero, List.set_cons_succ]
      refine wpAnyH_done (by kernel_rfl) ?_ _
      have j3 := (hrow.drew.below hx5 lg).free q0
      have hrz := ((hrow.drew.below hx5 lg).set iqn0 0).congr (h' := fun i => nn s f o js q0 q k i) (fun i hi => by
        unfold nn
        by_cases e : i = q0
        · rw [if_pos e, if_pos (by omega)]
        · rw [if_neg e, if_neg (by omega)])
      have j1 := k1.setCell (p := ⟨g, q0, none⟩) (by simp; omega) (.int .i64 0)
      have j2 := boxcells j1
      have lg5 : w.heap.size < w5.heap.size := by have := k1.size; simp at this; omega
      try simp only [e1, e2]
      clear e1 e2 u1 bc k1 k2 hB
      go_wp2_with (at_make; refine wpList_make_full _ rfl _ _ 26 rfl (w.heap.size + 1) 3 i0 _ 1 Try.underlying26 hi hz0 hz1 _ _ _ _ n rfl rfl rfl rfl (by rw [hz2]; omega) (by unfold maxLen; omega) (by simp; omega) ?_; intro w1 hown hgrow)
      have hnew := madeI hown rfl
      have hrow1 := hrz.grown hgrow (by simp)
      have hB1 : Below (w.heap.size + 1) (w.alloc (.cells #[.int .i64 s, .int .i64 f, .int .i64 o, .slice A js.length c] 31)) w1 := j1.grown hgrow (by simp; omega) (fun k e => by cases e)
      have lg1 : g < w5.heap.size := by have := hrz.lt; simpa using this
      simp only [World.size_setCell] at hnew
      clear hown hgrow hrow hrz j1 j2 j3 lg hsw
      generalize hg2 : w5.heap.size = g2 at *
      have hg2n : w.heap.size + 1 ≤ g2 := by omega
      go_loopw [67, 15, 16, 17] (fun i _ _ _ wi => ∃ m : Nat, m ≤ n ∧ i = .int .i64 m ∧ RowI wi g 3 n (fun i => nn s f o js q0 q k i) ∧ RowI wi g2 3 n (fun x => sumTo (fun i => nn s f o js q0 q k i * facesTo s o js i x f.toNat) m) ∧ Below (w.heap.size + 1) (w.alloc (.cells #[.int .i64 s, .int .i64 f, .int .i64 o, .slice A js.length c] 31)) wi) (fun i _ _ _ _ => n - (intOf i).toNat)
      case atStart => exact ⟨0, Nat.zero_le _, rfl, hrow1, hnew, hB1⟩
      case round =>
        clear hrow1 hnew hB1
        obtain ⟨m, hm, rfl, hrow, hnew, hB⟩ := hrel
        have bc := boxcells hB
        have hsw := hB.size
        simp only [World.size_alloc] at hsw
        by_cases hlm : m < n
        · have hlm' : (m : Int) < (n : Int) := by omega
          have d1 := hrow.cell hlm
          have hmn : m < nsq s := by rw [← HN.out]; exact hlm
          clear bc
          by_cases hv : 0 < nn s f o js q0 q k m
          · go_wp2
            clear d1
            go_loopw [17] (fun fc wi => ∃ j : Nat, j ≤ f.toNat ∧ fc = .int .i64 ((j : Int) + 1) ∧ RowI wi g 3 n (fun i => nn s f o js q0 q k i) ∧ RowI wi g2 3 n (fun x => sumTo (fun i => nn s f o js q0 q k i * facesTo s o js i x f.toNat) m + nn s f o js q0 q k m * facesTo s o js m x j) ∧ Below (w.heap.size + 1) (w.alloc (.cells #[.int .i64 s, .int .i64 f, .int .i64 o, .slice A js.length c] 31)) wi) (fun fc _ => f.toNat + 1 - (intOf fc).toNat)
            case atStart => exact ⟨0, Nat.zero_le _, rfl, hrow, hnew.congr (fun x _ => by simp [facesTo]), hB⟩
            case round =>
              clear hrow hnew hB hsw
              obtain ⟨j, hj', rfl, hrow, hnew, hB⟩ := hrel
              have bc := boxcells hB
              have hsw := hB.size
              simp only [World.size_alloc] at hsw
              by_cases hlj : j < f.toNat
              · have h4 : (j : Int) + 1 ≤ f := by omega
                have hm0 : (0 : Int) ≤ (m : Int) := by omega
                have hms : (m : Int) ≤ s := by omega
                have hY := thrown_in (o := o) (asked_good HA.out) hm0 hms (show (1 : Int) ≤ (j : Int) + 1 by omega)
                have p1 := un_part (asked_good HA.out) (asked_on HA.out) (fun i => nn s f o js q0 q k i) k (fun i => nn_in _ _ _ _ _ _ _ _) hmn (Nat.le_of_lt hlj) (thrown s o js m ((j : Int) + 1))
                have p2 := un_part (asked_good HA.out) (asked_on HA.out) (fun i => nn s f o js q0 q k i) k (fun i => nn_in _ _ _ _ _ _ _ _) hmn (j := j + 1) hlj (thrown s o js m ((j : Int) + 1))
                rw [facesTo_succ, if_pos rfl, Int.mul_add, Int.mul_one] at p2
                have hp := pow_lt63 hz.2.1.1 hz.2.1.2 (show k + 1 ≤ 20 by omega)
                have hp0 : 0 ≤ nn s f o js q0 q k m := (nn_in _ _ _ _ _ _ _ _).1
                have hset : ∀ wi, RowI wi g2 3 n (fun x => sumTo (fun i => nn s f o js q0 q k i * facesTo s o js i x f.toNat) m + nn s f o js q0 q k m * facesTo s o js m x j) → ∃ V : Int, wi.cell? ⟨g2, (thrown s o js m ((j : Int) + 1)).toNat, none⟩ = some (.int .i64 V) ∧ wi.frozen? ⟨g2, (thrown s o js m ((j : Int) + 1)).toNat, none⟩ = false ∧ IntKind.i64.wrap (V + nn s f o js q0 q k m) = V + nn s f o js q0 q k m ∧
                    RowI (wi.setCell ⟨g2, (thrown s o js m ((j : Int) + 1)).toNat, none⟩ (.int .i64 (V + nn s f o js q0 q k m))) g2 3 n (fun x => sumTo (fun i => nn s f o js q0 q k i * facesTo s o js i x f.toNat) m + nn s f o js q0 q k m * facesTo s o js m x (j + 1)) := fun wi h => by
                  have ec : (((thrown s o js m ((j : Int) + 1)).toNat : Nat) : Int) = thrown s o js m ((j : Int) + 1) := by omega
                  have hlt9 : (thrown s o js m ((j : Int) + 1)).toNat < n := by omega
                  have h9 := h.cell hlt9
                  simp only [ec] at h9
                  refine ⟨_, h9, h.free _, IntWalk.i64_in _ (by omega), (h.set hlt9 _).congr (fun x hx => ?_)⟩
                  rw [facesTo_succ]
                  by_cases e : x = (thrown s o js m ((j : Int) + 1)).toNat
                  · rw [if_pos e, if_pos (by omega), e, ec, Int.mul_add, Int.mul_one]; omega
                  · rw [if_neg e, if_neg (by omega), Int.add_zero]
                have i5 : 0 ≤ thrown s o js m ((j : Int) + 1) := hY.1
                have i6 : thrown s o js m ((j : Int) + 1) < (n : Int) := by omega
                have ngg : g ≠ g2 := by omega
                clear p1 p2 hp hp0 hY
                go_wp2_with (go_at_call 66; refine (sqThrow_any s f o A c m ((j : Int) + 1) js _ (hj.go ((below1 _ _).trans (hB.mono (by omega)))) hz.1.1 hz.1.2 hz.2.2.1.1 hz.2.2.1.2 hm0 hms (by omega) (by omega)).mono ?_; rintro e w5 ⟨rfl, hx5⟩; obtain ⟨V, v1, v2, v3, v4⟩ := hset w5 (hnew.below hx5 hnew.lt))
                go_roundw
                case rel => exact ⟨j + 1, hlj, by go_num, (hrow.below hx5 hrow.lt).far (by simpa using ngg) _, v4, (keepB hB (by simp <;> omega) hx5).setCell (by simp <;> omega) _⟩
                case measure => simp [intOf]; omega
              · have h4 : ¬ (j : Int) + 1 ≤ f := by omega
                obtain rfl : j = f.toNat := by omega
                go_wp2
                go_roundw
                case rel => exact ⟨m + 1, by omega, by go_num, hrow, hnew.congr (fun x _ => by rw [sumTo]), hB⟩
                case measure => simp [intOf]; omega
          · have hv0 : nn s f o js q0 q k m = 0 := by have := (nn_in s f o js q0 q k m).1; omega
            have HV := Lib.hid hv0; clear hv0
            go_wp2
            go_roundw
            case rel => exact ⟨m + 1, by omega, by go_num, hrow, hnew.congr (fun x _ => by rw [sumTo, HV.out, Int.zero_mul, Int.add_zero]), hB⟩
            case measure => simp [intOf]; omega
        · have hlm' : ¬ (m : Int) < (n : Int) := by omega
          obtain rfl : m = n := by omega
          go_wp2
          go_roundw
          case rel => exact ⟨k + 1, r, g2, by omega, by go_num, by rw [away, show t - k = r + 1 by omega], rfl, hg2n, hnew.congr (fun x _ => by rw [un_succ, ← HN.out]), hB⟩
          case measure => simp [intOf]

theorem partMet_both (s f o : Int) (js : List (Int × Int)) (sq to th : Int) : ∃ (x y : Int) (ok : Bool),
    (∀ (A : Option Addr) (c : Nat) (W : World), RJ W W.heap.size A js → Calls Try.prog 38 #[.agg #[.int .i64 s, .int .i64 f, .int .i64 o, .slice A js.length c], .int .i64 sq, .int .i64 to, .int .i64 th] W (PartIs W x y ok)) ∧
    (∀ (A : Option Addr) (c : Nat) (W : World), RJ W W.heap.size A js → Calls Try.prog 39 #[.agg #[.int .i64 s, .int .i64 f, .int .i64 o, .slice A js.length c], .int .i64 sq, .int .i64 to, .int .i64 th] W (PartIs W x y ok)) := by
  cases h : partOk s f o js sq to th
  · exact ⟨0, 0, false, fun A c W hj => specPartMet_no s f o A c sq to th js W hj h, fun A c W hj => implPartMet_no s f o A c sq to th js W hj h⟩
  · have h' := h
    simp only [partOk, Bool.and_eq_true] at h'
    obtain ⟨t, rfl⟩ := Int.eq_ofNat_of_zero_le (inB_iff.1 h'.2).1
    obtain ⟨q0, rfl⟩ := Int.eq_ofNat_of_zero_le (onSq_in h'.1.2).1
    obtain ⟨q, rfl⟩ := Int.eq_ofNat_of_zero_le (onSq_in (asked_on h'.1.1)).1
    obtain ⟨m, hm⟩ := Int.eq_ofNat_of_zero_le (mt_le (wt := q0) (asked_good h'.1.1) (asked_on h'.1.1) t).1
    have hz := good_sizes (asked_good h'.1.1)
    have hF := natpow (show 0 ≤ f by omega) t
    exact ⟨lowA m (f.toNat ^ t), lowB m (f.toNat ^ t), true, fun A c W hj => specPartMet_yes s f o A c q q0 t m _ js W hj h hm hF, fun A c W hj => implPartMet_yes s f o A c q q0 t m _ js W hj h hm hF⟩
end Go.Proofs.Ytiekdokgjdgajab

/-
  SnakeBites, the model's and the program's.
-/
import Derived.Test.YtiekdokgjdgajabC2r
import Derived.Test.YtiekdokgjdgajabC2m
namespace Go.Proofs.Ytiekdokgjdgajab
open Go.RowKit

/-- A throw leads to a snake. -/
def snB (s o : Int) (js : List (Int × Int)) (sq face : Int) : Bool := decide (jumpOf js (landed s o sq face) < landed s o sq face)
theorem snk_yes {s o : Int} {js : List (Int × Int)} {sq : Int} {k : Nat} (h : snB s o js sq ((k : Int) + 1) = true) : snk s o js sq (k + 1) = snk s o js sq k + 1 := by
  rw [snk, if_pos (by simpa [snB] using h)]
theorem snk_no {s o : Int} {js : List (Int × Int)} {sq : Int} {k : Nat} (h : snB s o js sq ((k : Int) + 1) = false) : snk s o js sq (k + 1) = snk s o js sq k := by
  rw [snk, if_neg (by simpa [snB] using h), Int.add_zero]

set_option maxHeartbeats 400000 in
theorem snakesFrom_any (g : Nat) (s f o : Int) (js : List (Int × Int)) (sq : Int) (w : World) (hC : CV w g s f o (fun i => jumpOf js i)) (hs0 : 1 ≤ s) (hs : s ≤ 100) (ho0 : 0 ≤ o) (ho : o ≤ 2) (h0 : 0 ≤ sq) (h1 : sq ≤ s) (hf0 : 1 ≤ f) (hf : f ≤ 8) :
    Calls Try.prog 81 #[.pointer (some ⟨g, 0, none⟩), .int .i64 sq] w fun e w' => e = .returned (.int .i64 (snk s o js sq f.toNat)) ∧ w = w' := by
  have c1 := hC.fa
  go_enter Try.func81, Try.ntmps81
  go_wp2
  go_loop [5, 6, 7] (fun n fc _ => ∃ k : Nat, k ≤ f.toNat ∧ fc = .int .i64 ((k : Int) + 1) ∧ n = .int .i64 (snk s o js sq k)) (fun _ fc _ => f.toNat + 1 - (intOf fc).toNat)
  case atStart => exact ⟨0, Nat.zero_le _, rfl, rfl⟩
  case round =>
    obtain ⟨k, hk, rfl, rfl⟩ := hrel
    have hsn := snk_le s o js sq k
    by_cases hlt : k < f.toNat
    · have h3 : (k : Int) + 1 ≤ f := by omega
      have hL := landed_in (o := o) h0 h1 (show (1 : Int) ≤ (k : Int) + 1 by omega)
      obtain ⟨y, hy⟩ := Int.eq_ofNat_of_zero_le hL.1
      have hy1 : y < 101 := by omega
      have hyi : (y : Int) < 101 := by omega
      have cy := hC.at_ hy1
      have hB : snB s o js sq ((k : Int) + 1) = decide (jumpOf js y < (y : Int)) := by rw [snB, hy]
      have HY := Lib.hid hy; clear hy hL
      cases hP : snB s o js sq ((k : Int) + 1)
      · have t1 : ¬ jumpOf js y < (y : Int) := by rw [hP] at hB; simpa using hB.symm
        have HP := Lib.hid hP; clear hP hB
        go_wp2_with (go_at_call 84; refine (lands_any _ _ _ _ _ _ _ _ hC hs0 hs ho0 ho h0 h1 (by omega) (by omega)).mono ?_; rintro e w2 ⟨rfl, rfl⟩; rw [HY.out])
        go_round
        case rel => exact ⟨k + 1, hlt, by go_num, by rw [snk_no HP.out]⟩
        case measure => simp [intOf]; omega
      · have t1 : jumpOf js y < (y : Int) := by rw [hP] at hB; simpa using hB.symm
        have HP := Lib.hid hP; clear hP hB
        go_wp2_with (go_at_call 84; refine (lands_any _ _ _ _ _ _ _ _ hC hs0 hs ho0 ho h0 h1 (by omega) (by omega)).mono ?_; rintro e w2 ⟨rfl, rfl⟩; rw [HY.out])
        go_round
        case rel => exact ⟨k + 1, hlt, by go_num, by rw [snk_yes HP.out]⟩
        case measure => simp [intOf]; omega
    · have h3 : ¬ (k : Int) + 1 ≤ f := by omega
      obtain rfl : k = f.toNat := by omega
      go_wp2
      go_ret
      exact ⟨rfl, rfl⟩

theorem bgot_start (s f o : Int) (js : List (Int × Int)) (c : Int → Bool → Int) : bgot s f o js c (fun i m => c i m != 0) = 0 := by
  unfold bgot
  rw [sumTo_congr (G := fun _ => 0) _ fun i _ => ?_, sumTo_zero]
  by_cases h1 : c i false = 0 <;> by_cases h2 : c i true = 0 <;> simp [h1, h2]
theorem bgot_strike (s f o : Int) (js : List (Int × Int)) (c : Int → Bool → Int) {left : Int → Bool → Bool} {q : Nat} {m : Bool} (hq : q < 101) (hl : left q m = true) : bgot s f o js c (strike left q m) = bgot s f o js c left + c q m * snk s o js q f.toNat := by
  unfold bgot
  rw [sumTo_at (F := fun i => snk s o js i f.toNat * ((if left i false then 0 else c i false) + (if left i true then 0 else c i true))) (k := q) 101 hq fun i _ hne => by rw [strike_other (.inl (by omega)), strike_other (.inl (by omega))]]
  cases m
  · rw [strike_same, strike_other (m := true) (.inr (by simp)), hl]
    simp [Int.mul_comm, Int.add_mul]
  · rw [strike_same, strike_other (m := false) (.inr (by simp)), hl]
    simp [Int.mul_comm, Int.add_mul]; omega
theorem bgot_end {s f o : Int} {js : List (Int × Int)} (hg : good ⟨s, f, o, js⟩ = true) {sq : Int} (hq : onSq s js sq = true) (t : Nat) (left : Int → Bool → Bool) (hl : ∀ i m, left i m = false) : bgot s f o js (ct s f o js s sq t) left = nb s f o js sq t := by
  have hz := good_sizes hg
  unfold bgot nb
  rw [sumTo_ext (show nsq s ≤ 101 by unfold nsq; omega) fun i h1 _ => ?_]
  · refine sumTo_congr _ fun i _ => ?_
    rw [hl, hl, ← ct_pl s f o js s]; simp
  · have h : pl s f o js sq t i = 0 := by
      by_cases h : pl s f o js sq t i = 0
      · exact h
      · have := pl_on hg hq t i h
        unfold nsq at h1; omega
    have h2 := ct_pl s f o js s sq t i
    rw [hl, hl]
    simp only [Bool.false_eq_true, if_false]
    rw [h2, h, Int.mul_zero]
theorem bgot_le (s f o : Int) (js : List (Int × Int)) {c : Int → Bool → Int} (h : ∀ q m, 0 ≤ c q m) (left : Int → Bool → Bool) : 0 ≤ bgot s f o js c left ∧ bgot s f o js c left ≤ bgot s f o js c (fun _ _ => false) := by
  unfold bgot
  constructor
  · refine sumTo_nonneg _ fun i _ => Int.mul_nonneg (snk_le _ _ _ _ _).1 ?_
    have h1 := h i false
    have h2 := h i true
    cases left i false <;> cases left i true <;> simp <;> omega
  · refine sumTo_le _ fun i _ => Int.mul_le_mul_of_nonneg_left ?_ (snk_le _ _ _ _ _).1
    have h1 := h i false
    have h2 := h i true
    cases left i false <;> cases left i true <;> simp <;> omega

set_option maxRecDepth 100000 in
set_option maxHeartbeats 1000000 in
theorem bites_any (g bl : Nat) (s f o : Int) (js : List (Int × Int)) (sq : Int) (t : Nat) (al : Int) (bb : Option Nat) (w : World) (hW : WA w g s f o (fun i => jumpOf js i) s al (some bl) bb) (hL : SW w bl (ct s f o js s sq t)) (hg : good ⟨s, f, o, js⟩ = true) (hq : onSq s js sq = true) (ht : t ≤ 16) :
    Calls Try.prog 71 #[.pointer (some ⟨g, 0, none⟩)] w fun e w' => e = .returned (.int .i64 (nb s f o js sq t)) ∧ Below w.heap.size w w' := by
  have lg := heap_lt hW
  have ll := hL.lt
  have hz := good_sizes hg
  have hnb := nb_le hg hq t
  have hp := pow_lt48 hz.2.1.1 hz.2.1.2 ht
  have hb1 : nb s f o js sq t ≤ 2251799813685248 := by
    have := Int.mul_le_mul_of_nonneg_right hz.2.1.2 (show 0 ≤ f ^ t by omega)
    omega
  have hend := bgot_end hg hq t
  have hall : bgot s f o js (ct s f o js s sq t) (fun _ _ => false) ≤ 2251799813685248 := by rw [hend _ fun _ _ => rfl]; exact hb1
  have c6 : w.cell? ⟨g, 106, none⟩ = some (.map (some bl)) := (cell_of_row _ _ _ _ _ _ hW).trans (wlk_106 _ _ _ _ _ _ _ _)
  have hcn : ∀ q m, 0 ≤ ct s f o js s sq t q m := fun q m => ct_nonneg _ _ _ _ _ _ _ _ _
  obtain ⟨cc, hcc⟩ : ∃ cc, cc = ct s f o js s sq t := ⟨_, rfl⟩
  rw [← hcc] at hL hend hall hcn
  have hon : ∀ q m, cc q m ≠ 0 → 0 ≤ q ∧ q ≤ s := fun q m h => by rw [hcc] at h; have := ct_on hg hq t q m h; exact ⟨this.1, this.2.1⟩
  have HCN := Lib.hid hcn; have HEND := Lib.hid hend; have HON := Lib.hid hon; have HALL := Lib.hid hall
  clear hg hq hnb hp hb1 hend hall hcn hcc hon
  go_enter Try.func71, Try.ntmps71
  go_wp2_with (first | (at_range; refine SM.range spotKey rfl _ 55 rfl mapU hL rfl ?_; intro w0 cnt0 hrg0 hg0 hs0) | go_in)
  go_frame
  have hB0 : Below w.heap.size w w0 := (Below.refl _ _).grown hg0 (Nat.le_refl _) (fun k e => by cases e)
  have hW0 : WA w0 g s f o (fun i => jumpOf js i) s al (some bl) bb := (hg0.block _ lg (by simp)).trans hW
  have lgl : bl < w0.heap.size := hrg0.lt.1
  clear c6 hL hg0 hW
  go_loopw [3, 5] (fun L _ wr => ∃ left cnt, L = .int .i64 (bgot s f o js cc left) ∧ RW wr bl w.heap.size cc left cnt ∧ WA wr g s f o (fun i => jumpOf js i) s al (some bl) bb ∧ (∀ i m, left i m = true → cc i m ≠ 0) ∧ w.heap.size < wr.heap.size ∧ Below w.heap.size w wr) (fun _ _ wr => wr.rangeLeft bl w.heap.size)
  case atStart => exact ⟨_, cnt0, by rw [bgot_start], hrg0, hW0, fun i m h => by simpa using h, by omega, hB0⟩
  case round =>
    clear hrg0 hB0 hs0 lgl hW0
    obtain ⟨left, cnt, rfl, hrg, hW, hlc, hsz, hB⟩ := hrel
    go_wp2_with (first | (at_next; refine RS.next spotKey rfl _ rfl intU hrg rfl ?_ ?_) | go_in)
    · intro hdone
      have hall : ∀ i m, left i m = false := fun i m => by
        cases h : left i m
        · rfl
        · have h1 := (hrg.owns).1 i m (hlc i m h)
          rw [hdone i m (wfi_of (by omega) (by omega))] at h; cases h
      have HM := Lib.hid (HEND.out left hall)
      clear hall hdone hrg hlc hW
      go_wp2
      go_ret
      exact ⟨ret_int HM.out, hB⟩
    · rintro ⟨q, m⟩ w1 cnt1 hlq hcq h0 h1 hrg1 hlt hg1 hs1 hen
      dsimp only at hlq hcq h0 h1 hrg1 hen ⊢
      have hqs := (HON.out q m hcq).2
      obtain ⟨k, rfl⟩ := Int.eq_ofNat_of_zero_le h0
      have hk : k < 101 := by omega
      have hW1 : WA w1 g s f o (fun i => jumpOf js i) s al (some bl) bb := (hg1.block _ (by omega) (by simp; omega)).trans hW
      have hB1 : Below w.heap.size w w1 := hB.grown hg1 (by omega) (fun j e => by cases e; omega)
      have hme := hrg.left_eq
      have hWR : w.heap.size < w1.heap.size := by omega
      have lg1 : g < w1.heap.size := heap_lt hW1
      have ps := bgot_strike s f o js cc hk hlq
      have p1 := bgot_le s f o js HCN.out left
      have p2 := bgot_le s f o js HCN.out (strike left k m)
      have p3 := Int.mul_nonneg (HCN.out k m) (snk_le s o js k f.toNat).1
      have p4 := HALL.out
      have e1 : IntKind.i64.wrap (cc k m * snk s o js k f.toNat) = cc k m * snk s o js k f.toNat := IntWalk.i64_in _ (by omega)
      have e2 : IntKind.i64.wrap (bgot s f o js cc left + cc k m * snk s o js k f.toNat) = bgot s f o js cc (strike left k m) := by rw [ps]; exact IntWalk.i64_in _ (by omega)
      clear hrg hB hs1 hW ps p1 p2 p3 p4
      simp only [spotV] at hen ⊢
      have hWa : WA (w1.alloc (.cells #[.int .i64 k, .bool m] 82)) g s f o (fun i => jumpOf js i) s al (some bl) bb := (Below.heap_alloc _ _ _ lg1).trans hW1
      have hF : ∀ i, (w1.alloc (.cells #[.int .i64 k, .bool m] 82)).drew.cell? ⟨w1.heap.size, i, none⟩ = #[Value.int .i64 k, .bool m][i]? := fun i => cell_of_row (World.drew _) _ _ _ _ _ (heap_alloc_at _ _ _ rfl)
      have hcv := hWa.cv
      go_wp2_with fail
      refine wp_region_held_drew (S := (fun w' => ∀ i, w'.cell? ⟨w1.heap.size, i, none⟩ = #[Value.int .i64 k, .bool m][i]?)) (by kernel_rfl) hF (fun hS => ?_)
      refine wpAnyH_take (i := 0) (oi := ⟨some 16, _, _, _, _, _⟩) (v := ?va1) rfl (by kernel_rfl) (by kernel_rfl) (by kernel_rfl) (fun _ _ _ h => h) (Or.inl ⟨by rfl, ?ha1⟩) hS ?ra1
      case ha1 => (intro w' hSw; (try dsimp only at hSw); go_simp; (try with_reducible rfl))
      try simp only [Act.put, List.setIfInBounds_toArray, List.set_cons_zero, List.set_cons_succ]
      refine wpAnyH_take (i := 1) (oi := ⟨some 17, _, _, _, _, _⟩) (v := ?va2) rfl (by kernel_rfl) (by kernel_rfl) (by kernel_rfl) (fun _ _ _ h => h) (Or.inl ⟨by rfl, ?ha2⟩) hS ?ra2
      case ha2 => (intro w' hSw; (try dsimp only at hSw); go_simp; (try with_reducible rfl))
      try simp only [Act.put, List.setIfInBounds_toArray, List.set_cons_zero, List.set_cons_succ]
      refine wpAnyH_take (i := 2) (oi := ⟨some 18, _, _, _, _, _⟩) (v := ?va3) rfl (by kernel_rfl) (by kernel_rfl) (by kernel_rfl) (fun _ _ _ h => h) (Or.inl ⟨by rfl, ?ha3⟩) hS ?ra3
      case ha3 => (intro w' hSw; (try dsimp only at hSw); go_simp; (try with_reducible rfl))
      try simp only [Act.put, List.setIfInBounds_toArray, List.set_cons_zero, List.set_cons_succ]
      refine wpAnyH_take (i := 3) (oi := ⟨some 19, _, _, _, _, _⟩) (v := ?va4) rfl (by kernel_rfl) (by kernel_rfl) (by kernel_rfl) (fun _ _ _ h => h) (Or.inl ⟨by rfl, ?ha4⟩) hS ?ra4
      case ha4 => (intro w' hSw; (try dsimp only at hSw); go_simp; (try with_reducible rfl))
      try simp only [Act.put, List.setIfInBounds_toArray, List.set_cons_zero, List.set_cons_succ]
      refine wpAnyH_take (i := 4) (oi := ⟨some 20, _, _, _, _, _⟩) (v := ?va5) rfl (by kernel_rfl) (by kernel_rfl) (by kernel_rfl) (fun _ _ _ h => h) (Or.inl ⟨by rfl, ?ha5⟩) hS ?ra5
      case ha5 => (intro w' hSw; (try dsimp only at hSw); go_simp; (try with_reducible rfl))
      try simp only [Act.put, List.setIfInBounds_toArray, List.set_cons_zero, List.set_cons_succ]
      refine wpAnyH_take (i := 5) (oi := ⟨some 21, _, _, _, _, _⟩) (v := ?va6) rfl (by kernel_rfl) (by kernel_rfl) (by kernel_rfl) (fun _ _ _ h => h) (Or.inl ⟨by rfl, ?ha6⟩) hS ?ra6
      case ha6 => (intro w' hSw; (try dsimp only at hSw); go_simp; (try with_reducible rfl))
      try simp only [Act.put, List.setIfInBounds_toArray, List.set_cons_zero, List.set_cons_succ]
      refine wpAnyH_take (i := 6) (oi := ⟨some 22, _, _, _, _, _⟩) (v := ?va7) rfl (by kernel_rfl) (by kernel_rfl) (by kernel_rfl) (fun _ _ _ h => h) (Or.inl ⟨by rfl, ?ha7⟩) hS ?ra7
      case ha7 => (intro w' hSw; (try dsimp only at hSw); go_simp; (try with_reducible rfl))
      try simp only [Act.put, List.setIfInBounds_toArray, List.set_cons_zero, List.set_cons_succ]
      refine wpAnyH_ready (rs := [7]) (by kernel_rfl) (by simp) ?_
      refine AllReadyH.cons (o := ⟨some 23, _, _, _, _, _⟩) rfl (fun K' hK' => ?_) AllReadyH.nil
      go_simp
      go_at_call 81
      refine (snakesFrom_any _ _ _ _ _ _ _ (hcv.drewN 1) hz.1.1 hz.1.2 hz.2.2.1.1 hz.2.2.1.2 h0 hqs hz.2.1.1 hz.2.1.2).mono ?_
      rintro e w6 ⟨rfl, rfl⟩
      refine hK'.out _ _ hF (fun _ => ?_)
      clear hK' K'
      try simp only [Act.put, List.setIfInBounds_toArray, List.set_cons_zero, List.set_cons_succ]
      refine wpAnyH_take (i := 8) (oi := ⟨some 24, _, _, _, _, _⟩) (v := ?va8) rfl (by kernel_rfl) (by kernel_rfl) (by kernel_rfl) (fun _ _ _ h => h) (Or.inl ⟨by rfl, ?ha8⟩) hF ?ra8
      case ha8 => (intro w' hSw; (try dsimp only at hSw); go_simp; (try with_reducible rfl))
      try simp only [Act.put, List.setIfInBounds_toArray, List.set_cons_zero, List.set_cons_succ]
      refine wpAnyH_take (i := 9) (oi := ⟨some 25, _, _, _, _, _⟩) (v := ?va9) rfl (by kernel_rfl) (by kernel_rfl) (by kernel_rfl) (fun _ _ _ h => h) (Or.inl ⟨by rfl, ?ha9⟩) hF ?ra9
      case ha9 => (intro w' hSw; (try dsimp only at hSw); go_simp; (try with_reducible rfl))
      try simp only [Act.put, List.setIfInBounds_toArray, List.set_cons_zero, List.set_cons_succ]
      refine wpAnyH_ready (rs := [10]) (by kernel_rfl) (by simp) ?_
      refine AllReadyH.cons (o := ⟨some 3, _, _, _, _, _⟩) rfl (fun K' hK' => ?_) AllReadyH.nil
      go_simp
      refine hK'.out _ _ hF (fun _ => ?_)
      clear hK' K'
      try simp only [Act.put, List.setIfInBounds_toArray, List.set_cons_zero, List.set_cons_succ]
      refine wpAnyH_done (by kernel_rfl) ?_ _
      try simp only [e1, e2]
      go_wp2
      go_roundw
      case rel => exact ⟨strike left k m, cnt1, rfl, (hrg1.alloc _).keep rfl rfl, hWa, fun i b hs => hlc i b (by unfold strike at hs; rw [Bool.and_eq_true] at hs; exact hs.1), by simp; omega, (hB1.alloc (by omega) _).drew⟩
      case measure =>
        have := (hrg1.alloc (.cells #[.int .i64 k, .bool m] 82)).left_eq
        rw [hme]
        show (World.rangeLeft (w1.alloc (.cells #[.int .i64 k, .bool m] 82)) bl w.heap.size) < cnt
        rw [this]; exact hlt
set_option maxRecDepth 100000 in
set_option maxHeartbeats 1000000 in
theorem implSnakeBites_no (s f o : Int) (A : Option Addr) (c : Nat) (sq th : Int) (js : List (Int × Int)) (w : World) (hj : RJ w w.heap.size A js) (hno : (asked s f o js sq && inB th 0 16) = false) :
    Calls Try.prog 43 #[.agg #[.int .i64 s, .int .i64 f, .int .i64 o, .slice A js.length c], .int .i64 sq, .int .i64 th] w (PartIs w 0 0 false) := by
  have hl := hj.1
  cases ha : asked s f o js sq
  · have hn : (asked s f o js sq && decide (0 ≤ (0 : Int)) && decide ((0 : Int) ≤ 16)) = false := by rw [ha]; rfl
    have hst := fun w => storeWalk 0 0 0 (fun _ => 0) 0 0 none none w
    have HN := Lib.hid hn; clear ha hno hn
    go_enter Try.func43, Try.ntmps43
    go_wp2_with (go_at_call 50; refine (walkHome_no _ _ _ _ _ _ _ _ _ _ (hj.go (below1 _ _)) HN.out).mono ?_; rintro e w2 ⟨rfl, hx⟩)
    exact bodyPost_ret (v := .tuple #[.int .i64 0, .int .i64 0, .bool false]) (by simp [results, Try.results43]) rfl
      ⟨rfl, ((below1 _ _).trans (hx.mono (by simp))).alloc (by have := hx.size; simp at this; omega) _⟩
  · rw [ha, Bool.true_and] at hno
    have hib := inB_false.1 hno
    have HA := Lib.hid ha
    have hst : ∀ (x y : Option Nat) (w : World), (storeCells ⟨w.heap.size, 0, none⟩ (wlkCells s f o (fun i => jumpOf js i) s 1 x y).toList 0).run Try.prog (w.alloc (.cells Try.zeroCells57 57)) = .ok () (w.alloc (.cells (wlkCells s f o (fun i => jumpOf js i) s 1 x y) 57)) := fun x y w => storeWalk _ _ _ _ _ _ _ _ w
    clear ha hno
    rcases hib with hib | hib
    · go_enter Try.func43, Try.ntmps43
      go_wp2_with fail
      refine (walkHome_yes _ _ _ _ _ _ _ 0 _ _ (hj.go (below1 _ _)) HA.out (by omega) (by omega)).mono ?_
      rintro e w1 ⟨bl, bb, rfl, l0, b0, hne, l1, b1, hL, hE, hx⟩
      rw [Int.pow_zero]
      have HNE := Lib.hid hne; clear hne hL hE
      go_wp2
      exact bodyPost_ret (v := .tuple #[.int .i64 0, .int .i64 0, .bool false]) (by simp [results, Try.results43]) rfl
        ⟨rfl, ((below1 _ _).trans (hx.mono (by simp))).alloc (by have := hx.size; simp at this; omega) _⟩
    · have hib2 : ¬ th < 0 := by omega
      go_enter Try.func43, Try.ntmps43
      go_wp2_with fail
      refine (walkHome_yes _ _ _ _ _ _ _ 0 _ _ (hj.go (below1 _ _)) HA.out (by omega) (by omega)).mono ?_
      rintro e w1 ⟨bl, bb, rfl, l0, b0, hne, l1, b1, hL, hE, hx⟩
      rw [Int.pow_zero]
      have HNE := Lib.hid hne; clear hne hL hE
      go_wp2
      exact bodyPost_ret (v := .tuple #[.int .i64 0, .int .i64 0, .bool false]) (by simp [results, Try.results43]) rfl
        ⟨rfl, ((below1 _ _).trans (hx.mono (by simp))).alloc (by have := hx.size; simp at this; omega) _⟩

theorem bt_lt {s f o : Int} {js : List (Int × Int)} (hg : good ⟨s, f, o, js⟩ = true) {sq : Int} (hq : onSq s js sq = true) {k : Nat} (hk : k ≤ 16) : 0 ≤ bt s f o js sq k ∧ bt s f o js sq k ≤ 4503599627370496 := by
  have hz := good_sizes hg
  have h1 := bt_le hg hq k
  have h2 := pow_lt48 hz.2.1.1 hz.2.1.2 hk
  have h3 := Int.mul_le_mul_of_nonneg_right (show (k : Int) ≤ 16 by omega) (show 0 ≤ f ^ k by omega)
  exact ⟨h1.1, by omega⟩

set_option maxRecDepth 100000 in
set_option maxHeartbeats 1000000 in
theorem implSnakeBites_yes (s f o : Int) (A : Option Addr) (c : Nat) (sq : Int) (t F S : Nat) (js : List (Int × Int)) (w : World) (hj : RJ w w.heap.size A js) (ha : asked s f o js sq = true) (ht : t ≤ 16) (hF : f ^ t = (F : Int)) (hS : bt s f o js sq t = (S : Int)) :
    Calls Try.prog 43 #[.agg #[.int .i64 s, .int .i64 f, .int .i64 o, .slice A js.length c], .int .i64 sq, .int .i64 t] w (PartIs w (lowA S F) (lowB S F) true) := by
  have hl := hj.1
  have hz := good_sizes (asked_good ha)
  have hp := pow_lt48 hz.2.1.1 hz.2.1.2 ht
  have hb := bt_lt (asked_good ha) (asked_on ha) ht
  have hF1 : F ≤ 1152921504606846976 := by omega
  have hF2 : 1 ≤ F := by omega
  have hS1 : S ≤ 1152921504606846976 := by omega
  have HA := Lib.hid ha; have HF := Lib.hid hF; have HS := Lib.hid hS
  clear ha hF hS hp hb
  have g1 : ¬ (t : Int) < 0 := by omega
  have g2 : ¬ (16 : Int) < (t : Int) := by omega
  have hst : ∀ (x y : Option Nat) (w : World), (storeCells ⟨w.heap.size, 0, none⟩ (wlkCells s f o (fun i => jumpOf js i) s 1 x y).toList 0).run Try.prog (w.alloc (.cells Try.zeroCells57 57)) = .ok () (w.alloc (.cells (wlkCells s f o (fun i => jumpOf js i) s 1 x y) 57)) := fun x y w => storeWalk _ _ _ _ _ _ _ _ w
  go_enter Try.func43, Try.ntmps43
  go_wp2_with fail
  refine (walkHome_yes _ _ _ _ _ _ _ 0 _ _ (hj.go (below1 _ _)) HA.out (by omega) (by omega)).mono ?_
  rintro e w1 ⟨bl, bb, rfl, l0, b0, hne, l1, b1, hL, hE, hx⟩
  rw [Int.pow_zero]
  have hs1 := hx.size
  simp only [World.size_alloc] at l0 b0 hs1
  have HNE := Lib.hid hne; clear hne
  have hW : WA (w1.alloc (.cells (wlkCells s f o (fun i => jumpOf js i) s 1 (some bl) (some bb)) 57)) w1.heap.size s f o (fun i => jumpOf js i) s (f ^ 0) (some bl) (some bb) := by rw [Int.pow_zero]; exact heap_alloc_at _ _ _ rfl
  have hL1 := hL.alloc (.cells (wlkCells s f o (fun i => jumpOf js i) s 1 (some bl) (some bb)) 57)
  have hE1 := hE.alloc (.cells (wlkCells s f o (fun i => jumpOf js i) s 1 (some bl) (some bb)) 57)
  have hbox := (box_on (Below.refl _ _) hx (by simp)).alloc (by omega) (.cells (wlkCells s f o (fun i => jumpOf js i) s 1 (some bl) (some bb)) 57)
  clear hL hE hx
  go_wp2_with fail
  clear hst
  go_loopw [11, 31] (fun n i wr => ∃ (k l b : Nat), k ≤ t ∧ i = .int .i64 k ∧ n = .int .i64 (bt s f o js sq k) ∧ WA wr w1.heap.size s f o (fun i => jumpOf js i) s (f ^ k) (some l) (some b) ∧ SW wr l (ct s f o js s sq k) ∧ SW wr b (fun _ _ => 0) ∧ l ≠ b ∧ (w.heap.size + 1 ≤ l ∧ w.heap.size + 1 ≤ b) ∧
    Below (w.heap.size + 1) (w.alloc (.cells #[.int .i64 s, .int .i64 f, .int .i64 o, .slice A js.length c] 31)) wr) (fun _ i _ => t - (intOf i).toNat)
  case atStart => exact ⟨0, bl, bb, Nat.zero_le _, rfl, rfl, hW, hL1, hE1, HNE.out, ⟨l0, b0⟩, hbox⟩
  case round =>
    clear hW hL1 hE1 hbox
    obtain ⟨k, l, b, hk, rfl, rfl, hW, hL, hE, hne, hlb, hb⟩ := hrel
    have HNE2 := Lib.hid hne; clear hne
    have hwl := heap_lt hW
    have hll := hL.lt
    have hel := hE.lt
    by_cases hlt : k < t
    · have hlt' : (k : Int) < (t : Int) := by omega
      have n1 := nb_le (asked_good HA.out) (asked_on HA.out) k
      have b1 := bt_lt (asked_good HA.out) (asked_on HA.out) (show k ≤ 16 by omega)
      have b2 := bt_lt (asked_good HA.out) (asked_on HA.out) (show k + 1 ≤ 16 by omega)
      have m1 := Int.mul_nonneg b1.1 (show 0 ≤ f by omega)
      rw [bt] at b2
      have e1 : IntKind.i64.wrap (bt s f o js sq k * f) = bt s f o js sq k * f := IntWalk.i64_in _ (by omega)
      have e2 : IntKind.i64.wrap (bt s f o js sq k * f + nb s f o js sq k) = bt s f o js sq (k + 1) := by rw [bt]; exact IntWalk.i64_in _ (by omega)
      clear n1 b1 b2 m1
      have hbd := hb.drew
      have hWd : WA wr.drew w1.heap.size s f o (fun i => jumpOf js i) s (f ^ k) (some l) (some b) := hW
      have hLd : SW wr.drew l (ct s f o js s sq k) := hL.keep rfl
      have hEd : SW wr.drew b (fun _ _ => 0) := hE.keep rfl
      go_wp2_with fail
      refine wp_region_held_drew (S := (fun w' => Below (w.heap.size + 1) (w.alloc (.cells #[.int .i64 s, .int .i64 f, .int .i64 o, .slice A js.length c] 31)) w' ∧ (∀ i, w'.cell? ⟨w.heap.size, i, none⟩ = #[.int .i64 s, .int .i64 f, .int .i64 o, .slice A js.length c][i]?))) (by kernel_rfl) ⟨hbd, boxcells hbd⟩ (fun hS => ?_)
      refine wpAnyH_take (i := 0) (oi := ⟨some 33, _, _, _, _, _⟩) (v := ?va1) rfl (by kernel_rfl) (by kernel_rfl) (by kernel_rfl) (fun _ _ _ h => h) (Or.inl ⟨by rfl, ?ha1⟩) hS ?ra1
      case ha1 => (intro w' hSw; (try dsimp only at hSw); go_simp; (try with_reducible rfl))
      try simp only [Act.put, List.setIfInBounds_toArray, List.set_cons_zero, List.set_cons_succ]
      refine wpAnyH_take (i := 1) (oi := ⟨some 34, _, _, _, _, _⟩) (v := ?va2) rfl (by kernel_rfl) (by kernel_rfl) (by kernel_rfl) (fun _ _ _ h => h) (Or.inl ⟨by rfl, ?ha2⟩) hS ?ra2
      case ha2 => (intro w' hSw; (try dsimp only at hSw); go_simp; (try with_reducible rfl))
      try simp only [Act.put, List.setIfInBounds_toArray, List.set_cons_zero, List.set_cons_succ]
      refine wpAnyH_take (i := 2) (oi := ⟨some 35, _, _, _, _, _⟩) (v := ?va3) rfl (by kernel_rfl) (by kernel_rfl) (by kernel_rfl) (fun _ _ _ h => h) (Or.inl ⟨by rfl, ?ha3⟩) hS ?ra3
      case ha3 => (intro w' hSw; (try dsimp only at hSw); go_simp; (try with_reducible rfl))
      try simp only [Act.put, List.setIfInBounds_toArray, List.set_cons_zero, List.set_cons_succ]
      refine wpAnyH_take (i := 3) (oi := ⟨some 36, _, _, _, _, _⟩) (v := ?va4) rfl (by kernel_rfl) (by kernel_rfl) (by kernel_rfl) (fun _ _ _ h => h) (Or.inl ⟨by rfl, ?ha4⟩) hS ?ra4
      case ha4 => (intro w' hSw; (try dsimp only at hSw); go_simp; (try with_reducible rfl))
      try simp only [Act.put, List.setIfInBounds_toArray, List.set_cons_zero, List.set_cons_succ]
      refine wpAnyH_ready (rs := [4]) (by kernel_rfl) (by simp) ?_
      refine AllReadyH.cons (o := ⟨some 37, _, _, _, _, _⟩) rfl (fun K' hK' => ?_) AllReadyH.nil
      go_simp
      go_at_call 71
      refine (bites_any _ _ _ _ _ _ _ k _ _ _ hWd hLd (asked_good HA.out) (asked_on HA.out) (by omega)).mono ?_
      rintro e w5 ⟨rfl, hx5⟩
      have k1 := box_on hbd hx5 (by have := hbd.size; simpa using this)
      refine hK'.out _ _ ⟨k1, boxcells k1⟩ (fun _ => ?_)
      clear hK' K'
      try simp only [Act.put, List.setIfInBounds_toArray, List.set_cons_zero, List.set_cons_succ]
      refine wpAnyH_take (i := 5) (oi := ⟨some 38, _, _, _, _, _⟩) (v := ?va5) rfl (by kernel_rfl) (by kernel_rfl) (by kernel_rfl) (fun _ _ _ h => h) (Or.inl ⟨by rfl, ?ha5⟩) ⟨k1, boxcells k1⟩ ?ra5
      case ha5 => (intro w' hSw; (try dsimp only at hSw); go_simp; (try with_reducible rfl))
      try simp only [Act.put, List.setIfInBounds_toArray, List.set_cons_zero, List.set_cons_succ]
      refine wpAnyH_ready (rs := [6]) (by kernel_rfl) (by simp) ?_
      refine AllReadyH.cons (o := ⟨some 11, _, _, _, _, _⟩) rfl (fun K' hK' => ?_) AllReadyH.nil
      go_simp
      refine hK'.out _ _ ⟨k1, boxcells k1⟩ (fun _ => ?_)
      clear hK' K'
      try simp only [Act.put, List.setIfInBounds_toArray, List.set_cons_zero, List.set_cons_succ]
      refine wpAnyH_done (by kernel_rfl) ?_ _
      try simp only [e1, e2]
      have hW5 : WA w5 w1.heap.size s f o (fun i => jumpOf js i) s (f ^ k) (some l) (some b) := (hx5.block _ hwl).trans hW
      have hL5 := hLd.below hx5 hll
      have hE5 := hEd.below hx5 hel
      clear hW hL hE hWd hLd hEd hb hbd
      go_wp2_with (go_at_call 68; refine (throw_oth _ _ _ _ _ _ _ _ _ _ _ hW5 hL5 hE5 HNE2.out (asked_good HA.out) (asked_on HA.out) (by omega)).mono ?_; rintro e w6 ⟨rfl, hW6, hL6, hE6, hx6⟩)
      go_roundw
      case rel => exact ⟨k + 1, b, l, hlt, by go_num, rfl, hW6, hL6, hE6, HNE2.out.symm, ⟨hlb.2, hlb.1⟩, k1.trans (hx6.bel (heap_lt hW5) (by omega) (by omega) (by omega))⟩
      case measure => simp [intOf]; omega
    · obtain rfl : k = t := by omega
      have hlt' : ¬ (k : Int) < (k : Int) := by omega
      have hall : wr.cell? ⟨w1.heap.size, 105, none⟩ = some (.int .i64 (F : Int)) := hW.all.trans (by rw [HF.out])
      have hbs := hb.size
      simp only [World.size_alloc] at hbs
      rw [HS.out]
      clear hW hL hE
      go_wp2_with (go_at_call 57; refine (lowest_any S F _ hS1 hF1 hF2).mono ?_; rintro e w5 ⟨rfl, hx5⟩)
      exact bodyPost_ret (v := .tuple #[.int .i64 (lowA S F), .int .i64 (lowB S F), .bool true]) (by simp [results, Try.results43]) rfl
        ⟨rfl, ((below1 _ _).trans (hb.mono (by omega))).trans (hx5.mono (by omega))⟩
theorem thrown_plain (s o sq face : Int) : thrown s o [] sq face = landed s o sq face := by
  unfold thrown landed
  simp [jumpOf]
set_option maxHeartbeats 400000 in
theorem chSnake_any (s f o : Int) (A : Option Addr) (c : Nat) (sq face : Int) (js : List (Int × Int)) (w : World) (hj : RJ w w.heap.size A js) (hs0 : 1 ≤ s) (hs : s ≤ 100) (ho0 : 0 ≤ o) (ho : o ≤ 2) (h0 : 0 ≤ sq) (h1 : sq ≤ s) (hq : jumpOf js sq = sq) (hf0 : 1 ≤ face) (hf : face ≤ 8) :
    Calls Try.prog 69 #[.agg #[.int .i64 s, .int .i64 f, .int .i64 o, .slice A js.length c], .int .i64 sq, .int .i64 face] w fun e w' => e = .returned (.bool (snB s o js sq face)) ∧ Below w.heap.size w w' := by
  have hl := hj.1
  have hpl := thrown_plain s o sq face
  have hj0 : ∀ W : World, RJ W W.heap.size none [] := fun W => ⟨by simp, fun j h => by simp at h, .inl rfl⟩
  have hthr : ∀ W : World, Calls Try.prog 66 #[.agg #[.int .i64 s, .int .i64 f, .int .i64 o, .slice none 0 0], .int .i64 sq, .int .i64 face] W fun e w' => e = .returned (.int .i64 (landed s o sq face)) ∧ Below W.heap.size W w' := fun W => by
    have := sqThrow_any s f o none 0 sq face [] W (hj0 W) hs0 hs ho0 ho h0 h1 hf0 hf
    rw [hpl] at this; exact this
  have hP : snB s o js sq face = decide (jumpOf js (landed s o sq face) < landed s o sq face) := rfl
  obtain ⟨y, hy⟩ : ∃ y, landed s o sq face = y := ⟨_, rfl⟩
  rw [hy] at hP
  simp only [hy] at hthr
  have HTH := Lib.hid hthr; have HP := Lib.hid hP; have HQ := Lib.hid hq
  clear hpl hj0 hthr hP hy hq
  by_cases e : y = sq
  · subst e
    have hB : snB s o js y face = false := by rw [HP.out, HQ.out]; simp
    have HB := Lib.hid hB; clear hB
    go_enter Try.func69, Try.ntmps69
    go_wp2_with (go_at_call 66; refine (HTH.out _).mono ?_; rintro e w2 ⟨rfl, hx⟩)
    go_ret
    exact ⟨ret_bool HB.out.symm, ((below1 _ _).alloc (by simp) _).trans (hx.mono (by simp; omega))⟩
  · have e1 : (y == sq) = false := by simpa using e
    have E := Lib.hid e; clear e
    go_enter Try.func69, Try.ntmps69
    go_wp2_with fail
    refine (HTH.out _).mono ?_
    rintro e w2 ⟨rfl, hx⟩
    have hb : Below (w.heap.size + 1) (w.alloc (.cells #[.int .i64 s, .int .i64 f, .int .i64 o, .slice A js.length c] 31)) w2 := ((Below.refl _ _).alloc (by simp) _).trans (hx.mono (by simp))
    have q := boxcells hb
    have hB2 := (below1 w (.cells #[.int .i64 s, .int .i64 f, .int .i64 o, .slice A js.length c] 31)).trans (hb.mono (by omega))
    go_wp2_with (go_at_call 75; refine (sqJump_any _ _ _ _ _ _ _ _ (hj.go hB2)).mono ?_; rintro e w3 ⟨rfl, hx3⟩)
    go_ret
    exact ⟨ret_bool (by rw [HP.out]; simp [E.out]), hB2.trans (hx3.mono hB2.size)⟩
theorem sumTo_mulR (F : Nat → Int) (c : Int) (n : Nat) : sumTo F n * c = sumTo (fun i => F i * c) n := (sumTo_mul F c n).symm
/-- All snakes told by now: of the first k throws, and of the next one from the first m squares. -/
def told (s f o : Int) (js : List (Int × Int)) (sq : Int) (t k m : Nat) : Int := bt s f o js sq k * f ^ (t - k) + sumTo (fun i => snk s o js i f.toNat * pl s f o js sq k i) m * f ^ (t - k - 1)
theorem told_succ (s f o : Int) (js : List (Int × Int)) (sq : Int) (t k m : Nat) : told s f o js sq t k (m + 1) = told s f o js sq t k m + snk s o js m f.toNat * pl s f o js sq k m * f ^ (t - k - 1) := by
  unfold told
  rw [sumTo, Int.add_mul]; omega
theorem told_next (s f o : Int) (js : List (Int × Int)) (sq : Int) {t k : Nat} (hk : k < t) : told s f o js sq t k (nsq s) = bt s f o js sq (k + 1) * f ^ (t - (k + 1)) := by
  unfold told
  rw [show t - k = (t - (k + 1)) + 1 by omega, Int.pow_succ, bt, Int.add_mul, show t - (k + 1) + 1 - 1 = t - (k + 1) by omega, nb, Int.mul_comm (f ^ (t - (k + 1))) f, Int.mul_assoc]
theorem told_le {s f o : Int} {js : List (Int × Int)} (hg : good ⟨s, f, o, js⟩ = true) {sq : Int} (hq : onSq s js sq = true) {t k m : Nat} (hk : k < t) (ht : t ≤ 16) (hm : m < nsq s) :
    (0 ≤ told s f o js sq t k m ∧ told s f o js sq t k m ≤ 4503599627370496) ∧ (0 ≤ snk s o js m f.toNat * pl s f o js sq k m ∧ snk s o js m f.toNat * pl s f o js sq k m ≤ 4503599627370496) ∧ 0 ≤ snk s o js m f.toNat * pl s f o js sq k m * f ^ (t - k - 1) ∧ told s f o js sq t k (m + 1) ≤ 4503599627370496 := by
  have hz := good_sizes hg
  have hF : ∀ i : Nat, 0 ≤ (fun i : Nat => snk s o js i f.toNat * pl s f o js sq k i) i := fun i => Int.mul_nonneg (snk_le _ _ _ _ _).1 (pl_nonneg _ _ _ _ _ _ _)
  have hp := (pow_le8 hz.2.1.1 hz.2.1.2 (t - k - 1)).1
  have hp2 := (pow_le8 hz.2.1.1 hz.2.1.2 (t - k)).1
  have hp3 := (pow_le8 hz.2.1.1 hz.2.1.2 (t - (k + 1))).1
  have b1 := bt_le hg hq (k + 1)
  have b0 := bt_le hg hq k
  have n1 := nb_le hg hq k
  have pk := pow_lt48 hz.2.1.1 hz.2.1.2 (show k ≤ 16 by omega)
  have pt := pow_lt48 hz.2.1.1 hz.2.1.2 ht
  have c1 := Int.mul_nonneg b0.1 (show 0 ≤ f ^ (t - k) by omega)
  have c2 := Int.mul_nonneg (sumTo_nonneg m fun i _ => hF i) (show 0 ≤ f ^ (t - k - 1) by omega)
  have c3 := Int.mul_nonneg (hF m) (show 0 ≤ f ^ (t - k - 1) by omega)
  have d1 := sumTo_part hF (show m + 1 ≤ nsq s by omega)
  have d2 : told s f o js sq t k (m + 1) ≤ told s f o js sq t k (nsq s) := by
    have := Int.mul_le_mul_of_nonneg_right d1 (show 0 ≤ f ^ (t - k - 1) by omega)
    unfold told; omega
  rw [told_next _ _ _ _ _ hk] at d2
  have d3 : bt s f o js sq (k + 1) * f ^ (t - (k + 1)) ≤ ((k + 1 : Nat) : Int) * f ^ t := by
    have h1 := Int.mul_le_mul_of_nonneg_right b1.2 (show 0 ≤ f ^ (t - (k + 1)) by omega)
    rw [Int.mul_assoc, ← Int.pow_add, show k + 1 + (t - (k + 1)) = t by omega] at h1
    exact h1
  have d4 : ((k + 1 : Nat) : Int) * f ^ t ≤ 16 * f ^ t := Int.mul_le_mul_of_nonneg_right (by omega) (by omega)
  have d5 := told_succ s f o js sq t k m
  have d6 : snk s o js m f.toNat * pl s f o js sq k m ≤ nb s f o js sq k := sumTo_term (F := fun i => snk s o js i f.toNat * pl s f o js sq k i) (nsq s) (fun i _ => hF i) hm
  have d7 := Int.mul_le_mul_of_nonneg_right hz.2.1.2 (show 0 ≤ f ^ k by omega)
  have c0 : 0 ≤ told s f o js sq t k m := by unfold told; omega
  simp only at c3
  refine ⟨⟨c0, by omega⟩, ⟨hF m, by omega⟩, c3, by omega⟩

set_option maxRecDepth 100000 in
set_option maxHeartbeats 400000 in
theorem specSnakeBites_no (s f o : Int) (A : Option Addr) (c : Nat) (sq th : Int) (js : List (Int × Int)) (w : World) (hj : RJ w w.heap.size A js) (hno : (asked s f o js sq && inB th 0 16) = false) :
    Calls Try.prog 42 #[.agg #[.int .i64 s, .int .i64 f, .int .i64 o, .slice A js.length c], .int .i64 sq, .int .i64 th] w (PartIs w 0 0 false) := by
  have hl := hj.1
  cases ha : (asked s f o js sq && inB th 0 20)
  · have HA := Lib.hid ha; clear ha hno
    go_enter Try.func42, Try.ntmps42
    go_wp2_with (go_at_call 47; refine (chAsked_any _ _ _ _ _ _ _ _ _ (hj.go (below1 _ _))).mono ?_; rintro e w2 ⟨rfl, hx⟩; rw [HA.out])
    exact bodyPost_ret (v := .tuple #[.int .i64 0, .int .i64 0, .bool false]) (by simp [results, Try.results42]) rfl
      ⟨rfl, (below1 _ _).trans (hx.mono (by simp))⟩
  · have ha1 := ha
    rw [Bool.and_eq_true] at ha1
    rw [ha1.1, Bool.true_and] at hno
    have h16 := in16 ha1.2 hno
    have HA := Lib.hid ha; clear ha hno ha1
    go_enter Try.func42, Try.ntmps42
    go_wp2_with (go_at_call 47; refine (chAsked_any _ _ _ _ _ _ _ _ _ (hj.go (below1 _ _))).mono ?_; rintro e w2 ⟨rfl, hx⟩; rw [HA.out])
    exact bodyPost_ret (v := .tuple #[.int .i64 0, .int .i64 0, .bool false]) (by simp [results, Try.results42]) rfl
      ⟨rfl, (below1 _ _).trans (hx.mono (by simp))⟩

set_option maxRecDepth 100000 in
set_option maxHeartbeats 2000000 in
theorem specSnakeBites_yes (s f o : Int) (A : Option Addr) (c : Nat) (sq : Int) (t F S : Nat) (js : List (Int × Int)) (w : World) (hj : RJ w w.heap.size A js) (ha : asked s f o js sq = true) (ht : t ≤ 16) (hF : f ^ t = (F : Int)) (hS : bt s f o js sq t = (S : Int)) :
    Calls Try.prog 42 #[.agg #[.int .i64 s, .int .i64 f, .int .i64 o, .slice A js.length c], .int .i64 sq, .int .i64 t] w (PartIs w (lowA S F) (lowB S F) true) := by
  have hl := hj.1
  have hz := good_sizes (asked_good ha)
  have hp := pow_lt48 hz.2.1.1 hz.2.1.2 ht
  have hb := bt_lt (asked_good ha) (asked_on ha) ht
  have hF1 : F ≤ 281474976710656 := by omega
  have hF2 : 1 ≤ F := by omega
  have hF3 : (0 : Int) < (F : Int) := by omega
  have hF4 : (F : Int) ≠ 0 := by omega
  have hSb : S ≤ 28147497671065600 := by omega
  have hlow := low_whole hF2 (show S ≤ 1152921504606846976 by omega) (show F ≤ 1152921504606846976 by omega)
  have hrS := Nat.mod_lt S (show 0 < F by omega)
  obtain ⟨q, hq⟩ : ∃ q, S / F = q := ⟨_, rfl⟩
  obtain ⟨r, hr⟩ : ∃ r, S % F = r := ⟨_, rfl⟩
  rw [hq, hr] at hlow
  rw [hr] at hrS
  have hlowCall : ∀ W : World, Calls Try.prog 70 #[.int .i64 r, .int .i64 F] W fun e w' => e = .returned (.tuple #[.int .i64 (lowA r F), .int .i64 (lowB r F)]) ∧ Below W.heap.size W w' := fun W => chLow_any r F W (by omega) (by omega) hF2
  obtain ⟨la, hla⟩ : ∃ la, lowA r F = la := ⟨_, rfl⟩
  obtain ⟨lb, hlb⟩ : ∃ lb, lowB r F = lb := ⟨_, rfl⟩
  obtain ⟨ra, hra⟩ : ∃ ra, lowA S F = ra := ⟨_, rfl⟩
  rw [← hlow.1, hra, hlb]
  rw [hla, hlb, hra] at hlow
  simp only [hla, hlb] at hlowCall
  have e1 := (av_wraps q S la lb ra hlow.2.1 hlow.2.2.1 hlow.2.2.2.1 hlow.2.2.2.2 hSb).1
  have e2 := (av_wraps q S la lb ra hlow.2.1 hlow.2.2.1 hlow.2.2.2.1 hlow.2.2.2.2 hSb).2
  have HA := Lib.hid (show (asked s f o js sq && inB t 0 20) = true by rw [ha, inB_iff.2 ⟨by omega, by omega⟩]; rfl)
  have h16 : ¬ (16 : Int) < (t : Int) := by omega
  obtain ⟨n, hn⟩ : ∃ n : Nat, n = nsq s := ⟨_, rfl⟩
  have hn1 : n ≤ 101 := by rw [hn]; unfold nsq; omega
  have hns : (n : Int) = s + 1 := by rw [hn]; unfold nsq; omega
  have HA1 := Lib.hid ha; have HF := Lib.hid hF; have HS := Lib.hid hS; have HLC := Lib.hid hlowCall; have HQ := Lib.hid hq; have HR := Lib.hid hr; have HE1 := Lib.hid e1; have HE2 := Lib.hid e2; have HN := Lib.hid hn; have HNS := Lib.hid hns
  clear hns ha hF hS hp hb hlow hlowCall hq hr hla hlb hra e1 e2 hn
  go_enter Try.func42, Try.ntmps42
  go_wp2_with fail
  refine (chAsked_any _ _ _ _ _ _ _ _ _ (hj.go (below1 _ _))).mono ?_
  rintro e w3 ⟨rfl, hx⟩
  rw [HA.out]
  have hb3 := box_on (Below.refl _ _) hx (by simp)
  have q3 := boxcells hb3
  clear hx
  go_wp2_with fail
  refine (chAll_any _ _ _ _ _ _ _ _ hz.2.1.1 hz.2.1.2 (by omega)).mono ?_
  rintro e w4 ⟨rfl, hx4⟩
  rw [HF.out]
  have hb4 := box_on hb3 hx4 (by have := hb3.size; simpa using this)
  clear hx4 hb3 q3
  go_wp2_with fail
  go_loopw [9, 10, 12, 13, 14, 15, 16, 41] (fun a r i _ _ _ _ _ wr => ∃ (k T x y : Nat), k ≤ t ∧ i = .int .i64 (k : Int) ∧ bt s f o js sq k * f ^ (t - k) = (T : Int) ∧ T / F = x ∧ T % F = y ∧ a = .int .i64 (x : Int) ∧ r = .int .i64 (y : Int) ∧ Below (w.heap.size + 1) (w.alloc (.cells #[.int .i64 s, .int .i64 f, .int .i64 o, .slice A js.length c] 31)) wr) (fun _ _ i _ _ _ _ _ _ => t - (intOf i).toNat)
  case atStart => exact ⟨0, 0, 0, 0, Nat.zero_le _, rfl, by simp [bt], Nat.zero_div _, Nat.zero_mod _, rfl, rfl, hb4⟩
  case round =>
    clear hb4
    obtain ⟨k, T, x, y, hk, rfl, hT, hx, hy, rfl, rfl, hb⟩ := hrel
    have HT := Lib.hid hT; have HX := Lib.hid hx; have HY := Lib.hid hy; clear hT hx hy
    have bc := boxcells hb
    by_cases hlt : k < t
    · have h3 : (k : Int) < (t : Int) := by omega
      go_wp2_with fail
      refine (chPlaces_any _ _ _ _ _ _ k _ _ (hj.go ((below1 _ _).trans (hb.mono (by omega)))) HA1.out (by omega)).mono ?_
      rintro e w5 ⟨g, rfl, hgg, hrow, hx5⟩
      rw [← HN.out] at hrow ⊢
      have hb5 := box_on hb hx5 (by have := hb.size; simpa using this)
      have hgw : w.heap.size < g := by have := hb.size; simp at this; omega
      clear hb bc hx5 hgg
      go_wp2_with fail
      go_loopw [9, 10, 41, 13, 14, 15, 16] (fun a r i _ _ _ _ wi => ∃ (m T' x' y' : Nat), m ≤ n ∧ i = .int .i64 (m : Int) ∧ told s f o js sq t k m = (T' : Int) ∧ T' / F = x' ∧ T' % F = y' ∧ a = .int .i64 (x' : Int) ∧ r = .int .i64 (y' : Int) ∧ RowI wi g 3 n (fun i => pl s f o js sq k i) ∧ Below (w.heap.size + 1) (w.alloc (.cells #[.int .i64 s, .int .i64 f, .int .i64 o, .slice A js.length c] 31)) wi) (fun _ _ i _ _ _ _ _ => n - (intOf i).toNat)
      case atStart => exact ⟨0, T, x, y, Nat.zero_le _, rfl, by rw [← HT.out]; simp [told, sumTo], HX.out, HY.out, rfl, rfl, hrow, hb5⟩
      case round =>
        clear hrow hb5
        obtain ⟨m, T', x', y', hm, rfl, hT', hx', hy', rfl, rfl, hrow, hb⟩ := hrel
        have HT' := Lib.hid hT'; have HX' := Lib.hid hx'; have HY' := Lib.hid hy'; clear hT' hx' hy'
        by_cases hlm : m < n
        · have hlm' : (m : Int) < (n : Int) := by omega
          have d1 := hrow.cell hlm
          obtain ⟨v, hv⟩ := Int.eq_ofNat_of_zero_le (pl_nonneg s f o js sq k m)
          rw [hv] at d1
          have hmn : m < nsq s := by rw [← HN.out]; exact hlm
          have hms : (m : Int) ≤ s := by have := HNS.out; omega
          have htl := told_le (asked_good HA1.out) (asked_on HA1.out) hlt ht hmn
          have hts := told_succ s f o js sq t k m
          rw [hv] at htl hts
          rw [HT'.out] at htl hts
          have hvon : v ≠ 0 → jumpOf js m = m := fun h => (pl_on (asked_good HA1.out) (asked_on HA1.out) k m (by rw [hv]; omega)).2.2
          have HVO := Lib.hid hvon; have HTS := Lib.hid hts; have HTL := Lib.hid htl; have HV := Lib.hid hv
          clear hv hmn htl hts hvon
          go_wp2
          go_loopw [15, 16] (fun bi fc wj => ∃ j : Nat, j ≤ f.toNat ∧ fc = .int .i64 ((j : Int) + 1) ∧ bi = .int .i64 (snk s o js m j) ∧ (v = 0 → j = 0) ∧ RowI wj g 3 n (fun i => pl s f o js sq k i) ∧ Below (w.heap.size + 1) (w.alloc (.cells #[.int .i64 s, .int .i64 f, .int .i64 o, .slice A js.length c] 31)) wj) (fun _ fc _ => f.toNat + 1 - (intOf fc).toNat)
          case atStart => exact ⟨0, Nat.zero_le _, rfl, rfl, fun _ => rfl, hrow, hb⟩
          case round =>
            clear hrow hb d1
            obtain ⟨j, hjf, rfl, rfl, hv0, hrow, hb⟩ := hrel
            have bc := boxcells hb
            have hsn := snk_le s o js m j
            by_cases hvz : v = 0
            · have hj0 := hv0 hvz
              have g1 : (j : Int) + 1 ≤ f := by omega
              have g2 : ¬ (0 : Int) < (v : Int) := by omega
              have HBV : snk s o js m j * (v : Int) = snk s o js m f.toNat * (v : Int) := by rw [hvz]; simp
              clear hv0 hvz hj0
              obtain ⟨Bi, hBi⟩ : ∃ Bi, snk s o js m j = Bi := ⟨_, rfl⟩
              have hBv : Bi * (v : Int) = snk s o js m f.toNat * (v : Int) := by rw [← hBi]; first | done | exact HBV
              rw [hBi]
              obtain ⟨d, hd⟩ : ∃ d, t - k - 1 = d := ⟨_, rfl⟩
              have htl := HTL.out
              have hts := HTS.out
              rw [hd] at htl hts
              have hd20 : d ≤ 20 := by omega
              have hsub : (t : Int) - (k : Int) - 1 = (d : Int) := by omega
              obtain ⟨G, hG⟩ : ∃ G, f ^ d = G := ⟨_, rfl⟩
              rw [hG, ← hBv] at htl hts
              obtain ⟨u, hu⟩ := Int.eq_ofNat_of_zero_le htl.2.2.1
              rw [hu] at hts
              obtain ⟨W, hW⟩ : ∃ W, Bi * (v : Int) = W := ⟨_, rfl⟩
              rw [hW] at hu htl
              have hr := Nat.mod_lt T' (show 0 < F by omega)
              have hqd := Nat.div_le_self T' F
              rw [HY'.out] at hr
              rw [HX'.out] at hqd
              have hds := rest_step T' u F (by omega)
              rw [HX'.out, HY'.out] at hds
              have hr2 := Nat.div_le_self (y' + u) F
              obtain ⟨z, hz'⟩ : ∃ z, y' + u = z := ⟨_, rfl⟩
              rw [hz'] at hds hr2
              have htb : T' + u ≤ 4503599627370496 := by have := htl.2.2.2; rw [hts] at this; omega
              have e1 : IntKind.i64.wrap (Bi * (v : Int)) = W := by rw [hW]; exact IntWalk.i64_in _ (by omega)
              have e2 : IntKind.i64.wrap (W * G) = (u : Int) := by rw [hu]; exact IntWalk.i64_in _ (by omega)
              have e3 : IntKind.i64.wrap ((y' : Int) + (u : Int)) = (z : Int) := by rw [IntWalk.i64_in _ (by omega)]; omega
              have e4 : (z : Int) / (F : Int) = ((z / F : Nat) : Int) := rfl
              have e5 : (z : Int) % (F : Int) = ((z % F : Nat) : Int) := rfl
              generalize z / F = z1 at *
              generalize z % F = z2 at *
              have b1 : (z1 : Int) ≤ 9007199254740992 := by omega
              have b2 : (x' : Int) ≤ 4503599627370496 := by omega
              have bz : (z : Int) ≤ 9007199254740992 := by omega
              have HDS := Lib.hid hds; have HTS2 := Lib.hid hts; have HG := Lib.hid hG; have HTB := Lib.hid htb
              clear hds hts hBi hBv hd hG hu hW hr hqd hr2 hz' htl htb
              go_wp2_with (go_at_call 65; (try rw [hsub]); refine (chAll_any _ _ _ _ _ _ d _ hz.2.1.1 hz.2.1.2 hd20).mono ?_; rintro e w7 ⟨rfl, hx7⟩; rw [HG.out])
              go_roundw
              case rel => exact ⟨m + 1, T' + u, x' + z1, z2, hlm, by go_num, by rw [HTS2.out]; omega, HDS.out.1, HDS.out.2, by go_num, by rw [e5], hrow.below hx7 hrow.lt, box_on hb hx7 (by have := hb.size; simpa using this)⟩
              case measure => simp [intOf]; omega
            · have g2 : (0 : Int) < (v : Int) := by omega
              have hon := HVO.out hvz
              clear hv0 hvz
              by_cases hlj : j < f.toNat
              · have g1 : (j : Int) + 1 ≤ f := by omega
                have hcs := chSnake_any s f o A c m ((j : Int) + 1) js
                have HON := Lib.hid hon; clear hon
                cases hP : snB s o js m ((j : Int) + 1)
                · have HP := Lib.hid hP; clear hP
                  go_wp2_with (go_at_call 69; refine (chSnake_any _ _ _ _ _ _ _ _ _ (hj.go ((below1 _ _).trans (hb.mono (by omega)))) hz.1.1 hz.1.2 hz.2.2.1.1 hz.2.2.1.2 (by omega) (by omega) HON.out (by omega) (by omega)).mono ?_; rintro e w8 ⟨rfl, hx8⟩; rw [HP.out])
                  go_roundw
                  case rel => exact ⟨j + 1, hlj, by go_num, by rw [snk_no HP.out], fun h => by omega, hrow.below hx8 hrow.lt, box_on hb hx8 (by have := hb.size; simpa using this)⟩
                  case measure => simp [intOf]; omega
                · have HP := Lib.hid hP; clear hP
                  go_wp2_with (go_at_call 69; refine (chSnake_any _ _ _ _ _ _ _ _ _ (hj.go ((below1 _ _).trans (hb.mono (by omega)))) hz.1.1 hz.1.2 hz.2.2.1.1 hz.2.2.1.2 (by omega) (by omega) HON.out (by omega) (by omega)).mono ?_; rintro e w8 ⟨rfl, hx8⟩; rw [HP.out])
                  go_roundw
                  case rel => exact ⟨j + 1, hlj, by go_num, by rw [snk_yes HP.out], fun h => by omega, hrow.below hx8 hrow.lt, box_on hb hx8 (by have := hb.size; simpa using this)⟩
                  case measure => simp [intOf]; omega
              · have g1 : ¬ (j : Int) + 1 ≤ f := by omega
                obtain rfl : j = f.toNat := by omega
                have HBV : snk s o js m f.toNat * (v : Int) = snk s o js m f.toNat * (v : Int) := rfl
                clear hon
                obtain ⟨Bi, hBi⟩ : ∃ Bi, snk s o js m f.toNat = Bi := ⟨_, rfl⟩
                have hBv : Bi * (v : Int) = snk s o js m f.toNat * (v : Int) := by rw [← hBi]; first | done | exact HBV
                rw [hBi]
                obtain ⟨d, hd⟩ : ∃ d, t - k - 1 = d := ⟨_, rfl⟩
                have htl := HTL.out
                have hts := HTS.out
                rw [hd] at htl hts
                have hd20 : d ≤ 20 := by omega
                have hsub : (t : Int) - (k : Int) - 1 = (d : Int) := by omega
                obtain ⟨G, hG⟩ : ∃ G, f ^ d = G := ⟨_, rfl⟩
                rw [hG, ← hBv] at htl hts
                obtain ⟨u, hu⟩ := Int.eq_ofNat_of_zero_le htl.2.2.1
                rw [hu] at hts
                obtain ⟨W, hW⟩ : ∃ W, Bi * (v : Int) = W := ⟨_, rfl⟩
                rw [hW] at hu htl
                have hr := Nat.mod_lt T' (show 0 < F by omega)
                have hqd := Nat.div_le_self T' F
                rw [HY'.out] at hr
                rw [HX'.out] at hqd
                have hds := rest_step T' u F (by omega)
                rw [HX'.out, HY'.out] at hds
                have hr2 := Nat.div_le_self (y' + u) F
                obtain ⟨z, hz'⟩ : ∃ z, y' + u = z := ⟨_, rfl⟩
                rw [hz'] at hds hr2
                have htb : T' + u ≤ 4503599627370496 := by have := htl.2.2.2; rw [hts] at this; omega
                have e1 : IntKind.i64.wrap (Bi * (v : Int)) = W := by rw [hW]; exact IntWalk.i64_in _ (by omega)
                have e2 : IntKind.i64.wrap (W * G) = (u : Int) := by rw [hu]; exact IntWalk.i64_in _ (by omega)
                have e3 : IntKind.i64.wrap ((y' : Int) + (u : Int)) = (z : Int) := by rw [IntWalk.i64_in _ (by omega)]; omega
                have e4 : (z : Int) / (F : Int) = ((z / F : Nat) : Int) := rfl
                have e5 : (z : Int) % (F : Int) = ((z % F : Nat) : Int) := rfl
                generalize z / F = z1 at *
                generalize z % F = z2 at *
                have b1 : (z1 : Int) ≤ 9007199254740992 := by omega
                have b2 : (x' : Int) ≤ 4503599627370496 := by omega
                have bz : (z : Int) ≤ 9007199254740992 := by omega
                have HDS := Lib.hid hds; have HTS2 := Lib.hid hts; have HG := Lib.hid hG; have HTB := Lib.hid htb
                clear hds hts hBi hBv hd hG hu hW hr hqd hr2 hz' htl htb
                go_wp2_with (go_at_call 65; (try rw [hsub]); refine (chAll_any _ _ _ _ _ _ d _ hz.2.1.1 hz.2.1.2 hd20).mono ?_; rintro e w7 ⟨rfl, hx7⟩; rw [HG.out])
                go_roundw
                case rel => exact ⟨m + 1, T' + u, x' + z1, z2, hlm, by go_num, by rw [HTS2.out]; omega, HDS.out.1, HDS.out.2, by go_num, by rw [e5], hrow.below hx7 hrow.lt, box_on hb hx7 (by have := hb.size; simpa using this)⟩
                case measure => simp [intOf]; omega
        · have hlm' : ¬ (m : Int) < (n : Int) := by omega
          obtain rfl : m = n := by omega
          go_wp2
          go_roundw
          case rel => exact ⟨k + 1, T', x', y', hlt, by go_num, by rw [← HT'.out, HN.out, told_next _ _ _ _ _ hlt], HX'.out, HY'.out, rfl, rfl, hb⟩
          case measure => simp [intOf]; omega
    · have h3 : ¬ (k : Int) < (t : Int) := by omega
      obtain rfl : k = t := by omega
      obtain rfl : T = S := by have := HT.out; rw [HS.out, Nat.sub_self, Int.pow_zero, Int.mul_one] at this; omega
      obtain rfl : q = x := HQ.out.symm.trans HX.out
      obtain rfl : r = y := HR.out.symm.trans HY.out
      have e1 := HE1.out
      have e2 := HE2.out
      go_wp2_with (go_at_call 70; refine (HLC.out _).mono ?_; rintro e w2 ⟨rfl, hx2⟩)
      exact bodyPost_ret (v := .tuple #[.int .i64 ra, .int .i64 lb, .bool true]) (by simp [results, Try.results42]) rfl
        ⟨rfl, ((below1 _ _).trans (hb.mono (by omega))).trans (hx2.mono (by have := hb.size; simp at this; omega))⟩

theorem snakeBites_both (s f o : Int) (js : List (Int × Int)) (sq th : Int) : ∃ (x y : Int) (ok : Bool),
    (∀ (A : Option Addr) (c : Nat) (W : World), RJ W W.heap.size A js → Calls Try.prog 42 #[.agg #[.int .i64 s, .int .i64 f, .int .i64 o, .slice A js.length c], .int .i64 sq, .int .i64 th] W (PartIs W x y ok)) ∧
    (∀ (A : Option Addr) (c : Nat) (W : World), RJ W W.heap.size A js → Calls Try.prog 43 #[.agg #[.int .i64 s, .int .i64 f, .int .i64 o, .slice A js.length c], .int .i64 sq, .int .i64 th] W (PartIs W x y ok)) := by
  cases h : (asked s f o js sq && inB th 0 16)
  · exact ⟨0, 0, false, fun A c W hj => specSnakeBites_no s f o A c sq th js W hj h, fun A c W hj => implSnakeBites_no s f o A c sq th js W hj h⟩
  · rw [Bool.and_eq_true] at h
    have hz := good_sizes (asked_good h.1)
    have hth := inB_iff.1 h.2
    obtain ⟨t, rfl⟩ := Int.eq_ofNat_of_zero_le hth.1
    obtain ⟨S, hS⟩ := Int.eq_ofNat_of_zero_le (bt_lt (asked_good h.1) (asked_on h.1) (show t ≤ 16 by omega)).1
    have hF := natpow (show 0 ≤ f by omega) t
    exact ⟨lowA S (f.toNat ^ t), lowB S (f.toNat ^ t), true, fun A c W hj => specSnakeBites_yes s f o A c sq t _ S js W hj h.1 (by omega) hF hS, fun A c W hj => implSnakeBites_yes s f o A c sq t _ S js W hj h.1 (by omega) hF hS⟩
end Go.Proofs.Ytiekdokgjdgajab

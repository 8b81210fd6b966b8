/-
  Walks: walkHome, places.
-/
import Derived.Test.YtiekdokgjdgajabC2d
namespace Go.Proofs.Ytiekdokgjdgajab
open Go.RowKit

/-- The cells of an array of a number for each square. -/
def arrC (P : Nat → Int) : Array Value := ((List.range 101).map (fun i => Value.int .i64 (P i))).toArray
theorem arr_size (P : Nat → Int) : (arrC P).size = 101 := by simp [arrC]
theorem arr_at (P : Nat → Int) {i : Nat} (hi : i < 101) : (arrC P)[i]? = some (.int .i64 (P i)) := by simp [arrC, hi]
theorem arr_one (P : Nat → Int) : ∀ u ∈ (arrC P).toList, u.oneCell' = true := by
  intro u hu
  simp only [arrC, List.mem_map] at hu
  obtain ⟨i, _, rfl⟩ := hu
  rfl
theorem arr_congr {P P' : Nat → Int} (h : ∀ i < 101, P i = P' i) : arrC P = arrC P' := by
  unfold arrC
  rw [List.map_congr_left (fun i hi => by rw [h i (by simpa using hi)])]
theorem arr_set (P : Nat → Int) {k : Nat} (hk : k < 101) (v : Int) : (arrC P).setIfInBounds k (.int .i64 v) = arrC (fun i => if i = k then v else P i) := by
  apply Array.ext_getElem?
  intro i
  rw [Array.getElem?_setIfInBounds, arr_size]
  by_cases h : k = i
  · subst h
    rw [if_pos rfl, if_pos hk, arr_at _ hk, if_pos rfl]
  · rw [if_neg h]
    by_cases hi : i < 101
    · rw [arr_at _ hi, arr_at _ hi, if_neg (fun e => h e.symm)]
    · rw [Array.getElem?_eq_none (by rw [arr_size]; omega), Array.getElem?_eq_none (by rw [arr_size]; omega)]
theorem arrZero : Try.zeroCells52 = arrC (fun _ => 0) := by kernel_rfl
theorem sizeArr : (Try.prog.info? 52).map (·.size) = some 101 := by kernel_rfl

set_option maxRecDepth 100000 in
set_option maxHeartbeats 400000 in
theorem walkHome_yes (s f o : Int) (A : Option Addr) (c : Nat) (js : List (Int × Int)) (sq : Int) (t : Nat) (most : Int) (w : World) (hj : RJ w w.heap.size A js) (ha : asked s f o js sq = true) (ht : (t : Int) ≤ most) (hm : most ≤ 20) :
    Calls Try.prog 50 #[.agg #[.int .i64 s, .int .i64 f, .int .i64 o, .slice A js.length c], .int .i64 sq, .int .i64 t, .int .i64 most] w (WalkIs w s f o js s sq t) := by
  have hl := hj.1
  have hz := good_sizes (asked_good ha)
  have he : onSq s js s = true := by simp [onSq, inB, good_end (asked_good ha)]; omega
  have HA := Lib.hid ha; have HE := Lib.hid he; clear ha he
  go_enter Try.func50, Try.ntmps50
  go_wp2_with fail
  refine (walkTo_yes _ _ _ _ _ _ _ _ _ _ _ (hj.go (below2 _ _ _)) HA.out HE.out ht hm).mono ?_
  rintro e w1 ⟨bl, bb, rfl, l0, b0, hne, l1, b1, hL, hE, hx⟩
  have hR : w1.heap[w.heap.size + 1]? = some (.cells Try.zeroCells57 57 (0, 0)) := (hx.block _ (by simp)).trans (heap_alloc_at _ _ _ (by simp))
  have hs1 := hx.size
  simp only [World.size_alloc] at l0 b0 hs1
  have HNE := Lib.hid hne; clear hne
  go_wp2_with (refine wpList_store_row rfl 57 _ _ rfl (w.heap.size + 1) rfl _ _ _ rfl hR ?_ ?_ (wlk_one _ _ _ _ _ _ _ _) ?_; (rw [wlk_size, walkZero, wlk_size]); (rw [wlk_size]; exact sizeWalk); intro w7 h7 g7 s7)
  exact bodyPost_ret (v := .tuple #[.agg (wlkCells s f o (fun i => jumpOf js i) s (f ^ t) (some bl) (some bb)), .bool true]) (results_cell_slot Try.results50 _ _ _ _ _ _ _ _ rfl rfl h7 Try.underlying57 rfl (by rw [wlk_size]; exact sizeWalk)) rfl
    ⟨bl, bb, rfl, by omega, by omega, HNE.out, by omega, by omega, hL.kept g7 (by simp; omega), hE.kept g7 (by simp; omega), ((below2 _ _ _).trans (hx.mono (by simp; omega))).grown g7 (by omega) (fun j h => by cases h; omega)⟩

set_option maxRecDepth 100000 in
set_option maxHeartbeats 400000 in
theorem walkHome_no (s f o : Int) (A : Option Addr) (c : Nat) (js : List (Int × Int)) (sq th most : Int) (w : World) (hj : RJ w w.heap.size A js) (hn : (asked s f o js sq && decide (0 ≤ th) && decide (th ≤ most)) = false) :
    Calls Try.prog 50 #[.agg #[.int .i64 s, .int .i64 f, .int .i64 o, .slice A js.length c], .int .i64 sq, .int .i64 th, .int .i64 most] w (NoWalk w) := by
  have hl := hj.1
  have hn' : (asked s f o js sq && onSq s js s && decide (0 ≤ th) && decide (th ≤ most)) = false := by
    cases ha : asked s f o js sq
    · rfl
    · have hz := good_sizes (asked_good ha)
      have he : onSq s js s = true := by simp [onSq, inB, good_end (asked_good ha)]; omega
      rw [he, Bool.and_true, ← ha]; exact hn
  have HN := Lib.hid hn'; clear hn hn'
  go_enter Try.func50, Try.ntmps50
  go_wp2_with fail
  refine (walkTo_no _ _ _ _ _ _ _ _ _ _ _ (hj.go (below2 _ _ _)) HN.out).mono ?_
  rintro e w1 ⟨rfl, hx⟩
  have hR : w1.heap[w.heap.size + 1]? = some (.cells Try.zeroCells57 57 (0, 0)) := (hx.block _ (by simp)).trans (heap_alloc_at _ _ _ (by simp))
  have hs1 := hx.size
  simp only [World.size_alloc] at hs1
  go_wp2_with (refine wpList_store_row rfl 57 _ _ rfl (w.heap.size + 1) rfl _ _ _ rfl hR ?_ ?_ (wlk_one _ _ _ _ _ _ _ _) ?_; (rw [wlk_size, walkZero, wlk_size]); (rw [wlk_size]; exact sizeWalk); intro w7 h7 g7 s7)
  exact bodyPost_ret (v := .tuple #[.agg (wlkCells 0 0 0 (fun _ => 0) 0 0 none none), .bool false]) (results_cell_slot Try.results50 _ _ _ _ _ _ _ _ rfl rfl h7 Try.underlying57 rfl (by rw [wlk_size]; exact sizeWalk)) rfl
    ⟨rfl, ((below2 _ _ _).trans (hx.mono (by simp; omega))).grown g7 (by omega) (fun j h => by cases h; omega)⟩

/-- Those that are told by now. -/
def pgot (c : Int → Bool → Int) (left : Int → Bool → Bool) (i : Int) : Int := (if left i false then 0 else c i false) + (if left i true then 0 else c i true)
theorem pgot_strike (c : Int → Bool → Int) {left : Int → Bool → Bool} {q : Int} {m : Bool} (hl : left q m = true) (i : Int) : pgot c (strike left q m) i = if i = q then pgot c left q + c q m else pgot c left i := by
  unfold pgot
  by_cases h : i = q
  · subst h
    cases m
    · rw [strike_same, strike_other (m := true) (.inr (by simp)), hl]; simp; omega
    · rw [strike_same, strike_other (m := false) (.inr (by simp)), hl]; simp
  · rw [strike_other (.inl h), strike_other (.inl h), if_neg h]
theorem pgot_le {c : Int → Bool → Int} (h : ∀ q m, 0 ≤ c q m) (left : Int → Bool → Bool) (i : Int) : 0 ≤ pgot c left i ∧ pgot c left i ≤ c i false + c i true := by
  have h1 := h i false
  have h2 := h i true
  unfold pgot
  cases left i false <;> cases left i true <;> simp <;> omega

set_option maxRecDepth 100000 in
set_option maxHeartbeats 400000 in
theorem places_any (g bl : Nat) (s f o : Int) (G : Nat → Int) (wt al : Int) (bb : Option Nat) (c : Int → Bool → Int) (w : World) (hW : WA w g s f o G wt al (some bl) bb) (hL : SW w bl c) (h0 : ∀ q m, 0 ≤ c q m) (h1 : ∀ q, c q false + c q true ≤ 1152921504606846976) :
    Calls Try.prog 51 #[.pointer (some ⟨g, 0, none⟩)] w fun e w' => e = .returned (.agg (arrC (fun i => c i false + c i true))) ∧ Below w.heap.size w w' := by
  have lg := heap_lt hW
  have ll := hL.lt
  have c6 : w.cell? ⟨g, 106, none⟩ = some (.map (some bl)) := (cell_of_row _ _ _ _ _ _ hW).trans (wlk_106 _ _ _ _ _ _ _ _)
  have HP := Lib.hid h0; have HS := Lib.hid h1; clear h0 h1
  have q6 : ((w.alloc (.cells Try.zeroCells52 52)).alloc (.cells Try.zeroCells52 52)).cell? ⟨g, 106, none⟩ = some (.map (some bl)) := (bcell (below2 w _ _) lg).trans c6
  have hL2 := (hL.alloc (.cells Try.zeroCells52 52)).alloc (.cells Try.zeroCells52 52)
  clear hL c6
  go_enter Try.func51, Try.ntmps51
  go_wp2_with (first | (at_range; refine SM.range spotKey rfl _ 55 rfl mapU hL2 rfl ?_; intro w0 cnt0 hrg0 hg0 hs0) | go_in)
  go_frame
  have e1 : w0.heap[w.heap.size + 1]? = some (.cells Try.zeroCells52 52 (0, 0)) := (hg0.block _ (by simp <;> omega) (by simp <;> omega)).trans (heap_alloc_at _ _ _ (by simp <;> omega))
  have e0 : w0.heap[w.heap.size]? = some (.cells Try.zeroCells52 52 (0, 0)) := (hg0.block _ (by simp <;> omega) (by simp <;> omega)).trans ((Below.heap_alloc _ _ _ (by simp <;> omega)).trans (heap_alloc_at _ _ _ rfl))
  have hB0 : Below w.heap.size w w0 := (below2 w _ _).grown hg0 (by simp; omega) (fun k e => by cases e)
  simp only [World.size_alloc] at hrg0 hs0 ⊢
  have lgl : bl < w0.heap.size := hrg0.lt.1
  clear hL2 q6 hg0
  go_loopw [5] (fun _ wr => ∃ left cnt, RW wr bl (w.heap.size + 1 + 1) c left cnt ∧ wr.heap[w.heap.size + 1]? = some (.cells (arrC (fun i => pgot c left i)) 52 (0, 0)) ∧ wr.heap[w.heap.size]? = some (.cells Try.zeroCells52 52 (0, 0)) ∧
    w.heap.size + 2 < wr.heap.size ∧ (∀ i m, left i m = true → c i m ≠ 0) ∧ Below w.heap.size w wr) (fun _ wr => wr.rangeLeft bl (w.heap.size + 1 + 1))
  case atStart =>
    refine ⟨_, cnt0, hrg0, ?_, e0, by omega, fun i m h => by simpa using h, hB0⟩
    rw [e1, arrZero, arr_congr fun i _ => ?_]
    unfold pgot
    by_cases h1 : c i false = 0 <;> by_cases h2 : c i true = 0 <;> simp [h1, h2]
  case round =>
    clear hrg0 e0 e1 hB0 hs0 lgl
    obtain ⟨left, cnt, hrg, hA, hR, hsz, hlc, hB⟩ := hrel
    go_wp2_with (first | (at_next; refine RS.next spotKey rfl _ rfl intU hrg rfl ?_ ?_) | go_in)
    · intro hdone
      have hall : ∀ i m, left i m = false := fun i m => by
        cases h : left i m
        · rfl
        · have h1 := (hrg.owns).1 i m (hlc i m h)
          rw [hdone i m (wfi_of (by omega) (by omega))] at h; cases h
      have hA' : wr.heap[w.heap.size + 1]? = some (.cells (arrC (fun i => c i false + c i true)) 52 (0, 0)) := by
        rw [hA, arr_congr fun i _ => ?_]; simp [pgot, hall]
      clear hA hall hdone hrg hlc
      go_wp2_with (first | (refine wpList_load_row rfl 52 _ rfl (w.heap.size + 1) rfl _ _ _ _ hA' Try.underlying52 rfl ?_ ?_; (rw [arr_size]; exact sizeArr)) | (refine wpList_store_row rfl 52 _ _ rfl w.heap.size rfl _ _ _ rfl hR ?_ ?_ (arr_one _) ?_; (rw [arr_size, arrZero, arr_size]); (rw [arr_size]; exact sizeArr); intro w7 h7 g7 s7))
      exact bodyPost_ret (v := .agg (arrC (fun i => c i false + c i true))) (results_cell1 Try.results51 _ _ _ _ _ _ _ rfl h7 Try.underlying52 rfl (by rw [arr_size]; exact sizeArr)) rfl
        ⟨rfl, hB.grown g7 (by omega) (fun j h => by cases h; omega)⟩
    · rintro ⟨q, m⟩ w1 cnt1 hlq hcq h0 h1 hrg1 hlt hg1 hs1 hen
      dsimp only at hlq hcq h0 h1 hrg1 hen ⊢
      obtain ⟨k, rfl⟩ := Int.eq_ofNat_of_zero_le h0
      have hA1 := (hg1.block _ (by omega) (by simp <;> omega)).trans hA
      have hR1 := (hg1.block _ (by omega) (by simp <;> omega)).trans hR
      have hB1 : Below w.heap.size w w1 := hB.grown hg1 (by omega) (fun j e => by cases e; omega)
      have pl := pgot_le HP.out left k
      have ps := pgot_strike c hlq
      have pl2 := pgot_le HP.out (strike left k m) k
      have hsum := HS.out k
      rw [ps, if_pos rfl] at pl2
      have hwr : IntKind.i64.wrap (pgot c left k + c k m) = pgot c left k + c k m := IntWalk.i64_in _ (by omega)
      have hme := hrg.left_eq
      clear hA hR hB hrg
      have HWR := Lib.hid hs1; clear hs1
      simp only [spotV] at hen ⊢
      have hA2 : (w1.alloc (.cells #[.int .i64 k, .bool m] 82)).heap[w.heap.size + 1]? = some (.cells (arrC (fun i => pgot c left i)) 52 (0, 0)) := (Below.heap_alloc _ _ _ (by have := HWR.out; omega)).trans hA1
      have a1 : (w1.alloc (.cells #[.int .i64 k, .bool m] 82)).cell? ⟨w.heap.size + 1, k, none⟩ = some (.int .i64 (pgot c left k)) := (cell_of_row _ _ _ _ _ _ hA2).trans (arr_at _ (by omega))
      have a2 : (w1.alloc (.cells #[.int .i64 k, .bool m] 82)).frozen? ⟨w.heap.size + 1, k, none⟩ = false := frozen_row hA2
      have i1 : (k : Int) < 101 := by omega
      go_wp2
      have hrg2 := (hrg1.alloc (.cells #[.int .i64 k, .bool m] 82))
      have hrg3 := hrg2.keep (w' := (w1.alloc (.cells #[.int .i64 k, .bool m] 82)).setCell ⟨w.heap.size + 1, k, none⟩ (.int .i64 (pgot c left k + c k m))) (Below.heap_setCell _ _ _ _ (by simp; omega)) (Below.heap_setCell _ _ _ _ (by simp))
      have hA3 := heap_set _ (w.heap.size + 1) k _ _ (.int .i64 (pgot c left k + c k m)) hA2
      rw [arr_set _ (by omega)] at hA3
      refine ⟨⟨strike left k m, cnt1, hrg3, ?_, ?_, ?_, fun i b hs => ?_, ?_⟩, ?_⟩
      · rw [hA3, arr_congr fun i _ => ?_]
        rw [ps]
        by_cases e : i = k
        · subst e; simp
        · rw [if_neg e, if_neg (by omega)]
      · exact (Below.heap_setCell _ _ _ _ (by simp)).trans ((Below.heap_alloc _ _ _ (by have := HWR.out; omega)).trans hR1)
      · have := HWR.out; simp; omega
      · unfold strike at hs
        rw [Bool.and_eq_true] at hs
        exact hlc i b hs.1
      · exact (hB1.alloc (by have := HWR.out; omega) _).setCell (by simp) _
      · rw [hrg3.left_eq, hme]; exact hlt
end Go.Proofs.Ytiekdokgjdgajab

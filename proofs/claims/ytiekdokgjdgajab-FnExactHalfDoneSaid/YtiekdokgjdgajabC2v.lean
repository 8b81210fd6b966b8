/-
  HalfDone and AllDone, the model's and the program's.
-/
import Derived.Test.YtiekdokgjdgajabC2t
import Derived.Test.YtiekdokgjdgajabC2m
import Derived.Test.YtiekdokgjdgajabC2h
import Derived.Test.YtiekdokgjdgajabC2i
import Derived.Test.YtiekdokgjdgajabM5
namespace Go.Proofs.Ytiekdokgjdgajab
open Go.RowKit

/-- At least half of all lists, or all lists, of k throws lead to the end. -/
def halfP (s f o : Int) (js : List (Int × Int)) (sq : Int) (k : Nat) : Bool := decide (f ^ k ≤ 2 * pl s f o js sq k s)
def overP (s f o : Int) (js : List (Int × Int)) (sq : Int) (k : Nat) : Bool := decide (pl s f o js sq k s = f ^ k)
def untilR (p : Nat → Bool) (ok : Bool) : Int × Bool := if ok then leastT p 20 0 else (0, false)
/-- A number and a bool are handed back. -/
def NumIs (w : World) (R : Int × Bool) (e : Ending) (w' : World) : Prop := e = .returned (.tuple #[.int .i64 R.1, .bool R.2]) ∧ Below w.heap.size w w'

theorem over_iff {s f o : Int} {js : List (Int × Int)} (hg : good ⟨s, f, o, js⟩ = true) {sq : Int} (hq : onSq s js sq = true) (t : Nat) : (∀ i m, ct s f o js s sq t i m ≠ 0 → i = s ∧ m = true) ↔ pl s f o js sq t s = f ^ t := by
  have hz := good_sizes hg
  obtain ⟨S, rfl⟩ := Int.eq_ofNat_of_zero_le (show 0 ≤ s by omega)
  have hall := pl_all hg hq t
  constructor
  · intro h
    rw [← hall, sumTo_one (k := S) (by unfold nsq; omega) fun i _ hne => ?_]
    have h1 : ct S f o js S sq t i false = 0 := Decidable.byContradiction fun e => by have := (h i false e).1; omega
    have h2 : ct S f o js S sq t i true = 0 := Decidable.byContradiction fun e => by have := (h i true e).1; omega
    rw [← ct_pl S f o js S, h1, h2]; rfl
  · intro h i m hc
    have hon := ct_on hg hq t i m hc
    obtain ⟨I, rfl⟩ := Int.eq_ofNat_of_zero_le hon.1
    by_cases e : I = S
    · subst e
      refine ⟨rfl, ?_⟩
      cases m
      · exact absurd (ct_end _ _ _ _ _ _ _ _ (by simp)) hc
      · rfl
    · exfalso
      have hp : 0 < pl S f o js sq t I := by
        have h1 := ct_nonneg S f o js S sq t I false
        have h2 := ct_nonneg S f o js S sq t I true
        rw [← ct_pl S f o js S]
        cases m <;> omega
      have h1 := sumTo_at (F := fun i => if i = I then 0 else pl S f o js sq t i) (G := fun i => pl S f o js sq t i) (k := I) (nsq S) (by unfold nsq; omega) fun i _ hne => by simp [hne]
      have h2 := sumTo_term (F := fun i => if i = I then 0 else pl S f o js sq t i) (nsq S) (fun i _ => by split; exact Int.le_refl _; exact pl_nonneg _ _ _ _ _ _ _) (k := S) (by unfold nsq; omega)
      rw [hall] at h1
      simp only [if_true, show ¬ S = I from fun h => e h.symm, if_false] at h1 h2
      omega

set_option maxRecDepth 100000 in
set_option maxHeartbeats 400000 in
theorem half_any (g bl : Nat) (s f o : Int) (js : List (Int × Int)) (sq : Int) (t : Nat) (bb : Option Nat) (w : World) (hW : WA w g s f o (fun i => jumpOf js i) s (f ^ t) (some bl) bb) (hL : SW w bl (ct s f o js s sq t)) (hg : good ⟨s, f, o, js⟩ = true) (hq : onSq s js sq = true) (ht : t ≤ 20) :
    Calls Try.prog 63 #[.pointer (some ⟨g, 0, none⟩)] w fun e w' => e = .returned (.bool (halfP s f o js sq t)) ∧ Below w.heap.size w w' := by
  have hz := good_sizes hg
  have hp := pow_lt63 hz.2.1.1 hz.2.1.2 ht
  have hpl := pl_le hg hq t s
  obtain ⟨D, hD⟩ := Int.eq_ofNat_of_zero_le (pl_nonneg s f o js sq t s)
  have hm : sumTo (fun i => ct s f o js s sq t i true) 101 = (D : Int) := by rw [ct_met hg, hD]
  have hP : halfP s f o js sq t = decide (f ^ t ≤ 2 * (D : Int)) := by rw [halfP, hD]
  rw [hP]
  have e2 : IntKind.i64.wrap (2 * (D : Int)) = 2 * (D : Int) := IntWalk.i64_in _ (by omega)
  have hD1 : (D : Int) ≤ 1152921504606846976 := by omega
  have HM := Lib.hid hm
  clear hg hq hP hm hp hpl hD
  have hall := hW.all
  have hWd : WA w.drew g s f o (fun i => jumpOf js i) s (f ^ t) (some bl) bb := hW
  have hLd : SW w.drew bl (ct s f o js s sq t) := hL.keep rfl
  obtain ⟨F, hF⟩ : ∃ F, f ^ t = F := ⟨_, rfl⟩
  rw [hF] at hall hWd ⊢
  have HF := Lib.hid hF; clear hF hW hL
  go_enter Try.func63, Try.ntmps63
  go_wp2_with fail
  refine wp_region_held_drew (S := (fun w' => w'.cell? ⟨g, 105, none⟩ = some (.int .i64 F) ∧ g < w'.heap.size)) (by kernel_rfl) ⟨hall, cell_lt hall⟩ (fun hS => ?_)
  refine wpAnyH_take (i := 0) (oi := ⟨some 3, _, _, _, _, _⟩) (v := ?va1) rfl (by kernel_rfl) (by kernel_rfl) (by kernel_rfl) (fun _ _ _ h => h) (Or.inl ⟨by rfl, ?ha1⟩) hS ?ra1
  case ha1 => (intro w' hSw; (try dsimp only at hSw); go_simp; (try with_reducible rfl))
  try simp only [Act.put, List.setIfInBounds_toArray, List.set_cons_zero, List.set_cons_succ]
  refine wpAnyH_take (i := 3) (oi := ⟨some 6, _, _, _, _, _⟩) (v := ?va2) rfl (by kernel_rfl) (by kernel_rfl) (by kernel_rfl) (fun _ _ _ h => h) (Or.inl ⟨by rfl, ?ha2⟩) hS ?ra2
  case ha2 => (intro w' hSw; (try dsimp only at hSw); go_simp; (try with_reducible rfl))
  try simp only [Act.put, List.setIfInBounds_toArray, List.set_cons_zero, List.set_cons_succ]
  refine wpAnyH_take (i := 4) (oi := ⟨some 7, _, _, _, _, _⟩) (v := ?va3) rfl (by kernel_rfl) (by kernel_rfl) (by kernel_rfl) (fun _ _ _ h => h) (Or.inl ⟨by rfl, ?ha3⟩) hS ?ra3
  case ha3 => (intro w' hSw; (try dsimp only at hSw); go_simp; (try with_reducible rfl))
  try simp only [Act.put, List.setIfInBounds_toArray, List.set_cons_zero, List.set_cons_succ]
  refine wpAnyH_take (i := 5) (oi := ⟨some 8, _, _, _, _, _⟩) (v := ?va4) rfl (by kernel_rfl) (by kernel_rfl) (by kernel_rfl) (fun _ _ _ h => h) (Or.inl ⟨by rfl, ?ha4⟩) hS ?ra4
  case ha4 => (intro w' hSw; (try dsimp only at hSw); go_simp; (try with_reducible rfl))
  try simp only [Act.put, List.setIfInBounds_toArray, List.set_cons_zero, List.set_cons_succ]
  refine wpAnyH_take (i := 6) (oi := ⟨some 9, _, _, _, _, _⟩) (v := ?va5) rfl (by kernel_rfl) (by kernel_rfl) (by kernel_rfl) (fun _ _ _ h => h) (Or.inl ⟨by rfl, ?ha5⟩) hS ?ra5
  case ha5 => (intro w' hSw; (try dsimp only at hSw); go_simp; (try with_reducible rfl))
  try simp only [Act.put, List.setIfInBounds_toArray, List.set_cons_zero, List.set_cons_succ]
  refine wpAnyH_ready (rs := [1]) (by kernel_rfl) (by simp) ?_
  refine AllReadyH.cons (o := ⟨some 4, _, _, _, _, _⟩) rfl (fun K' hK' => ?_) AllReadyH.nil
  go_simp
  go_at_call 58
  refine (met_any _ _ _ _ _ _ _ _ _ _ _ hWd hLd (fun q m => ct_nonneg _ _ _ _ _ _ _ _ _) (by rw [HM.out]; exact hD1)).mono ?_
  rintro e w6 ⟨rfl, hx6⟩
  rw [HM.out]
  have k1 := keepcell hx6 hall
  refine hK'.out _ _ ⟨k1, cell_lt k1⟩ (fun _ => ?_)
  clear hK' K'
  try simp only [Act.put, List.setIfInBounds_toArray, List.set_cons_zero, List.set_cons_succ]
  refine wpAnyH_take (i := 2) (oi := ⟨some 5, _, _, _, _, _⟩) (v := ?va6) rfl (by kernel_rfl) (by kernel_rfl) (by kernel_rfl) (fun _ _ _ h => h) (Or.inl ⟨by rfl, ?ha6⟩) ⟨k1, cell_lt k1⟩ ?ra6
  case ha6 => (intro w' hSw; (try dsimp only at hSw); go_simp; (try with_reducible rfl))
  try simp only [Act.put, List.setIfInBounds_toArray, List.set_cons_zero, List.set_cons_succ]
  refine wpAnyH_take (i := 7) (oi := ⟨some 10, _, _, _, _, _⟩) (v := ?va7) rfl (by kernel_rfl) (by kernel_rfl) (by kernel_rfl) (fun _ _ _ h => h) (Or.inl ⟨by rfl, ?ha7⟩) ⟨k1, cell_lt k1⟩ ?ra7
  case ha7 => (intro w' hSw; (try dsimp only at hSw); go_simp; (try with_reducible rfl))
  try simp only [Act.put, List.setIfInBounds_toArray, List.set_cons_zero, List.set_cons_succ]
  refine wpAnyH_ready (rs := [8]) (by kernel_rfl) (by simp) ?_
  refine AllReadyH.cons (o := ⟨some 2, _, _, _, _, _⟩) rfl (fun K' hK' => ?_) AllReadyH.nil
  go_simp
  refine hK'.out _ _ ⟨k1, cell_lt k1⟩ (fun _ => ?_)
  clear hK' K'
  try simp only [Act.put, List.setIfInBounds_toArray, List.set_cons_zero, List.set_cons_succ]
  refine wpAnyH_done (by kernel_rfl) ?_ _
  try simp only [e2]
  go_wp2
  go_ret
  exact ⟨rfl, (Below.refl _ _).drew.trans hx6⟩
set_option maxRecDepth 100000 in
set_option maxHeartbeats 400000 in
theorem over_any (g bl : Nat) (s f o : Int) (js : List (Int × Int)) (sq : Int) (t : Nat) (al : Int) (bb : Option Nat) (w : World) (hW : WA w g s f o (fun i => jumpOf js i) s al (some bl) bb) (hL : SW w bl (ct s f o js s sq t)) (hg : good ⟨s, f, o, js⟩ = true) (hq : onSq s js sq = true) :
    Calls Try.prog 64 #[.pointer (some ⟨g, 0, none⟩)] w fun e w' => e = .returned (.bool (overP s f o js sq t)) ∧ Below w.heap.size w w' := by
  have lg := heap_lt hW
  have ll := hL.lt
  have hiff := over_iff hg hq t
  have hz := good_sizes hg
  have c0 : w.cell? ⟨g, 0, none⟩ = some (.int .i64 s) := hW.cv.sq
  have c6 : w.cell? ⟨g, 106, none⟩ = some (.map (some bl)) := (cell_of_row _ _ _ _ _ _ hW).trans (wlk_106 _ _ _ _ _ _ _ _)
  have HI := Lib.hid hiff; have HG := Lib.hid hg; have HQ := Lib.hid hq
  clear hiff hg hq hW
  have hL2 := hL.alloc (.cells #[.int .i64 s, .bool true] 82)
  have c6' : (w.alloc (.cells #[.int .i64 s, .bool true] 82)).cell? ⟨g, 106, none⟩ = some (.map (some bl)) := (bcell (below1 w _) lg).trans c6
  clear hL
  go_enter Try.func64, Try.ntmps64
  go_wp2_with (first | (at_range; refine SM.range spotKey rfl _ 55 rfl mapU hL2 rfl ?_; intro w0 cnt0 hrg0 hg0 hs0) | go_in)
  go_frame
  have hB0 : Below w.heap.size w w0 := (below1 _ _).grown hg0 (by simp) (fun k e => by cases e)
  have hF0 : w0.heap[w.heap.size]? = some (.cells #[.int .i64 s, .bool true] 82 (0, 0)) := (hg0.block _ (by simp) (by simp)).trans (heap_alloc_at _ _ _ rfl)
  simp only [World.size_alloc] at hs0 hrg0 ⊢
  have lgl : bl < w0.heap.size := hrg0.lt.1
  clear c6 c6' hL2 hg0 c0
  go_loopw [2] (fun _ wr => ∃ left cnt, RW wr bl (w.heap.size + 1) (ct s f o js s sq t) left cnt ∧ wr.heap[w.heap.size]? = some (.cells #[.int .i64 s, .bool true] 82 (0, 0)) ∧ (∀ i m, left i m = true → ct s f o js s sq t i m ≠ 0) ∧ (∀ i m, ct s f o js s sq t i m ≠ 0 → left i m = false → i = s ∧ m = true) ∧
    w.heap.size + 1 < wr.heap.size ∧ Below w.heap.size w wr) (fun _ wr => wr.rangeLeft bl (w.heap.size + 1))
  case atStart => exact ⟨_, cnt0, hrg0, hF0, fun i m h => by simpa using h, fun i m h1 h2 => absurd h2 (by simp [h1]), by omega, hB0⟩
  case round =>
    clear hrg0 hF0 hB0 hs0 lgl
    obtain ⟨left, cnt, hrg, hF, hlc, hok, hsz, hB⟩ := hrel
    go_wp2_with (first | (at_next; refine RS.next spotKey rfl _ rfl intU hrg rfl ?_ ?_) | go_in)
    · intro hdone
      have hall : ∀ i m, left i m = false := fun i m => by
        cases h : left i m
        · rfl
        · have h1 := (hrg.owns).1 i m (hlc i m h)
          rw [hdone i m (wfi_of (by omega) (by omega))] at h; cases h
      have hP : overP s f o js sq t = true := by
        rw [overP, decide_eq_true_eq]
        exact HI.out.1 fun i m h => hok i m h (hall i m)
      have HP := Lib.hid hP
      clear hall hdone hrg hlc hok hP
      go_wp2
      go_ret
      exact ⟨ret_bool HP.out.symm, hB⟩
    · rintro ⟨q, m⟩ w1 cnt1 hlq hcq h0 h1 hrg1 hlt hg1 hs1 hen
      dsimp only at hlq hcq h0 h1 hrg1 hen ⊢
      have hF1 := (hg1.block _ (by omega) (by simp)).trans hF
      have hB1 : Below w.heap.size w w1 := hB.grown hg1 (by omega) (fun j e => by cases e; omega)
      have hme := hrg.left_eq
      have hFa := (Below.heap_alloc w1 (.cells #[.int .i64 q, .bool m] 82) w.heap.size (by omega)).trans hF1
      have f0 : (w1.alloc (.cells #[.int .i64 q, .bool m] 82)).cell? ⟨w.heap.size, 0, none⟩ = some (.int .i64 s) := (cell_of_row _ _ _ _ _ _ hFa).trans rfl
      have f1 : (w1.alloc (.cells #[.int .i64 q, .bool m] 82)).cell? ⟨w.heap.size, 1, none⟩ = some (.bool true) := (cell_of_row _ _ _ _ _ _ hFa).trans rfl
      clear hrg hB hF hF1
      have HWR := Lib.hid hs1; clear hs1
      simp only [spotV] at hen ⊢
      by_cases hend : q = s ∧ m = true
      · obtain ⟨rfl, rfl⟩ := hend
        have HLC := Lib.hid hlc; have HOK := Lib.hid hok; clear hlc hok
        go_wp2
        go_roundw
        case rel =>
          refine ⟨strike left q true, cnt1, hrg1.alloc _, hFa, fun i b hs => ?_, fun i b hc hs => ?_, by have := HWR.out; simp; omega, hB1.alloc (by have := HWR.out; omega) _⟩
          · unfold strike at hs
            rw [Bool.and_eq_true] at hs
            exact HLC.out i b hs.1
          · by_cases e : i = q ∧ b = true
            · exact e
            · rw [strike_other (by by_cases e1 : i = q <;> simp_all)] at hs
              exact HOK.out i b hc hs
        case measure => rw [(hrg1.alloc (.cells #[.int .i64 q, .bool true] 82)).left_eq, hme]; exact hlt
      · have hP : overP s f o js sq t = false := by
          rw [overP, decide_eq_false_iff_not]
          intro h
          exact hend (HI.out.2 h q m hcq)
        have HP := Lib.hid hP
        by_cases e : q = s
        · subst e
          obtain rfl : m = false := by
            cases m
            · rfl
            · exact absurd ⟨rfl, rfl⟩ hend
          clear hP hlc hok hend
          go_wp2
          go_ret
          exact ⟨ret_bool HP.out.symm, hB1.alloc (by have := HWR.out; omega) _⟩
        · have hne : (q == s) = false := by simpa using e
          clear hP hlc hok hend
          go_wp2
          go_ret
          exact ⟨ret_bool HP.out.symm, hB1.alloc (by have := HWR.out; omega) _⟩
-- from here on: written by program (wip/tools/gen_until.py)
set_option maxRecDepth 100000 in
set_option maxHeartbeats 1000000 in
theorem firstHalf_any (s f o : Int) (A : Option Addr) (c : Nat) (sq : Int) (js : List (Int × Int)) (w : World) (hj : RJ w w.heap.size A js) :
    Calls Try.prog 62 #[.agg #[.int .i64 s, .int .i64 f, .int .i64 o, .slice A js.length c], .int .i64 sq, .func (.func 63) #[] #[]] w (NumIs w (untilR (halfP s f o js sq) (asked s f o js sq))) := by
  have hl := hj.1
  cases ha : asked s f o js sq
  · have ht : untilR (halfP s f o js sq) false = (0, false) := rfl
    rw [ht]
    have hn : (asked s f o js sq && decide (0 ≤ (0 : Int)) && decide ((0 : Int) ≤ 20)) = false := by rw [ha]; rfl
    have hst := fun w => storeWalk 0 0 0 (fun _ => 0) 0 0 none none w
    have HN := Lib.hid hn; clear ha ht hn
    go_enter Try.func62, Try.ntmps62
    go_wp2_with (go_at_call 50; refine (walkHome_no _ _ _ _ _ _ _ _ _ _ (hj.go (below1 _ _)) HN.out).mono ?_; rintro e w2 ⟨rfl, hx⟩)
    go_ret2
    exact ⟨rfl, ((below1 _ _).trans (hx.mono (by simp))).alloc (by have := hx.size; simp at this; omega) _⟩
  · have hz := good_sizes (asked_good ha)
    have ht : untilR (halfP s f o js sq) true = leastT (halfP s f o js sq) 20 0 := rfl
    rw [ht]
    obtain ⟨R, hR⟩ : ∃ R, R = leastT (halfP s f o js sq) 20 0 := ⟨_, rfl⟩
    rw [← hR]
    have HA := Lib.hid ha; have HR := Lib.hid hR; clear ha ht hR
    have hst : ∀ (x y : Option Nat) (w : World), (storeCells ⟨w.heap.size, 0, none⟩ (wlkCells s f o (fun i => jumpOf js i) s 1 x y).toList 0).run Try.prog (w.alloc (.cells Try.zeroCells57 57)) = .ok () (w.alloc (.cells (wlkCells s f o (fun i => jumpOf js i) s 1 x y) 57)) := fun x y w => storeWalk _ _ _ _ _ _ _ _ w
    go_enter Try.func62, Try.ntmps62
    go_wp2_with fail
    refine (walkHome_yes _ _ _ _ _ _ _ 0 _ _ (hj.go (below1 _ _)) HA.out (by omega) (by omega)).mono ?_
    rintro e w1 ⟨bl, bb, rfl, l0, b0, hne, l1, b1, hL, hE, hx⟩
    rw [Int.pow_zero]
    have hs1 := hx.size
    simp only [World.size_alloc] at l0 b0 hs1
    have HNE := Lib.hid hne; clear hne
    have hW : WA (w1.alloc (.cells (wlkCells s f o (fun i => jumpOf js i) s 1 (some bl) (some bb)) 57)) w1.heap.size s f o (fun i => jumpOf js i) s (f ^ 0) (some bl) (some bb) := by rw [Int.pow_zero]; exact heap_alloc_at _ _ _ rfl
    have hL1 := hL.alloc (.cells (wlkCells s f o (fun i => jumpOf js i) s 1 (some bl) (some bb)) 57)
    have hE1 := hE.alloc (.cells (wlkCells s f o (fun i => jumpOf js i) s 1 (some bl) (some bb)) 57)
    have hB1 : Below w.heap.size w (w1.alloc (.cells (wlkCells s f o (fun i => jumpOf js i) s 1 (some bl) (some bb)) 57)) := ((below1 _ _).trans (hx.mono (by simp))).alloc (by omega) _
    clear hL hE
    go_wp2_with fail
    clear hst
    go_loopw [10] (fun i wr => ∃ (k l b : Nat), k ≤ 20 ∧ i = .int .i64 k ∧ R = leastT (halfP s f o js sq) (20 - k) k ∧ WA wr w1.heap.size s f o (fun i => jumpOf js i) s (f ^ k) (some l) (some b) ∧ SW wr l (ct s f o js s sq k) ∧ SW wr b (fun _ _ => 0) ∧ l ≠ b ∧ (w.heap.size + 1 ≤ l ∧ w.heap.size + 1 ≤ b) ∧
      Below w.heap.size w wr) (fun i _ => 20 - (intOf i).toNat)
    case atStart => exact ⟨0, bl, bb, Nat.zero_le _, rfl, HR.out, hW, hL1, hE1, HNE.out, ⟨l0, b0⟩, hB1⟩
    case round =>
      clear hW hL1 hE1 hB1
      obtain ⟨k, l, b, hk, rfl, hRk, hW, hL, hE, hne, hlb, hB⟩ := hrel
      have HNE2 := Lib.hid hne; have HRK := Lib.hid hRk; clear hne hRk
      have hwl := heap_lt hW
      have hll := hL.lt
      have hel := hE.lt
      cases hp : halfP s f o js sq k
      · have HP := Lib.hid hp; clear hp
        by_cases hlt : k < 20
        · have h20 : ((k : Int) == 20) = false := by simp; omega
          go_wp2_with fail
          refine (half_any _ _ _ _ _ _ _ k _ _ hW hL (asked_good HA.out) (asked_on HA.out) (by omega)).mono ?_
          rintro e w5 ⟨rfl, hx5⟩
          rw [HP.out]
          have hW5 : WA w5 w1.heap.size s f o (fun i => jumpOf js i) s (f ^ k) (some l) (some b) := (hx5.block _ hwl).trans hW
          have hL5 := hL.below hx5 hll
          have hE5 := hE.below hx5 hel
          have hB5 := hB.trans (hx5.mono hB.size)
          clear hW hL hE hB
          go_wp2_with (go_at_call 68; refine (throw_oth _ _ _ _ _ _ _ _ _ _ _ hW5 hL5 hE5 HNE2.out (asked_good HA.out) (asked_on HA.out) (by omega)).mono ?_; rintro e w6 ⟨rfl, hW6, hL6, hE6, hx6⟩)
          go_roundw
          case rel => exact ⟨k + 1, b, l, hlt, by go_num, by rw [HRK.out, show 20 - k = (20 - (k + 1)) + 1 by omega, leastT_next HP.out], hW6, hL6, hE6, HNE2.out.symm, ⟨hlb.2, hlb.1⟩, hB5.trans (hx6.bel (heap_lt hW5) (by omega) (by omega) (by omega))⟩
          case measure => simp [intOf]; omega
        · obtain rfl : k = 20 := by omega
          go_wp2_with fail
          refine (half_any _ _ _ _ _ _ _ 20 _ _ hW hL (asked_good HA.out) (asked_on HA.out) (by omega)).mono ?_
          rintro e w5 ⟨rfl, hx5⟩
          rw [HP.out]
          have hB5 := hB.trans (hx5.mono hB.size)
          clear hW hL hE hB
          go_wp2
          go_ret2
          have e0 : R = (0, false) := by rw [HRK.out]; exact leastT_end HP.out
          rw [e0]
          exact ⟨rfl, hB5⟩
      · have HP := Lib.hid hp; clear hp
        go_wp2_with fail
        refine (half_any _ _ _ _ _ _ _ k _ _ hW hL (asked_good HA.out) (asked_on HA.out) (by omega)).mono ?_
        rintro e w5 ⟨rfl, hx5⟩
        rw [HP.out]
        have hB5 := hB.trans (hx5.mono hB.size)
        clear hW hL hE hB
        go_wp2
        go_ret2
        have e0 : R = ((k : Int), true) := by rw [HRK.out]; exact leastT_hit _ HP.out
        rw [e0]
        exact ⟨rfl, hB5⟩

set_option maxHeartbeats 400000 in
theorem implHalfDone_any (s f o : Int) (A : Option Addr) (c : Nat) (sq : Int) (js : List (Int × Int)) (w : World) (hj : RJ w w.heap.size A js) :
    Calls Try.prog 35 #[.agg #[.int .i64 s, .int .i64 f, .int .i64 o, .slice A js.length c], .int .i64 sq] w (NumIs w (untilR (halfP s f o js sq) (asked s f o js sq))) := by
  have hl := hj.1
  obtain ⟨R, hR⟩ : ∃ R, R = untilR (halfP s f o js sq) (asked s f o js sq) := ⟨_, rfl⟩
  have hc := firstHalf_any s f o A c sq js
  rw [← hR] at hc ⊢
  obtain ⟨n, ok⟩ := R
  have HC := Lib.hid hc; clear hc hR
  go_enter Try.func35, Try.ntmps35
  go_wp2_with (go_at_call 62; refine (HC.out _ (hj.go (below1 _ _))).mono ?_; rintro e w2 ⟨rfl, hx⟩)
  go_ret2
  exact ⟨rfl, (below1 _ _).trans (hx.mono (by simp))⟩

set_option maxRecDepth 100000 in
set_option maxHeartbeats 1000000 in
theorem firstAll_any (s f o : Int) (A : Option Addr) (c : Nat) (sq : Int) (js : List (Int × Int)) (w : World) (hj : RJ w w.heap.size A js) :
    Calls Try.prog 62 #[.agg #[.int .i64 s, .int .i64 f, .int .i64 o, .slice A js.length c], .int .i64 sq, .func (.func 64) #[] #[]] w (NumIs w (untilR (overP s f o js sq) (asked s f o js sq))) := by
  have hl := hj.1
  cases ha : asked s f o js sq
  · have ht : untilR (overP s f o js sq) false = (0, false) := rfl
    rw [ht]
    have hn : (asked s f o js sq && decide (0 ≤ (0 : Int)) && decide ((0 : Int) ≤ 20)) = false := by rw [ha]; rfl
    have hst := fun w => storeWalk 0 0 0 (fun _ => 0) 0 0 none none w
    have HN := Lib.hid hn; clear ha ht hn
    go_enter Try.func62, Try.ntmps62
    go_wp2_with (go_at_call 50; refine (walkHome_no _ _ _ _ _ _ _ _ _ _ (hj.go (below1 _ _)) HN.out).mono ?_; rintro e w2 ⟨rfl, hx⟩)
    go_ret2
    exact ⟨rfl, ((below1 _ _).trans (hx.mono (by simp))).alloc (by have := hx.size; simp at this; omega) _⟩
  · have hz := good_sizes (asked_good ha)
    have ht : untilR (overP s f o js sq) true = leastT (overP s f o js sq) 20 0 := rfl
    rw [ht]
    obtain ⟨R, hR⟩ : ∃ R, R = leastT (overP s f o js sq) 20 0 := ⟨_, rfl⟩
    rw [← hR]
    have HA := Lib.hid ha; have HR := Lib.hid hR; clear ha ht hR
    have hst : ∀ (x y : Option Nat) (w : World), (storeCells ⟨w.heap.size, 0, none⟩ (wlkCells s f o (fun i => jumpOf js i) s 1 x y).toList 0).run Try.prog (w.alloc (.cells Try.zeroCells57 57)) = .ok () (w.alloc (.cells (wlkCells s f o (fun i => jumpOf js i) s 1 x y) 57)) := fun x y w => storeWalk _ _ _ _ _ _ _ _ w
    go_enter Try.func62, Try.ntmps62
    go_wp2_with fail
    refine (walkHome_yes _ _ _ _ _ _ _ 0 _ _ (hj.go (below1 _ _)) HA.out (by omega) (by omega)).mono ?_
    rintro e w1 ⟨bl, bb, rfl, l0, b0, hne, l1, b1, hL, hE, hx⟩
    rw [Int.pow_zero]
    have hs1 := hx.size
    simp only [World.size_alloc] at l0 b0 hs1
    have HNE := Lib.hid hne; clear hne
    have hW : WA (w1.alloc (.cells (wlkCells s f o (fun i => jumpOf js i) s 1 (some bl) (some bb)) 57)) w1.heap.size s f o (fun i => jumpOf js i) s (f ^ 0) (some bl) (some bb) := by rw [Int.pow_zero]; exact heap_alloc_at _ _ _ rfl
    have hL1 := hL.alloc (.cells (wlkCells s f o (fun i => jumpOf js i) s 1 (some bl) (some bb)) 57)
    have hE1 := hE.alloc (.cells (wlkCells s f o (fun i => jumpOf js i) s 1 (some bl) (some bb)) 57)
    have hB1 : Below w.heap.size w (w1.alloc (.cells (wlkCells s f o (fun i => jumpOf js i) s 1 (some bl) (some bb)) 57)) := ((below1 _ _).trans (hx.mono (by simp))).alloc (by omega) _
    clear hL hE
    go_wp2_with fail
    clear hst
    go_loopw [10] (fun i wr => ∃ (k l b : Nat), k ≤ 20 ∧ i = .int .i64 k ∧ R = leastT (overP s f o js sq) (20 - k) k ∧ WA wr w1.heap.size s f o (fun i => jumpOf js i) s (f ^ k) (some l) (some b) ∧ SW wr l (ct s f o js s sq k) ∧ SW wr b (fun _ _ => 0) ∧ l ≠ b ∧ (w.heap.size + 1 ≤ l ∧ w.heap.size + 1 ≤ b) ∧
      Below w.heap.size w wr) (fun i _ => 20 - (intOf i).toNat)
    case atStart => exact ⟨0, bl, bb, Nat.zero_le _, rfl, HR.out, hW, hL1, hE1, HNE.out, ⟨l0, b0⟩, hB1⟩
    case round =>
      clear hW hL1 hE1 hB1
      obtain ⟨k, l, b, hk, rfl, hRk, hW, hL, hE, hne, hlb, hB⟩ := hrel
      have HNE2 := Lib.hid hne; have HRK := Lib.hid hRk; clear hne hRk
      have hwl := heap_lt hW
      have hll := hL.lt
      have hel := hE.lt
      cases hp : overP s f o js sq k
      · have HP := Lib.hid hp; clear hp
        by_cases hlt : k < 20
        · have h20 : ((k : Int) == 20) = false := by simp; omega
          go_wp2_with fail
          refine (over_any _ _ _ _ _ _ _ k _ _ _ hW hL (asked_good HA.out) (asked_on HA.out)).mono ?_
          rintro e w5 ⟨rfl, hx5⟩
          rw [HP.out]
          have hW5 : WA w5 w1.heap.size s f o (fun i => jumpOf js i) s (f ^ k) (some l) (some b) := (hx5.block _ hwl).trans hW
          have hL5 := hL.below hx5 hll
          have hE5 := hE.below hx5 hel
          have hB5 := hB.trans (hx5.mono hB.size)
          clear hW hL hE hB
          go_wp2_with (go_at_call 68; refine (throw_oth _ _ _ _ _ _ _ _ _ _ _ hW5 hL5 hE5 HNE2.out (asked_good HA.out) (asked_on HA.out) (by omega)).mono ?_; rintro e w6 ⟨rfl, hW6, hL6, hE6, hx6⟩)
          go_roundw
          case rel => exact ⟨k + 1, b, l, hlt, by go_num, by rw [HRK.out, show 20 - k = (20 - (k + 1)) + 1 by omega, leastT_next HP.out], hW6, hL6, hE6, HNE2.out.symm, ⟨hlb.2, hlb.1⟩, hB5.trans (hx6.bel (heap_lt hW5) (by omega) (by omega) (by omega))⟩
          case measure => simp [intOf]; omega
        · obtain rfl : k = 20 := by omega
          go_wp2_with fail
          refine (over_any _ _ _ _ _ _ _ 20 _ _ _ hW hL (asked_good HA.out) (asked_on HA.out)).mono ?_
          rintro e w5 ⟨rfl, hx5⟩
          rw [HP.out]
          have hB5 := hB.trans (hx5.mono hB.size)
          clear hW hL hE hB
          go_wp2
          go_ret2
          have e0 : R = (0, false) := by rw [HRK.out]; exact leastT_end HP.out
          rw [e0]
          exact ⟨rfl, hB5⟩
      · have HP := Lib.hid hp; clear hp
        go_wp2_with fail
        refine (over_any _ _ _ _ _ _ _ k _ _ _ hW hL (asked_good HA.out) (asked_on HA.out)).mono ?_
        rintro e w5 ⟨rfl, hx5⟩
        rw [HP.out]
        have hB5 := hB.trans (hx5.mono hB.size)
        clear hW hL hE hB
        go_wp2
        go_ret2
        have e0 : R = ((k : Int), true) := by rw [HRK.out]; exact leastT_hit _ HP.out
        rw [e0]
        exact ⟨rfl, hB5⟩

set_option maxHeartbeats 400000 in
theorem implAllDone_any (s f o : Int) (A : Option Addr) (c : Nat) (sq : Int) (js : List (Int × Int)) (w : World) (hj : RJ w w.heap.size A js) :
    Calls Try.prog 37 #[.agg #[.int .i64 s, .int .i64 f, .int .i64 o, .slice A js.length c], .int .i64 sq] w (NumIs w (untilR (overP s f o js sq) (asked s f o js sq))) := by
  have hl := hj.1
  obtain ⟨R, hR⟩ : ∃ R, R = untilR (overP s f o js sq) (asked s f o js sq) := ⟨_, rfl⟩
  have hc := firstAll_any s f o A c sq js
  rw [← hR] at hc ⊢
  obtain ⟨n, ok⟩ := R
  have HC := Lib.hid hc; clear hc hR
  go_enter Try.func37, Try.ntmps37
  go_wp2_with (go_at_call 62; refine (HC.out _ (hj.go (below1 _ _))).mono ?_; rintro e w2 ⟨rfl, hx⟩)
  go_ret2
  exact ⟨rfl, (below1 _ _).trans (hx.mono (by simp))⟩

set_option maxRecDepth 100000 in
set_option maxHeartbeats 4000000 in
theorem untilHalf_any (S : Nat) (f o : Int) (A : Option Addr) (c : Nat) (sq : Int) (js : List (Int × Int)) (w : World) (hj : RJ w w.heap.size A js) (ha : asked S f o js sq = true) :
    Calls Try.prog 61 #[.agg #[.int .i64 S, .int .i64 f, .int .i64 o, .slice A js.length c], .int .i64 sq, .int .i64 2] w (NumIs w (leastT (halfP S f o js sq) 20 0)) := by
  have hl := hj.1
  have hz := good_sizes (asked_good ha)
  obtain ⟨R, hR⟩ : ∃ R, R = leastT (halfP S f o js sq) 20 0 := ⟨_, rfl⟩
  rw [← hR]
  have HA := Lib.hid ha; have HR := Lib.hid hR; clear ha hR
  have iq : (S : Int) < ((nsq S : Nat) : Int) := by unfold nsq; omega
  have iqn : S < nsq S := by omega
  have iq0 : (0 : Int) ≤ (S : Int) := by omega
  go_enter Try.func61, Try.ntmps61
  go_wp2
  go_loopw [8, 9] (fun i _ wr => ∃ k : Nat, k ≤ 21 ∧ i = .int .i64 (k : Int) ∧ (k ≤ 20 → R = leastT (halfP S f o js sq) (20 - k) k) ∧ (k = 21 → R = (0, false)) ∧ Below (w.heap.size + 1) (w.alloc (.cells #[.int .i64 S, .int .i64 f, .int .i64 o, .slice A js.length c] 31)) wr) (fun i _ _ => 21 - (intOf i).toNat)
  case atStart => exact ⟨0, by omega, rfl, fun _ => HR.out, fun h => by omega, Below.refl _ _⟩
  case round =>
    obtain ⟨k, hk, rfl, hRk, hRe, hb⟩ := hrel
    have HRK := Lib.hid hRk; have HRE := Lib.hid hRe; clear hRk hRe
    by_cases hlt : k ≤ 20
    · have h3 : (k : Int) ≤ 20 := by omega
      have hp := pow_lt63 hz.2.1.1 hz.2.1.2 hlt
      have hpl := pl_le (asked_good HA.out) (asked_on HA.out) k S
      obtain ⟨D, hD⟩ := Int.eq_ofNat_of_zero_le (pl_nonneg S f o js sq k S)
      obtain ⟨F, hF⟩ := Int.eq_ofNat_of_zero_le (show 0 ≤ f ^ k by omega)
      rw [hD] at hpl
      rw [hF] at hp hpl
      have hPD : halfP S f o js sq k = decide ((F : Int) ≤ 2 * (D : Int)) := by rw [halfP, hD, hF]
      obtain ⟨L, hL⟩ : ∃ L : Nat, F = D + L := ⟨F - D, by omega⟩
      have e1 : IntKind.i64.wrap ((F : Int) - (D : Int)) = (L : Int) := by rw [IntWalk.i64_in _ (by omega)]; omega
      have HD := Lib.hid hD; have HF := Lib.hid hF
      have kk := hb.drew
      clear hD hF
      have hF9 : (F : Int) ≤ 1152921504606846976 := by omega
      cases hP : halfP S f o js sq k
      · have hP2 : ¬ ((F : Int) ≤ 2 * (D : Int)) := by rw [hPD] at hP; simpa using hP
        have t1 : ¬ (L : Int) ≤ (F : Int) / 2 := by omega
        have t2 : ((L : Int) == 0) = false := by simp; omega
        have HP := Lib.hid hP; clear hP hPD hP2 hL hp hpl
        go_wp2_with fail
        refine wp_region_held_drew (S := (fun w' => Below (w.heap.size + 1) (w.alloc (.cells #[.int .i64 S, .int .i64 f, .int .i64 o, .slice A js.length c] 31)) w' ∧ (∀ i, w'.cell? ⟨w.heap.size, i, none⟩ = #[.int .i64 S, .int .i64 f, .int .i64 o, .slice A js.length c][i]?))) (by kernel_rfl) ⟨kk, boxcells kk⟩ (fun hS => ?_)
        refine wpAnyH_take (i := 0) (oi := ⟨some 14, _, _, _, _, _⟩) (v := ?va1) rfl (by kernel_rfl) (by kernel_rfl) (by kernel_rfl) (fun _ _ _ h => h) (Or.inl ⟨by rfl, ?ha1⟩) hS ?ra1
        case ha1 => (intro w' hSw; (try dsimp only at hSw); go_simp; (try with_reducible rfl))
        try simp only [Act.put, List.setIfInBounds_toArray, List.set_cons_zero, List.set_cons_succ]
        refine wpAnyH_take (i := 1) (oi := ⟨some 15, _, _, _, _, _⟩) (v := ?va2) rfl (by kernel_rfl) (by kernel_rfl) (by kernel_rfl) (fun _ _ _ h => h) (Or.inl ⟨by rfl, ?ha2⟩) hS ?ra2
        case ha2 => (intro w' hSw; (try dsimp only at hSw); go_simp; (try with_reducible rfl))
        try simp only [Act.put, List.setIfInBounds_toArray, List.set_cons_zero, List.set_cons_succ]
        refine wpAnyH_take (i := 3) (oi := ⟨some 17, _, _, _, _, _⟩) (v := ?va3) rfl (by kernel_rfl) (by kernel_rfl) (by kernel_rfl) (fun _ _ _ h => h) (Or.inl ⟨by rfl, ?ha3⟩) hS ?ra3
        case ha3 => (intro w' hSw; (try dsimp only at hSw); go_simp; (try with_reducible rfl))
        try simp only [Act.put, List.setIfInBounds_toArray, List.set_cons_zero, List.set_cons_succ]
        refine wpAnyH_take (i := 4) (oi := ⟨some 18, _, _, _, _, _⟩) (v := ?va4) rfl (by kernel_rfl) (by kernel_rfl) (by kernel_rfl) (fun _ _ _ h => h) (Or.inl ⟨by rfl, ?ha4⟩) hS ?ra4
        case ha4 => (intro w' hSw; (try dsimp only at hSw); go_simp; (try with_reducible rfl))
        try simp only [Act.put, List.setIfInBounds_toArray, List.set_cons_zero, List.set_cons_succ]
        refine wpAnyH_take (i := 5) (oi := ⟨some 19, _, _, _, _, _⟩) (v := ?va5) rfl (by kernel_rfl) (by kernel_rfl) (by kernel_rfl) (fun _ _ _ h => h) (Or.inl ⟨by rfl, ?ha5⟩) hS ?ra5
        case ha5 => (intro w' hSw; (try dsimp only at hSw); go_simp; (try with_reducible rfl))
        try simp only [Act.put, List.setIfInBounds_toArray, List.set_cons_zero, List.set_cons_succ]
        refine wpAnyH_take (i := 7) (oi := ⟨some 21, _, _, _, _, _⟩) (v := ?va6) rfl (by kernel_rfl) (by kernel_rfl) (by kernel_rfl) (fun _ _ _ h => h) (Or.inl ⟨by rfl, ?ha6⟩) hS ?ra6
        case ha6 => (intro w' hSw; (try dsimp only at hSw); go_simp; (try with_reducible rfl))
        try simp only [Act.put, List.setIfInBounds_toArray, List.set_cons_zero, List.set_cons_succ]
        refine wpAnyH_take (i := 8) (oi := ⟨some 22, _, _, _, _, _⟩) (v := ?va7) rfl (by kernel_rfl) (by kernel_rfl) (by kernel_rfl) (fun _ _ _ h => h) (Or.inl ⟨by rfl, ?ha7⟩) hS ?ra7
        case ha7 => (intro w' hSw; (try dsimp only at hSw); go_simp; (try with_reducible rfl))
        try simp only [Act.put, List.setIfInBounds_toArray, List.set_cons_zero, List.set_cons_succ]
        refine wpAnyH_ready (rs := [2]) (by kernel_rfl) (by simp) ?_
        refine AllReadyH.cons (o := ⟨some 16, _, _, _, _, _⟩) rfl (fun K' hK' => ?_) AllReadyH.nil
        go_simp
        go_at_call 65
        refine (chAll_any _ _ _ _ _ _ k _ hz.2.1.1 hz.2.1.2 hlt).mono ?_
        rintro e w5 ⟨rfl, hx5⟩
        rw [HF.out]
        replace kk := box_on kk hx5 (by have := kk.size; simpa using this)
        try replace d4 := keepcell hx5 d4
        refine hK'.out _ _ ⟨kk, boxcells kk⟩ (fun _ => ?_)
        clear hK' K'
        try simp only [Act.put, List.setIfInBounds_toArray, List.set_cons_zero, List.set_cons_succ]
        refine wpAnyH_ready (rs := [6]) (by kernel_rfl) (by simp) ?_
        refine AllReadyH.cons (o := ⟨some 20, _, _, _, _, _⟩) rfl (fun K' hK' => ?_) AllReadyH.nil
        go_simp
        go_at_call 48
        refine (chPlaces_any _ _ _ _ _ _ k _ _ (hj.go ((below1 _ _).trans (kk.mono (by omega)))) HA.out hlt).mono ?_
        rintro e w6 ⟨g, rfl, hgg, hrow, hx6⟩
        have d4 := hrow.cell iqn
        rw [HD.out] at d4
        replace kk := box_on kk hx6 (by have := kk.size; simpa using this)
        refine hK'.out _ _ ⟨kk, boxcells kk⟩ (fun _ => ?_)
        clear hK' K'
        try simp only [Act.put, List.setIfInBounds_toArray, List.set_cons_zero, List.set_cons_succ]
        refine wpAnyH_take (i := 9) (oi := ⟨some 23, _, _, _, _, _⟩) (v := ?va8) rfl (by kernel_rfl) (by kernel_rfl) (by kernel_rfl) (fun _ _ _ h => h) (Or.inl ⟨by rfl, ?ha8⟩) ⟨kk, boxcells kk⟩ ?ra8
        case ha8 => (intro w' hSw; (try dsimp only at hSw); go_simp; (try with_reducible rfl))
        try simp only [Act.put, List.setIfInBounds_toArray, List.set_cons_zero, List.set_cons_succ]
        refine wpAnyH_ready (rs := [10]) (by kernel_rfl) (by simp) ?_
        refine AllReadyH.cons (o := ⟨some 24, _, _, _, _, _⟩) rfl (fun K' hK' => ?_) AllReadyH.nil
        go_simp
        refine hK'.out _ _ ⟨kk, boxcells kk⟩ (fun _ => ?_)
        clear hK' K'
        try simp only [Act.put, List.setIfInBounds_toArray, List.set_cons_zero, List.set_cons_succ]
        refine wpAnyH_take (i := 11) (oi := ⟨some 25, _, _, _, _, _⟩) (v := ?va9) rfl (by kernel_rfl) (by kernel_rfl) (by kernel_rfl) (fun _ _ _ h => h) (Or.inl ⟨by rfl, ?ha9⟩) ⟨kk, boxcells kk⟩ ?ra9
        case ha9 => (intro w' hSw; (try dsimp only at hSw); go_simp; (try with_reducible rfl))
        try simp only [Act.put, List.setIfInBounds_toArray, List.set_cons_zero, List.set_cons_succ]
        refine wpAnyH_ready (rs := [12]) (by kernel_rfl) (by simp) ?_
        refine AllReadyH.cons (o := ⟨some 9, _, _, _, _, _⟩) rfl (fun K' hK' => ?_) AllReadyH.nil
        go_simp
        refine hK'.out _ _ ⟨kk, boxcells kk⟩ (fun _ => ?_)
        clear hK' K'
        try simp only [Act.put, List.setIfInBounds_toArray, List.set_cons_zero, List.set_cons_succ]
        refine wpAnyH_done (by kernel_rfl) ?_ _
        all_goals
          have q5 := boxcells kk
          try simp only [e1]
          go_wp2_with (go_at_call 65; refine (chAll_any _ _ _ _ _ _ k _ hz.2.1.1 hz.2.1.2 hlt).mono ?_; rintro e w7 ⟨rfl, hx7⟩; rw [HF.out]; have k7 := box_on kk hx7 (by have := kk.size; simpa using this))
          go_roundw
          case rel =>
            refine ⟨k + 1, by omega, by go_num, fun h => ?_, fun h => ?_, k7⟩
            · rw [HRK.out hlt, show 20 - k = (20 - (k + 1)) + 1 by omega, leastT_next HP.out]
            · have e20 : k = 20 := by omega
              subst e20
              rw [HRK.out (Nat.le_refl _)]
              exact leastT_end HP.out
          case measure => simp [intOf]; omega
      · have hP2 : (F : Int) ≤ 2 * (D : Int) := by rw [hPD] at hP; simpa using hP
        have t1 : (L : Int) ≤ (F : Int) / 2 := by omega
        have HP := Lib.hid hP; clear hP hPD hP2 hL hp hpl
        go_wp2_with fail
        refine wp_region_held_drew (S := (fun w' => Below (w.heap.size + 1) (w.alloc (.cells #[.int .i64 S, .int .i64 f, .int .i64 o, .slice A js.length c] 31)) w' ∧ (∀ i, w'.cell? ⟨w.heap.size, i, none⟩ = #[.int .i64 S, .int .i64 f, .int .i64 o, .slice A js.length c][i]?))) (by kernel_rfl) ⟨kk, boxcells kk⟩ (fun hS => ?_)
        refine wpAnyH_take (i := 0) (oi := ⟨some 14, _, _, _, _, _⟩) (v := ?vb1) rfl (by kernel_rfl) (by kernel_rfl) (by kernel_rfl) (fun _ _ _ h => h) (Or.inl ⟨by rfl, ?hb1⟩) hS ?rb1
        case hb1 => (intro w' hSw; (try dsimp only at hSw); go_simp; (try with_reducible rfl))
        try simp only [Act.put, List.setIfInBounds_toArray, List.set_cons_zero, List.set_cons_succ]
        refine wpAnyH_take (i := 1) (oi := ⟨some 15, _, _, _, _, _⟩) (v := ?vb2) rfl (by kernel_rfl) (by kernel_rfl) (by kernel_rfl) (fun _ _ _ h => h) (Or.inl ⟨by rfl, ?hb2⟩) hS ?rb2
        case hb2 => (intro w' hSw; (try dsimp only at hSw); go_simp; (try with_reducible rfl))
        try simp only [Act.put, List.setIfInBounds_toArray, List.set_cons_zero, List.set_cons_succ]
        refine wpAnyH_take (i := 3) (oi := ⟨some 17, _, _, _, _, _⟩) (v := ?vb3) rfl (by kernel_rfl) (by kernel_rfl) (by kernel_rfl) (fun _ _ _ h => h) (Or.inl ⟨by rfl, ?hb3⟩) hS ?rb3
        case hb3 => (intro w' hSw; (try dsimp only at hSw); go_simp; (try with_reducible rfl))
        try simp only [Act.put, List.setIfInBounds_toArray, List.set_cons_zero, List.set_cons_succ]
        refine wpAnyH_take (i := 4) (oi := ⟨some 18, _, _, _, _, _⟩) (v := ?vb4) rfl (by kernel_rfl) (by kernel_rfl) (by kernel_rfl) (fun _ _ _ h => h) (Or.inl ⟨by rfl, ?hb4⟩) hS ?rb4
        case hb4 => (intro w' hSw; (try dsimp only at hSw); go_simp; (try with_reducible rfl))
        try simp only [Act.put, List.setIfInBounds_toArray, List.set_cons_zero, List.set_cons_succ]
        refine wpAnyH_take (i := 5) (oi := ⟨some 19, _, _, _, _, _⟩) (v := ?vb5) rfl (by kernel_rfl) (by kernel_rfl) (by kernel_rfl) (fun _ _ _ h => h) (Or.inl ⟨by rfl, ?hb5⟩) hS ?rb5
        case hb5 => (intro w' hSw; (try dsimp only at hSw); go_simp; (try with_reducible rfl))
        try simp only [Act.put, List.setIfInBounds_toArray, List.set_cons_zero, List.set_cons_succ]
        refine wpAnyH_take (i := 7) (oi := ⟨some 21, _, _, _, _, _⟩) (v := ?vb6) rfl (by kernel_rfl) (by kernel_rfl) (by kernel_rfl) (fun _ _ _ h => h) (Or.inl ⟨by rfl, ?hb6⟩) hS ?rb6
        case hb6 => (intro w' hSw; (try dsimp only at hSw); go_simp; (try with_reducible rfl))
        try simp only [Act.put, List.setIfInBounds_toArray, List.set_cons_zero, List.set_cons_succ]
        refine wpAnyH_take (i := 8) (oi := ⟨some 22, _, _, _, _, _⟩) (v := ?vb7) rfl (by kernel_rfl) (by kernel_rfl) (by kernel_rfl) (fun _ _ _ h => h) (Or.inl ⟨by rfl, ?hb7⟩) hS ?rb7
        case hb7 => (intro w' hSw; (try dsimp only at hSw); go_simp; (try with_reducible rfl))
        try simp only [Act.put, List.setIfInBounds_toArray, List.set_cons_zero, List.set_cons_succ]
        refine wpAnyH_ready (rs := [2]) (by kernel_rfl) (by simp) ?_
        refine AllReadyH.cons (o := ⟨some 16, _, _, _, _, _⟩) rfl (fun K' hK' => ?_) AllReadyH.nil
        go_simp
        go_at_call 65
        refine (chAll_any _ _ _ _ _ _ k _ hz.2.1.1 hz.2.1.2 hlt).mono ?_
        rintro e w5 ⟨rfl, hx5⟩
        rw [HF.out]
        replace kk := box_on kk hx5 (by have := kk.size; simpa using this)
        try replace d4 := keepcell hx5 d4
        refine hK'.out _ _ ⟨kk, boxcells kk⟩ (fun _ => ?_)
        clear hK' K'
        try simp only [Act.put, List.setIfInBounds_toArray, List.set_cons_zero, List.set_cons_succ]
        refine wpAnyH_ready (rs := [6]) (by kernel_rfl) (by simp) ?_
        refine AllReadyH.cons (o := ⟨some 20, _, _, _, _, _⟩) rfl (fun K' hK' => ?_) AllReadyH.nil
        go_simp
        go_at_call 48
        refine (chPlaces_any _ _ _ _ _ _ k _ _ (hj.go ((below1 _ _).trans (kk.mono (by omega)))) HA.out hlt).mono ?_
        rintro e w6 ⟨g, rfl, hgg, hrow, hx6⟩
        have d4 := hrow.cell iqn
        rw [HD.out] at d4
        replace kk := box_on kk hx6 (by have := kk.size; simpa using this)
        refine hK'.out _ _ ⟨kk, boxcells kk⟩ (fun _ => ?_)
        clear hK' K'
        try simp only [Act.put, List.setIfInBounds_toArray, List.set_cons_zero, List.set_cons_succ]
        refine wpAnyH_take (i := 9) (oi := ⟨some 23, _, _, _, _, _⟩) (v := ?vb8) rfl (by kernel_rfl) (by kernel_rfl) (by kernel_rfl) (fun _ _ _ h => h) (Or.inl ⟨by rfl, ?hb8⟩) ⟨kk, boxcells kk⟩ ?rb8
        case hb8 => (intro w' hSw; (try dsimp only at hSw); go_simp; (try with_reducible rfl))
        try simp only [Act.put, List.setIfInBounds_toArray, List.set_cons_zero, List.set_cons_succ]
        refine wpAnyH_ready (rs := [10]) (by kernel_rfl) (by simp) ?_
        refine AllReadyH.cons (o := ⟨some 24, _, _, _, _, _⟩) rfl (fun K' hK' => ?_) AllReadyH.nil
        go_simp
        refine hK'.out _ _ ⟨kk, boxcells kk⟩ (fun _ => ?_)
        clear hK' K'
        try simp only [Act.put, List.setIfInBounds_toArray, List.set_cons_zero, List.set_cons_succ]
        refine wpAnyH_take (i := 11) (oi := ⟨some 25, _, _, _, _, _⟩) (v := ?vb9) rfl (by kernel_rfl) (by kernel_rfl) (by kernel_rfl) (fun _ _ _ h => h) (Or.inl ⟨by rfl, ?hb9⟩) ⟨kk, boxcells kk⟩ ?rb9
        case hb9 => (intro w' hSw; (try dsimp only at hSw); go_simp; (try with_reducible rfl))
        try simp only [Act.put, List.setIfInBounds_toArray, List.set_cons_zero, List.set_cons_succ]
        refine wpAnyH_ready (rs := [12]) (by kernel_rfl) (by simp) ?_
        refine AllReadyH.cons (o := ⟨some 9, _, _, _, _, _⟩) rfl (fun K' hK' => ?_) AllReadyH.nil
        go_simp
        refine hK'.out _ _ ⟨kk, boxcells kk⟩ (fun _ => ?_)
        clear hK' K'
        try simp only [Act.put, List.setIfInBounds_toArray, List.set_cons_zero, List.set_cons_succ]
        refine wpAnyH_done (by kernel_rfl) ?_ _
        all_goals
          have q5 := boxcells kk
          try simp only [e1]
          go_wp2_with (go_at_call 65; refine (chAll_any _ _ _ _ _ _ k _ hz.2.1.1 hz.2.1.2 hlt).mono ?_; rintro e w7 ⟨rfl, hx7⟩; rw [HF.out]; have k7 := box_on kk hx7 (by have := kk.size; simpa using this))
          go_ret2
          have e0 : R = ((k : Int), true) := by rw [HRK.out hlt]; exact leastT_hit _ HP.out
          rw [e0]
          exact ⟨rfl, (below1 _ _).trans (k7.mono (by omega))⟩
    · have h3 : ¬ (k : Int) ≤ 20 := by omega
      have e0 : R = (0, false) := HRE.out (by omega)
      have HE := Lib.hid e0; clear e0
      go_wp2
      go_ret2
      rw [HE.out]
      exact ⟨rfl, (below1 _ _).trans (hb.mono (by omega))⟩

set_option maxHeartbeats 400000 in
theorem specHalfDone_any (s f o : Int) (A : Option Addr) (c : Nat) (sq : Int) (js : List (Int × Int)) (w : World) (hj : RJ w w.heap.size A js) :
    Calls Try.prog 34 #[.agg #[.int .i64 s, .int .i64 f, .int .i64 o, .slice A js.length c], .int .i64 sq] w (NumIs w (untilR (halfP s f o js sq) (asked s f o js sq))) := by
  have hl := hj.1
  cases ha : asked s f o js sq
  · have ht : untilR (halfP s f o js sq) false = (0, false) := rfl
    rw [ht]
    have HA := Lib.hid ha; clear ha ht
    go_enter Try.func34, Try.ntmps34
    go_wp2_with (go_at_call 60; refine (sqAsked_any _ _ _ _ _ _ _ _ (hj.go (below1 _ _))).mono ?_; rintro e w2 ⟨rfl, hx⟩; rw [HA.out])
    go_ret2
    exact ⟨rfl, (below1 _ _).trans (hx.mono (by simp))⟩
  · have hz := good_sizes (asked_good ha)
    obtain ⟨S, rfl⟩ := Int.eq_ofNat_of_zero_le (show 0 ≤ s by omega)
    have ht : untilR (halfP S f o js sq) true = leastT (halfP S f o js sq) 20 0 := rfl
    rw [ht]
    obtain ⟨R, hR⟩ : ∃ R, R = leastT (halfP S f o js sq) 20 0 := ⟨_, rfl⟩
    have hc := fun w hj => untilHalf_any S f o A c sq js w hj ha
    rw [← hR] at hc ⊢
    obtain ⟨n, ok⟩ := R
    have HC := Lib.hid hc; have HA := Lib.hid ha; clear hc hR ha ht
    go_enter Try.func34, Try.ntmps34
    go_wp2_with fail
    refine (sqAsked_any _ _ _ _ _ _ _ _ (hj.go (below1 _ _))).mono ?_
    rintro e w2 ⟨rfl, hx⟩
    rw [HA.out]
    have hb := box_on (Below.refl _ _) hx (by simp)
    have q := boxcells hb
    have hB2 := (below1 w (.cells #[.int .i64 S, .int .i64 f, .int .i64 o, .slice A js.length c] 31)).trans (hb.mono (by omega))
    go_wp2_with (go_at_call 61; refine (HC.out _ (hj.go hB2)).mono ?_; rintro e w3 ⟨rfl, hx3⟩)
    go_ret2
    exact ⟨rfl, hB2.trans (hx3.mono hB2.size)⟩

theorem halfDone_both (s f o : Int) (js : List (Int × Int)) (sq : Int) : ∃ (x : Int) (ok : Bool),
    (∀ (A : Option Addr) (c : Nat) (W : World), RJ W W.heap.size A js → Calls Try.prog 34 #[.agg #[.int .i64 s, .int .i64 f, .int .i64 o, .slice A js.length c], .int .i64 sq] W (NumIs W (x, ok))) ∧
    (∀ (A : Option Addr) (c : Nat) (W : World), RJ W W.heap.size A js → Calls Try.prog 35 #[.agg #[.int .i64 s, .int .i64 f, .int .i64 o, .slice A js.length c], .int .i64 sq] W (NumIs W (x, ok))) := by
  obtain ⟨⟨x, ok⟩, hR⟩ : ∃ R, R = untilR (halfP s f o js sq) (asked s f o js sq) := ⟨_, rfl⟩
  exact ⟨x, ok, fun A c W hj => by rw [hR]; exact specHalfDone_any s f o A c sq js W hj, fun A c W hj => by rw [hR]; exact implHalfDone_any s f o A c sq js W hj⟩

set_option maxRecDepth 100000 in
set_option maxHeartbeats 4000000 in
theorem untilAll_any (S : Nat) (f o : Int) (A : Option Addr) (c : Nat) (sq : Int) (js : List (Int × Int)) (w : World) (hj : RJ w w.heap.size A js) (ha : asked S f o js sq = true) :
    Calls Try.prog 61 #[.agg #[.int .i64 S, .int .i64 f, .int .i64 o, .slice A js.length c], .int .i64 sq, .int .i64 1] w (NumIs w (leastT (overP S f o js sq) 20 0)) := by
  have hl := hj.1
  have hz := good_sizes (asked_good ha)
  obtain ⟨R, hR⟩ : ∃ R, R = leastT (overP S f o js sq) 20 0 := ⟨_, rfl⟩
  rw [← hR]
  have HA := Lib.hid ha; have HR := Lib.hid hR; clear ha hR
  have iq : (S : Int) < ((nsq S : Nat) : Int) := by unfold nsq; omega
  have iqn : S < nsq S := by omega
  have iq0 : (0 : Int) ≤ (S : Int) := by omega
  go_enter Try.func61, Try.ntmps61
  go_wp2
  go_loopw [8, 9] (fun i _ wr => ∃ k : Nat, k ≤ 21 ∧ i = .int .i64 (k : Int) ∧ (k ≤ 20 → R = leastT (overP S f o js sq) (20 - k) k) ∧ (k = 21 → R = (0, false)) ∧ Below (w.heap.size + 1) (w.alloc (.cells #[.int .i64 S, .int .i64 f, .int .i64 o, .slice A js.length c] 31)) wr) (fun i _ _ => 21 - (intOf i).toNat)
  case atStart => exact ⟨0, by omega, rfl, fun _ => HR.out, fun h => by omega, Below.refl _ _⟩
  case round =>
    obtain ⟨k, hk, rfl, hRk, hRe, hb⟩ := hrel
    have HRK := Lib.hid hRk; have HRE := Lib.hid hRe; clear hRk hRe
    by_cases hlt : k ≤ 20
    · have h3 : (k : Int) ≤ 20 := by omega
      have hp := pow_lt63 hz.2.1.1 hz.2.1.2 hlt
      have hpl := pl_le (asked_good HA.out) (asked_on HA.out) k S
      obtain ⟨D, hD⟩ := Int.eq_ofNat_of_zero_le (pl_nonneg S f o js sq k S)
      obtain ⟨F, hF⟩ := Int.eq_ofNat_of_zero_le (show 0 ≤ f ^ k by omega)
      rw [hD] at hpl
      rw [hF] at hp hpl
      have hPD : overP S f o js sq k = decide ((D : Int) = (F : Int)) := by rw [overP, hD, hF]
      obtain ⟨L, hL⟩ : ∃ L : Nat, F = D + L := ⟨F - D, by omega⟩
      have e1 : IntKind.i64.wrap ((F : Int) - (D : Int)) = (L : Int) := by rw [IntWalk.i64_in _ (by omega)]; omega
      have HD := Lib.hid hD; have HF := Lib.hid hF
      have kk := hb.drew
      clear hD hF
      have hF9 : (F : Int) ≤ 1152921504606846976 := by omega
      cases hP : overP S f o js sq k
      · have hP2 : ¬ ((D : Int) = (F : Int)) := by rw [hPD] at hP; simpa using hP
        have t1 : L ≤ F := by omega
        have t2 : ((L : Int) == 0) = false := by simp; omega
        have HP := Lib.hid hP; clear hP hPD hP2 hL hp hpl
        go_wp2_with fail
        refine wp_region_held_drew (S := (fun w' => Below (w.heap.size + 1) (w.alloc (.cells #[.int .i64 S, .int .i64 f, .int .i64 o, .slice A js.length c] 31)) w' ∧ (∀ i, w'.cell? ⟨w.heap.size, i, none⟩ = #[.int .i64 S, .int .i64 f, .int .i64 o, .slice A js.length c][i]?))) (by kernel_rfl) ⟨kk, boxcells kk⟩ (fun hS => ?_)
        refine wpAnyH_take (i := 0) (oi := ⟨some 14, _, _, _, _, _⟩) (v := ?va1) rfl (by kernel_rfl) (by kernel_rfl) (by kernel_rfl) (fun _ _ _ h => h) (Or.inl ⟨by rfl, ?ha1⟩) hS ?ra1
        case ha1 => (intro w' hSw; (try dsimp only at hSw); go_simp; (try with_reducible rfl))
        try simp only [Act.put, List.setIfInBounds_toArray, List.set_cons_zero, List.set_cons_succ]
        refine wpAnyH_take (i := 1) (oi := ⟨some 15, _, _, _, _, _⟩) (v := ?va2) rfl (by kernel_rfl) (by kernel_rfl) (by kernel_rfl) (fun _ _ _ h => h) (Or.inl ⟨by rfl, ?ha2⟩) hS ?ra2
        case ha2 => (intro w' hSw; (try dsimp only at hSw); go_simp; (try with_reducible rfl))
        try simp only [Act.put, List.setIfInBounds_toArray, List.set_cons_zero, List.set_cons_succ]
        refine wpAnyH_take (i := 3) (oi := ⟨some 17, _, _, _, _, _⟩) (v := ?va3) rfl (by kernel_rfl) (by kernel_rfl) (by kernel_rfl) (fun _ _ _ h => h) (Or.inl ⟨by rfl, ?ha3⟩) hS ?ra3
        case ha3 => (intro w' hSw; (try dsimp only at hSw); go_simp; (try with_reducible rfl))
        try simp only [Act.put, List.setIfInBounds_toArray, List.set_cons_zero, List.set_cons_succ]
        refine wpAnyH_take (i := 4) (oi := ⟨some 18, _, _, _, _, _⟩) (v := ?va4) rfl (by kernel_rfl) (by kernel_rfl) (by kernel_rfl) (fun _ _ _ h => h) (Or.inl ⟨by rfl, ?ha4⟩) hS ?ra4
        case ha4 => (intro w' hSw; (try dsimp only at hSw); go_simp; (try with_reducible rfl))
        try simp only [Act.put, List.setIfInBounds_toArray, List.set_cons_zero, List.set_cons_succ]
        refine wpAnyH_take (i := 5) (oi := ⟨some 19, _, _, _, _, _⟩) (v := ?va5) rfl (by kernel_rfl) (by kernel_rfl) (by kernel_rfl) (fun _ _ _ h => h) (Or.inl ⟨by rfl, ?ha5⟩) hS ?ra5
        case ha5 => (intro w' hSw; (try dsimp only at hSw); go_simp; (try with_reducible rfl))
        try simp only [Act.put, List.setIfInBounds_toArray, List.set_cons_zero, List.set_cons_succ]
        refine wpAnyH_take (i := 7) (oi := ⟨some 21, _, _, _, _, _⟩) (v := ?va6) rfl (by kernel_rfl) (by kernel_rfl) (by kernel_rfl) (fun _ _ _ h => h) (Or.inl ⟨by rfl, ?ha6⟩) hS ?ra6
        case ha6 => (intro w' hSw; (try dsimp only at hSw); go_simp; (try with_reducible rfl))
        try simp only [Act.put, List.setIfInBounds_toArray, List.set_cons_zero, List.set_cons_succ]
        refine wpAnyH_take (i := 8) (oi := ⟨some 22, _, _, _, _, _⟩) (v := ?va7) rfl (by kernel_rfl) (by kernel_rfl) (by kernel_rfl) (fun _ _ _ h => h) (Or.inl ⟨by rfl, ?ha7⟩) hS ?ra7
        case ha7 => (intro w' hSw; (try dsimp only at hSw); go_simp; (try with_reducible rfl))
        try simp only [Act.put, List.setIfInBounds_toArray, List.set_cons_zero, List.set_cons_succ]
        refine wpAnyH_ready (rs := [2]) (by kernel_rfl) (by simp) ?_
        refine AllReadyH.cons (o := ⟨some 16, _, _, _, _, _⟩) rfl (fun K' hK' => ?_) AllReadyH.nil
        go_simp
        go_at_call 65
        refine (chAll_any _ _ _ _ _ _ k _ hz.2.1.1 hz.2.1.2 hlt).mono ?_
        rintro e w5 ⟨rfl, hx5⟩
        rw [HF.out]
        replace kk := box_on kk hx5 (by have := kk.size; simpa using this)
        try replace d4 := keepcell hx5 d4
        refine hK'.out _ _ ⟨kk, boxcells kk⟩ (fun _ => ?_)
        clear hK' K'
        try simp only [Act.put, List.setIfInBounds_toArray, List.set_cons_zero, List.set_cons_succ]
        refine wpAnyH_ready (rs := [6]) (by kernel_rfl) (by simp) ?_
        refine AllReadyH.cons (o := ⟨some 20, _, _, _, _, _⟩) rfl (fun K' hK' => ?_) AllReadyH.nil
        go_simp
        go_at_call 48
        refine (chPlaces_any _ _ _ _ _ _ k _ _ (hj.go ((below1 _ _).trans (kk.mono (by omega)))) HA.out hlt).mono ?_
        rintro e w6 ⟨g, rfl, hgg, hrow, hx6⟩
        have d4 := hrow.cell iqn
        rw [HD.out] at d4
        replace kk := box_on kk hx6 (by have := kk.size; simpa using this)
        refine hK'.out _ _ ⟨kk, boxcells kk⟩ (fun _ => ?_)
        clear hK' K'
        try simp only [Act.put, List.setIfInBounds_toArray, List.set_cons_zero, List.set_cons_succ]
        refine wpAnyH_take (i := 9) (oi := ⟨some 23, _, _, _, _, _⟩) (v := ?va8) rfl (by kernel_rfl) (by kernel_rfl) (by kernel_rfl) (fun _ _ _ h => h) (Or.inl ⟨by rfl, ?ha8⟩) ⟨kk, boxcells kk⟩ ?ra8
        case ha8 => (intro w' hSw; (try dsimp only at hSw); go_simp; (try with_reducible rfl))
        try simp only [Act.put, List.setIfInBounds_toArray, List.set_cons_zero, List.set_cons_succ]
        refine wpAnyH_ready (rs := [10]) (by kernel_rfl) (by simp) ?_
        refine AllReadyH.cons (o := ⟨some 24, _, _, _, _, _⟩) rfl (fun K' hK' => ?_) AllReadyH.nil
        go_simp
        refine hK'.out _ _ ⟨kk, boxcells kk⟩ (fun _ => ?_)
        clear hK' K'
        try simp only [Act.put, List.setIfInBounds_toArray, List.set_cons_zero, List.set_cons_succ]
        refine wpAnyH_take (i := 11) (oi := ⟨some 25, _, _, _, _, _⟩) (v := ?va9) rfl (by kernel_rfl) (by kernel_rfl) (by kernel_rfl) (fun _ _ _ h => h) (Or.inl ⟨by rfl, ?ha9⟩) ⟨kk, boxcells kk⟩ ?ra9
        case ha9 => (intro w' hSw; (try dsimp only at hSw); go_simp; (try with_reducible rfl))
        try simp only [Act.put, List.setIfInBounds_toArray, List.set_cons_zero, List.set_cons_succ]
        refine wpAnyH_ready (rs := [12]) (by kernel_rfl) (by simp) ?_
        refine AllReadyH.cons (o := ⟨some 9, _, _, _, _, _⟩) rfl (fun K' hK' => ?_) AllReadyH.nil
        go_simp
        refine hK'.out _ _ ⟨kk, boxcells kk⟩ (fun _ => ?_)
        clear hK' K'
        try simp only [Act.put, List.setIfInBounds_toArray, List.set_cons_zero, List.set_cons_succ]
        refine wpAnyH_done (by kernel_rfl) ?_ _
        all_goals
          have q5 := boxcells kk
          try simp only [e1]
          go_wp2_with (go_at_call 65; refine (chAll_any _ _ _ _ _ _ k _ hz.2.1.1 hz.2.1.2 hlt).mono ?_; rintro e w7 ⟨rfl, hx7⟩; rw [HF.out]; have k7 := box_on kk hx7 (by have := kk.size; simpa using this))
          go_roundw
          case rel =>
            refine ⟨k + 1, by omega, by go_num, fun h => ?_, fun h => ?_, k7⟩
            · rw [HRK.out hlt, show 20 - k = (20 - (k + 1)) + 1 by omega, leastT_next HP.out]
            · have e20 : k = 20 := by omega
              subst e20
              rw [HRK.out (Nat.le_refl _)]
              exact leastT_end HP.out
          case measure => simp [intOf]; omega
      · have hP2 : (D : Int) = (F : Int) := by rw [hPD] at hP; simpa using hP
        have t1 : L ≤ F := by omega
        have t2 : ((L : Int) == 0) = true := by simp; omega
        have HP := Lib.hid hP; clear hP hPD hP2 hL hp hpl
        go_wp2_with fail
        refine wp_region_held_drew (S := (fun w' => Below (w.heap.size + 1) (w.alloc (.cells #[.int .i64 S, .int .i64 f, .int .i64 o, .slice A js.length c] 31)) w' ∧ (∀ i, w'.cell? ⟨w.heap.size, i, none⟩ = #[.int .i64 S, .int .i64 f, .int .i64 o, .slice A js.length c][i]?))) (by kernel_rfl) ⟨kk, boxcells kk⟩ (fun hS => ?_)
        refine wpAnyH_take (i := 0) (oi := ⟨some 14, _, _, _, _, _⟩) (v := ?vb1) rfl (by kernel_rfl) (by kernel_rfl) (by kernel_rfl) (fun _ _ _ h => h) (Or.inl ⟨by rfl, ?hb1⟩) hS ?rb1
        case hb1 => (intro w' hSw; (try dsimp only at hSw); go_simp; (try with_reducible rfl))
        try simp only [Act.put, List.setIfInBounds_toArray, List.set_cons_zero, List.set_cons_succ]
        refine wpAnyH_take (i := 1) (oi := ⟨some 15, _, _, _, _, _⟩) (v := ?vb2) rfl (by kernel_rfl) (by kernel_rfl) (by kernel_rfl) (fun _ _ _ h => h) (Or.inl ⟨by rfl, ?hb2⟩) hS ?rb2
        case hb2 => (intro w' hSw; (try dsimp only at hSw); go_simp; (try with_reducible rfl))
        try simp only [Act.put, List.setIfInBounds_toArray, List.set_cons_zero, List.set_cons_succ]
        refine wpAnyH_take (i := 3) (oi := ⟨some 17, _, _, _, _, _⟩) (v := ?vb3) rfl (by kernel_rfl) (by kernel_rfl) (by kernel_rfl) (fun _ _ _ h => h) (Or.inl ⟨by rfl, ?hb3⟩) hS ?rb3
        case hb3 => (intro w' hSw; (try dsimp only at hSw); go_simp; (try with_reducible rfl))
        try simp only [Act.put, List.setIfInBounds_toArray, List.set_cons_zero, List.set_cons_succ]
        refine wpAnyH_take (i := 4) (oi := ⟨some 18, _, _, _, _, _⟩) (v := ?vb4) rfl (by kernel_rfl) (by kernel_rfl) (by kernel_rfl) (fun _ _ _ h => h) (Or.inl ⟨by rfl, ?hb4⟩) hS ?rb4
        case hb4 => (intro w' hSw; (try dsimp only at hSw); go_simp; (try with_reducible rfl))
        try simp only [Act.put, List.setIfInBounds_toArray, List.set_cons_zero, List.set_cons_succ]
        refine wpAnyH_take (i := 5) (oi := ⟨some 19, _, _, _, _, _⟩) (v := ?vb5) rfl (by kernel_rfl) (by kernel_rfl) (by kernel_rfl) (fun _ _ _ h => h) (Or.inl ⟨by rfl, ?hb5⟩) hS ?rb5
        case hb5 => (intro w' hSw; (try dsimp only at hSw); go_simp; (try with_reducible rfl))
        try simp only [Act.put, List.setIfInBounds_toArray, List.set_cons_zero, List.set_cons_succ]
        refine wpAnyH_take (i := 7) (oi := ⟨some 21, _, _, _, _, _⟩) (v := ?vb6) rfl (by kernel_rfl) (by kernel_rfl) (by kernel_rfl) (fun _ _ _ h => h) (Or.inl ⟨by rfl, ?hb6⟩) hS ?rb6
        case hb6 => (intro w' hSw; (try dsimp only at hSw); go_simp; (try with_reducible rfl))
        try simp only [Act.put, List.setIfInBounds_toArray, List.set_cons_zero, List.set_cons_succ]
        refine wpAnyH_take (i := 8) (oi := ⟨some 22, _, _, _, _, _⟩) (v := ?vb7) rfl (by kernel_rfl) (by kernel_rfl) (by kernel_rfl) (fun _ _ _ h => h) (Or.inl ⟨by rfl, ?hb7⟩) hS ?rb7
        case hb7 => (intro w' hSw; (try dsimp only at hSw); go_simp; (try with_reducible rfl))
        try simp only [Act.put, List.setIfInBounds_toArray, List.set_cons_zero, List.set_cons_succ]
        refine wpAnyH_ready (rs := [2]) (by kernel_rfl) (by simp) ?_
        refine AllReadyH.cons (o := ⟨some 16, _, _, _, _, _⟩) rfl (fun K' hK' => ?_) AllReadyH.nil
        go_simp
        go_at_call 65
        refine (chAll_any _ _ _ _ _ _ k _ hz.2.1.1 hz.2.1.2 hlt).mono ?_
        rintro e w5 ⟨rfl, hx5⟩
        rw [HF.out]
        replace kk := box_on kk hx5 (by have := kk.size; simpa using this)
        try replace d4 := keepcell hx5 d4
        refine hK'.out _ _ ⟨kk, boxcells kk⟩ (fun _ => ?_)
        clear hK' K'
        try simp only [Act.put, List.setIfInBounds_toArray, List.set_cons_zero, List.set_cons_succ]
        refine wpAnyH_ready (rs := [6]) (by kernel_rfl) (by simp) ?_
        refine AllReadyH.cons (o := ⟨some 20, _, _, _, _, _⟩) rfl (fun K' hK' => ?_) AllReadyH.nil
        go_simp
        go_at_call 48
        refine (chPlaces_any _ _ _ _ _ _ k _ _ (hj.go ((below1 _ _).trans (kk.mono (by omega)))) HA.out hlt).mono ?_
        rintro e w6 ⟨g, rfl, hgg, hrow, hx6⟩
        have d4 := hrow.cell iqn
        rw [HD.out] at d4
        replace kk := box_on kk hx6 (by have := kk.size; simpa using this)
        refine hK'.out _ _ ⟨kk, boxcells kk⟩ (fun _ => ?_)
        clear hK' K'
        try simp only [Act.put, List.setIfInBounds_toArray, List.set_cons_zero, List.set_cons_succ]
        refine wpAnyH_take (i := 9) (oi := ⟨some 23, _, _, _, _, _⟩) (v := ?vb8) rfl (by kernel_rfl) (by kernel_rfl) (by kernel_rfl) (fun _ _ _ h => h) (Or.inl ⟨by rfl, ?hb8⟩) ⟨kk, boxcells kk⟩ ?rb8
        case hb8 => (intro w' hSw; (try dsimp only at hSw); go_simp; (try with_reducible rfl))
        try simp only [Act.put, List.setIfInBounds_toArray, List.set_cons_zero, List.set_cons_succ]
        refine wpAnyH_ready (rs := [10]) (by kernel_rfl) (by simp) ?_
        refine AllReadyH.cons (o := ⟨some 24, _, _, _, _, _⟩) rfl (fun K' hK' => ?_) AllReadyH.nil
        go_simp
        refine hK'.out _ _ ⟨kk, boxcells kk⟩ (fun _ => ?_)
        clear hK' K'
        try simp only [Act.put, List.setIfInBounds_toArray, List.set_cons_zero, List.set_cons_succ]
        refine wpAnyH_take (i := 11) (oi := ⟨some 25, _, _, _, _, _⟩) (v := ?vb9) rfl (by kernel_rfl) (by kernel_rfl) (by kernel_rfl) (fun _ _ _ h => h) (Or.inl ⟨by rfl, ?hb9⟩) ⟨kk, boxcells kk⟩ ?rb9
        case hb9 => (intro w' hSw; (try dsimp only at hSw); go_simp; (try with_reducible rfl))
        try simp only [Act.put, List.setIfInBounds_toArray, List.set_cons_zero, List.set_cons_succ]
        refine wpAnyH_ready (rs := [12]) (by kernel_rfl) (by simp) ?_
        refine AllReadyH.cons (o := ⟨some 9, _, _, _, _, _⟩) rfl (fun K' hK' => ?_) AllReadyH.nil
        go_simp
        refine hK'.out _ _ ⟨kk, boxcells kk⟩ (fun _ => ?_)
        clear hK' K'
        try simp only [Act.put, List.setIfInBounds_toArray, List.set_cons_zero, List.set_cons_succ]
        refine wpAnyH_done (by kernel_rfl) ?_ _
        all_goals
          have q5 := boxcells kk
          try simp only [e1]
          go_wp2_with (go_at_call 65; refine (chAll_any _ _ _ _ _ _ k _ hz.2.1.1 hz.2.1.2 hlt).mono ?_; rintro e w7 ⟨rfl, hx7⟩; rw [HF.out]; have k7 := box_on kk hx7 (by have := kk.size; simpa using this))
          go_ret2
          have e0 : R = ((k : Int), true) := by rw [HRK.out hlt]; exact leastT_hit _ HP.out
          rw [e0]
          exact ⟨rfl, (below1 _ _).trans (k7.mono (by omega))⟩
    · have h3 : ¬ (k : Int) ≤ 20 := by omega
      have e0 : R = (0, false) := HRE.out (by omega)
      have HE := Lib.hid e0; clear e0
      go_wp2
      go_ret2
      rw [HE.out]
      exact ⟨rfl, (below1 _ _).trans (hb.mono (by omega))⟩

set_option maxHeartbeats 400000 in
theorem specAllDone_any (s f o : Int) (A : Option Addr) (c : Nat) (sq : Int) (js : List (Int × Int)) (w : World) (hj : RJ w w.heap.size A js) :
    Calls Try.prog 36 #[.agg #[.int .i64 s, .int .i64 f, .int .i64 o, .slice A js.length c], .int .i64 sq] w (NumIs w (untilR (overP s f o js sq) (asked s f o js sq))) := by
  have hl := hj.1
  cases ha : asked s f o js sq
  · have ht : untilR (overP s f o js sq) false = (0, false) := rfl
    rw [ht]
    have HA := Lib.hid ha; clear ha ht
    go_enter Try.func36, Try.ntmps36
    go_wp2_with (go_at_call 60; refine (sqAsked_any _ _ _ _ _ _ _ _ (hj.go (below1 _ _))).mono ?_; rintro e w2 ⟨rfl, hx⟩; rw [HA.out])
    go_ret2
    exact ⟨rfl, (below1 _ _).trans (hx.mono (by simp))⟩
  · have hz := good_sizes (asked_good ha)
    obtain ⟨S, rfl⟩ := Int.eq_ofNat_of_zero_le (show 0 ≤ s by omega)
    have ht : untilR (overP S f o js sq) true = leastT (overP S f o js sq) 20 0 := rfl
    rw [ht]
    obtain ⟨R, hR⟩ : ∃ R, R = leastT (overP S f o js sq) 20 0 := ⟨_, rfl⟩
    have hc := fun w hj => untilAll_any S f o A c sq js w hj ha
    rw [← hR] at hc ⊢
    obtain ⟨n, ok⟩ := R
    have HC := Lib.hid hc; have HA := Lib.hid ha; clear hc hR ha ht
    go_enter Try.func36, Try.ntmps36
    go_wp2_with fail
    refine (sqAsked_any _ _ _ _ _ _ _ _ (hj.go (below1 _ _))).mono ?_
    rintro e w2 ⟨rfl, hx⟩
    rw [HA.out]
    have hb := box_on (Below.refl _ _) hx (by simp)
    have q := boxcells hb
    have hB2 := (below1 w (.cells #[.int .i64 S, .int .i64 f, .int .i64 o, .slice A js.length c] 31)).trans (hb.mono (by omega))
    go_wp2_with (go_at_call 61; refine (HC.out _ (hj.go hB2)).mono ?_; rintro e w3 ⟨rfl, hx3⟩)
    go_ret2
    exact ⟨rfl, hB2.trans (hx3.mono hB2.size)⟩

theorem allDone_both (s f o : Int) (js : List (Int × Int)) (sq : Int) : ∃ (x : Int) (ok : Bool),
    (∀ (A : Option Addr) (c : Nat) (W : World), RJ W W.heap.size A js → Calls Try.prog 36 #[.agg #[.int .i64 s, .int .i64 f, .int .i64 o, .slice A js.length c], .int .i64 sq] W (NumIs W (x, ok))) ∧
    (∀ (A : Option Addr) (c : Nat) (W : World), RJ W W.heap.size A js → Calls Try.prog 37 #[.agg #[.int .i64 s, .int .i64 f, .int .i64 o, .slice A js.length c], .int .i64 sq] W (NumIs W (x, ok))) := by
  obtain ⟨⟨x, ok⟩, hR⟩ : ∃ R, R = untilR (overP s f o js sq) (asked s f o js sq) := ⟨_, rfl⟩
  exact ⟨x, ok, fun A c W hj => by rw [hR]; exact specAllDone_any s f o A c sq js W hj, fun A c W hj => by rw [hR]; exact implAllDone_any s f o A c sq js W hj⟩
end Go.Proofs.Ytiekdokgjdgajab

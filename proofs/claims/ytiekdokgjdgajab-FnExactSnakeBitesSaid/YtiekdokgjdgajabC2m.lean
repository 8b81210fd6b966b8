/-
  Walks: met.
-/
import Derived.Test.YtiekdokgjdgajabC2e
import Derived.Test.YtiekdokgjdgajabM3
namespace Go.Proofs.Ytiekdokgjdgajab
open Go.RowKit

set_option maxRecDepth 100000 in
set_option maxHeartbeats 400000 in
theorem met_any (g bl : Nat) (s f o : Int) (G : Nat → Int) (wt al : Int) (bb : Option Nat) (c : Int → Bool → Int) (w : World) (hW : WA w g s f o G wt al (some bl) bb) (hL : SW w bl c) (h0 : ∀ q m, 0 ≤ c q m) (h1 : sumTo (fun i => c i true) 101 ≤ 1152921504606846976) :
    Calls Try.prog 58 #[.pointer (some ⟨g, 0, none⟩)] w fun e w' => e = .returned (.int .i64 (sumTo (fun i => c i true) 101)) ∧ Below w.heap.size w w' := by
  have lg := heap_lt hW
  have ll := hL.lt
  have c6 : w.cell? ⟨g, 106, none⟩ = some (.map (some bl)) := (cell_of_row _ _ _ _ _ _ hW).trans (wlk_106 _ _ _ _ _ _ _ _)
  have HP := Lib.hid h0; have HS := Lib.hid h1; clear h0 h1
  go_enter Try.func58, Try.ntmps58
  go_wp2_with (first | (at_range; refine SM.range spotKey rfl _ 55 rfl mapU hL rfl ?_; intro w0 cnt0 hrg0 hg0 hs0) | go_in)
  go_frame
  have hB0 : Below w.heap.size w w0 := (Below.refl _ _).grown hg0 (Nat.le_refl _) (fun k e => by cases e)
  have lgl : bl < w0.heap.size := hrg0.lt.1
  clear c6 hL hg0
  go_loopw [3] (fun L wr => ∃ left cnt, L = .int .i64 (mgot c left) ∧ RW wr bl w.heap.size c left cnt ∧ (∀ i m, left i m = true → c i m ≠ 0) ∧ w.heap.size < wr.heap.size ∧ Below w.heap.size w wr) (fun _ wr => wr.rangeLeft bl w.heap.size)
  case atStart =>
    refine ⟨_, cnt0, ?_, hrg0, fun i m h => by simpa using h, by omega, hB0⟩
    unfold mgot
    rw [sumTo_congr (G := fun _ => 0) _ fun i _ => ?_, sumTo_zero]
    by_cases h2 : c i true = 0 <;> simp [h2]
  case round =>
    clear hrg0 hB0 hs0 lgl
    obtain ⟨left, cnt, rfl, hrg, hlc, hsz, hB⟩ := hrel
    go_wp2_with (first | (at_next; refine RS.next spotKey rfl _ rfl intU hrg rfl ?_ ?_) | go_in)
    · intro hdone
      have hall : ∀ i m, left i m = false := fun i m => by
        cases h : left i m
        · rfl
        · have h1 := (hrg.owns).1 i m (hlc i m h)
          rw [hdone i m (wfi_of (by omega) (by omega))] at h; cases h
      have hM : mgot c left = sumTo (fun i => c i true) 101 := by
        unfold mgot
        exact sumTo_congr _ fun i _ => by simp [hall]
      have HM := Lib.hid hM
      clear hall hdone hrg hlc hM
      go_wp2
      go_ret
      exact ⟨ret_int HM.out, hB⟩
    · rintro ⟨q, m⟩ w1 cnt1 hlq hcq h0 h1 hrg1 hlt hg1 hs1 hen
      dsimp only at hlq hcq h0 h1 hrg1 hen ⊢
      obtain ⟨k, rfl⟩ := Int.eq_ofNat_of_zero_le h0
      have hk : k < 101 := by omega
      have hB1 : Below w.heap.size w w1 := hB.grown hg1 (by omega) (fun j e => by cases e; omega)
      have hme := hrg.left_eq
      have hlc' : ∀ i b, strike left k m i b = true → c i b ≠ 0 := fun i b hs => by
        unfold strike at hs
        rw [Bool.and_eq_true] at hs
        exact hlc i b hs.1
      clear hrg hB hlc
      have HWR := Lib.hid hs1; clear hs1
      cases m
      · have ps := mgot_strike c hk hlq
        have pl2 := mgot_le HP.out (strike left k false)
        rw [ps] at pl2
        have hsum := HS.out
        simp only [Bool.false_eq_true, if_false, Int.add_zero] at pl2 ps
        clear pl2 hsum
        have HPS := Lib.hid ps; clear ps
        simp only [spotV] at hen ⊢
        go_wp2
        go_roundw
        case rel => exact ⟨strike left k false, cnt1, by rw [HPS.out], hrg1.alloc _, fun i b hs => hlc' i b hs, by have := HWR.out; simp; omega, hB1.alloc (by have := HWR.out; omega) _⟩
        case measure => rw [(hrg1.alloc (.cells #[.int .i64 k, .bool false] 82)).left_eq, hme]; exact hlt
      · have ps := mgot_strike c hk hlq
        have pl2 := mgot_le HP.out (strike left k true)
        rw [ps] at pl2
        have hsum := HS.out
        simp only [if_true] at pl2 ps
        have pl1 := mgot_le HP.out left
        have hwr : IntKind.i64.wrap (mgot c left + c k true) = mgot c left + c k true := IntWalk.i64_in _ (by omega)
        clear pl2 pl1 hsum
        have HPS := Lib.hid ps; clear ps
        simp only [spotV] at hen ⊢
        go_wp2
        go_roundw
        case rel => exact ⟨strike left k true, cnt1, by rw [HPS.out], hrg1.alloc _, fun i b hs => hlc' i b hs, by have := HWR.out; simp; omega, hB1.alloc (by have := HWR.out; omega) _⟩
        case measure => rw [(hrg1.alloc (.cells #[.int .i64 k, .bool true] 82)).left_eq, hme]; exact hlt
end Go.Proofs.Ytiekdokgjdgajab

/-
  PartAt and PartDone, the model's.
-/
import Derived.Test.YtiekdokgjdgajabC2s
import Derived.Test.YtiekdokgjdgajabC2g
namespace Go.Proofs.Ytiekdokgjdgajab
open Go.RowKit

theorem natpow {f : Int} (hf : 0 ≤ f) (t : Nat) : f ^ t = ((f.toNat ^ t : Nat) : Int) := by
  obtain ⟨k, rfl⟩ := Int.eq_ofNat_of_zero_le hf
  simp
/-- Two numbers and a bool are handed back. -/
def PartIs (w : World) (x y : Int) (ok : Bool) (e : Ending) (w' : World) : Prop := e = .returned (.tuple #[.int .i64 x, .int .i64 y, .bool ok]) ∧ Below w.heap.size w w'
def partOk (s f o : Int) (js : List (Int × Int)) (sq to th : Int) : Bool := asked s f o js sq && onSq s js to && inB th 0 20

set_option maxHeartbeats 400000 in
theorem chAll_any (s f o : Int) (A : Option Addr) (c : Nat) (js : List (Int × Int)) (t : Nat) (w : World) (hf1 : 1 ≤ f) (hf8 : f ≤ 8) (ht : t ≤ 20) :
    Calls Try.prog 65 #[.agg #[.int .i64 s, .int .i64 f, .int .i64 o, .slice A js.length c], .int .i64 t] w fun e w' => e = .returned (.int .i64 (f ^ t)) ∧ Below w.heap.size w w' := by
  go_enter Try.func65, Try.ntmps65
  go_wp2
  go_loop [1, 5] (fun th out => ∃ k : Nat, k ≤ t ∧ th = .int .i64 ((t : Int) - (k : Int)) ∧ out = .int .i64 (f ^ k)) (fun th _ => (intOf th).toNat)
  case atStart => exact ⟨0, Nat.zero_le _, by simp, by rw [Int.pow_zero]⟩
  case round =>
    obtain ⟨k, hk, rfl, rfl⟩ := hrel
    by_cases hlt : k < t
    · have h3 : (0 : Int) < (t : Int) - (k : Int) := by omega
      have hp := pow_lt63 hf1 hf8 (show k + 1 ≤ 20 by omega)
      rw [Int.pow_succ] at hp
      have hwr : IntKind.i64.wrap (f ^ k * f) = f ^ k * f := IntWalk.i64_in _ (by omega)
      clear hp
      go_wp2
      go_round
      case rel => exact ⟨k + 1, hlt, by simp; omega, by rw [Int.pow_succ]⟩
      case measure => simp [intOf]; omega
    · have h3 : ¬ (0 : Int) < (t : Int) - (k : Int) := by omega
      obtain rfl : k = t := by omega
      go_wp2
      go_ret
      exact ⟨rfl, below1 _ _⟩

set_option maxHeartbeats 400000 in
theorem chPart_any (s f o : Int) (A : Option Addr) (c : Nat) (js : List (Int × Int)) (m t F : Nat) (w : World) (hf1 : 1 ≤ f) (hf8 : f ≤ 8) (ht : t ≤ 20) (hF : f ^ t = (F : Int)) (hn : m ≤ 1152921504606846976) :
    Calls Try.prog 55 #[.agg #[.int .i64 s, .int .i64 f, .int .i64 o, .slice A js.length c], .int .i64 m, .int .i64 t] w (PartIs w (lowA m F) (lowB m F) true) := by
  have hp := pow_lt63 hf1 hf8 ht
  have h1 : F ≤ 1152921504606846976 := by omega
  have h2 : 1 ≤ F := by omega
  have HF := Lib.hid hF; clear hF hp
  go_enter Try.func55, Try.ntmps55
  go_wp2_with fail
  refine (chAll_any _ _ _ _ _ _ _ _ hf1 hf8 ht).mono ?_
  rintro e w1 ⟨rfl, hx⟩
  rw [HF.out]
  go_wp2_with (go_at_call 70; refine (chLow_any m F _ hn h1 h2).mono ?_; rintro e w2 ⟨rfl, hx2⟩)
  exact bodyPost_ret (v := .tuple #[.int .i64 (lowA m F), .int .i64 (lowB m F), .bool true]) (by simp [results, Try.results55]) rfl
    ⟨rfl, ((below1 _ _).trans (hx.mono (by simp))).trans (hx2.mono (by have := hx.size; simp at this; omega))⟩

set_option maxRecDepth 100000 in
set_option maxHeartbeats 400000 in
theorem specPartAt_no (s f o : Int) (A : Option Addr) (c : Nat) (sq to th : Int) (js : List (Int × Int)) (w : World) (hj : RJ w w.heap.size A js) (hno : partOk s f o js sq to th = false) :
    Calls Try.prog 24 #[.agg #[.int .i64 s, .int .i64 f, .int .i64 o, .slice A js.length c], .int .i64 sq, .int .i64 to, .int .i64 th] w (PartIs w 0 0 false) := by
  have hl := hj.1
  cases ha : (asked s f o js sq && inB th 0 20)
  · have HA := Lib.hid ha; clear ha hno
    go_enter Try.func24, Try.ntmps24
    go_wp2_with (go_at_call 47; refine (chAsked_any _ _ _ _ _ _ _ _ _ (hj.go (below1 _ _))).mono ?_; rintro e w2 ⟨rfl, hx⟩; rw [HA.out])
    exact bodyPost_ret (v := .tuple #[.int .i64 0, .int .i64 0, .bool false]) (by simp [results, Try.results24]) rfl ⟨rfl, (below1 _ _).trans (hx.mono (by simp))⟩
  · have hto : onSq s js to = false := by
      cases h : onSq s js to
      · rfl
      · rw [Bool.and_eq_true] at ha
        rw [partOk, ha.1, h, ha.2] at hno; cases hno
    have HA := Lib.hid ha
    have HTO := Lib.hid hto; clear ha hto hno
    go_enter Try.func24, Try.ntmps24
    go_wp2_with fail
    refine (chAsked_any _ _ _ _ _ _ _ _ _ (hj.go (below1 _ _))).mono ?_
    rintro e w2 ⟨rfl, hx⟩
    rw [HA.out]
    have hb := box_on (Below.refl _ _) hx (by simp)
    have q := boxcells hb
    have hB2 := (below1 w (.cells #[.int .i64 s, .int .i64 f, .int .i64 o, .slice A js.length c] 31)).trans (hb.mono (by omega))
    go_wp2_with (go_at_call 54; refine (sqSquare_any _ _ _ _ _ _ _ _ (hj.go hB2)).mono ?_; rintro e w3 ⟨rfl, hx3⟩; rw [HTO.out])
    exact bodyPost_ret (v := .tuple #[.int .i64 0, .int .i64 0, .bool false]) (by simp [results, Try.results24]) rfl ⟨rfl, hB2.trans (hx3.mono hB2.size)⟩

set_option maxRecDepth 100000 in
set_option maxHeartbeats 400000 in
theorem specPartAt_yes (s f o : Int) (A : Option Addr) (c : Nat) (sq : Int) (q0 t m F : Nat) (js : List (Int × Int)) (w : World) (hj : RJ w w.heap.size A js) (hyes : partOk s f o js sq q0 t = true) (hm : pl s f o js sq t q0 = (m : Int)) (hF : f ^ t = (F : Int)) :
    Calls Try.prog 24 #[.agg #[.int .i64 s, .int .i64 f, .int .i64 o, .slice A js.length c], .int .i64 sq, .int .i64 q0, .int .i64 t] w (PartIs w (lowA m F) (lowB m F) true) := by
  have hl := hj.1
  simp only [partOk, Bool.and_eq_true] at hyes
  obtain ⟨⟨ha, hto⟩, hth⟩ := hyes
  have hz := good_sizes (asked_good ha)
  have ht20 : t ≤ 20 := by have := inB_iff.1 hth; omega
  have HA := Lib.hid (show (asked s f o js sq && inB t 0 20) = true by rw [ha, hth]; rfl)
  have HA1 := Lib.hid ha
  have hto2 := onSq_in hto
  have HTO := Lib.hid hto
  have hp := pow_lt63 hz.2.1.1 hz.2.1.2 ht20
  have hpl1 := pl_le (asked_good ha) (asked_on ha) t q0
  have hm1 : m ≤ 1152921504606846976 := by omega
  have iq : (q0 : Int) < ((nsq s : Nat) : Int) := by unfold nsq; omega
  have iqn : q0 < nsq s := by omega
  have HM := Lib.hid hm; have HF := Lib.hid hF
  clear ha hto hp hpl1 hth hm hF
  go_enter Try.func24, Try.ntmps24
  go_wp2_with fail
  refine (chAsked_any _ _ _ _ _ _ _ _ _ (hj.go (below1 _ _))).mono ?_
  rintro e w2 ⟨rfl, hx⟩
  rw [HA.out]
  have hb := box_on (Below.refl _ _) hx (by simp)
  have q := boxcells hb
  have hB2 := (below1 w (.cells #[.int .i64 s, .int .i64 f, .int .i64 o, .slice A js.length c] 31)).trans (hb.mono (by omega))
  go_wp2_with fail
  refine (sqSquare_any _ _ _ _ _ _ _ _ (hj.go hB2)).mono ?_
  rintro e w3 ⟨rfl, hx3⟩
  rw [HTO.out]
  have hb3 := (box_on hb hx3 (by have := hb.size; simpa using this))
  have hb3d := hb3.drew
  have q3 := boxcells hb3
  clear q hb
  go_wp2_with fail
  have iq0 : (0 : Int) ≤ (q0 : Int) := by omega
  go_region_with
    (first | (go_at_call 48; refine (chPlaces_any _ _ _ _ _ _ _ _ _ (hj.go ((below1 _ _).trans (hb3d.mono (by omega)))) HA1.out ht20).mono ?_; rintro e w4 ⟨g, rfl, hgg, hrow, hx4⟩; have d4 := hrow.cell iqn; rw [HM.out] at d4; have k1 := box_on hb3d hx4 (by have := hb3d.size; simpa using this); have k3 := boxcells k1) | (go_at_call 55; refine (chPart_any s f o A c js m t F _ hz.2.1.1 hz.2.1.2 ht20 HF.out hm1).mono ?_; rintro e w5 ⟨rfl, hx5⟩; have m1 := box_on k1 hx5 (by have := k1.size; simpa using this); have m3 := boxcells m1))
  all_goals
    go_wp2
    exact bodyPost_ret (v := .tuple #[.int .i64 (lowA m F), .int .i64 (lowB m F), .bool true]) (by simp [results, Try.results24, Act.put]) rfl
      ⟨rfl, (below1 _ _).trans (m1.mono (by omega))⟩
end Go.Proofs.Ytiekdokgjdgajab

/- Several texts, one behind the other: L9 L17 Head R8 R17. -/
import Derived.StillTailTactics
import Derived.Test.YtmiefdjbhcpnbaaRows
import Derived.JoinedOf
import Derived.KernelRfl
import Derived.WalkKit
import Derived.ProofKit
import Derived.OpenShut
import Derived.Lib.SmallJoins
import Derived.Deep.Slices
import Derived.Deep.Fields
import Derived.ChangeSame
import Derived.Carry
import Derived.ChangeSlices
import Derived.Test.YtmiefdjbhcpnbaaZPPax
import Derived.Test.YtmiefdjbhcpnbaaZPPaw
import Derived.Test.YtmiefdjbhcpnbaaZPPad

namespace Go.Proofs.Ytmiefdjbhcpnbaa
open Go.RowKit

set_option maxHeartbeats 400000 in
theorem markRow_any (b n c : Nat) (F : Nat → Int) (k0 : Int) (w : World) (h : RowI w b 3 n F) (hn : n ≤ 1048576) (h0 : 0 ≤ k0) (h1 : k0 ≤ 10000000000000) :
    Calls Try.prog 14 #[.slice (some ⟨b, 0, none⟩) n c, .int .i64 k0] w fun e w' => e = .returned (.int .i64 (k0 + n)) ∧ RowI w' b 3 n (marksI k0) ∧ w.grownBy w' (some b) ∧ w'.heap.size = w.heap.size := by
  go_enter Try.func14, Try.ntmps14
  go_wp2
  go_loopw [1, 5] (fun v i wr => ∃ k : Nat, k ≤ n ∧ i = .int .i64 k ∧ v = .int .i64 (k0 + k) ∧ RowI wr b 3 n (fun j => if j < k then marksI k0 j else F j) ∧ Hid (w.grownBy wr (some b)) ∧ Hid (wr.heap.size = w.heap.size)) (fun _ i _ => n - (intOf i).toNat)
  case atStart => exact ⟨0, Nat.zero_le _, rfl, by simp, h.congr (by simp), Lib.hid (grown_refl _ _), Lib.hid rfl⟩
  case round =>
    obtain ⟨k, hk, rfl, rfl, hr, hg, hsz⟩ := hrel
    by_cases hlt : k < n
    · have c1 := hr.cell hlt
      have f1 := hr.free k
      go_wp2
      go_roundw
      case rel => exact ⟨k + 1, by omega, by go_num, by go_num, (hr.set hlt _).congr (fun j hj => by
        by_cases e : j = k
        · subst e; simp [marksI]
        · have e2 : (j < k + 1) = (j < k) := by apply propext; omega
          simp [e, e2]), Lib.hid (grown_setCell hg.out ⟨b, k, none⟩ _ rfl), Lib.hid (by simp; exact hsz.out)⟩
      case measure => simp [intOf]; omega
    · obtain rfl : k = n := by omega
      go_wp2
      go_ret
      exact ⟨rfl, hr.congr (fun j hj => by simp [hj]), hg.out, hsz.out⟩

/-- The numbers of the rows ahead of one. -/
def cumL (len : Nat → Nat) : Nat → Nat
  | 0 => 0
  | y + 1 => cumL len y + len y
theorem cumL_le (len : Nat → Nat) (m : Nat) : ∀ n, (∀ y < n, len y ≤ m) → cumL len n ≤ n * m
  | 0, _ => by simp [cumL]
  | n + 1, h => by
    have h1 := cumL_le len m n (fun y hy => h y (by omega))
    have h2 := h n (by omega)
    simp only [cumL, Nat.add_mul, Nat.one_mul]
    omega
def marksG (k0 : Int) (len : Nat → Nat) (y j : Nat) : Int := k0 + cumL len y + j

set_option maxHeartbeats 1000000 in
theorem markIntSS_any (base : Nat) (A : Option Addr) (n c : Nat) (len : Nat → Nat) (F : Nat → Nat → Int) (Bk C : Nat → Nat) (w : World) (h : Grid w base 25 3 (.slice A n c) n len F Bk C) (hn : n ≤ 1048576) (hl : ∀ y < n, len y ≤ 1048576) :
    Calls Try.prog 15 #[.slice A n c, .int .i64 1] w fun e w' => e = .returned (.int .i64 (1 + (cumL len n : Nat))) ∧ Grid w' base 25 3 (.slice A n c) n len (marksG 1 len) Bk C ∧ (∀ B, B ≤ base → B ≤ w.heap.size → Below B w w') ∧ w'.heap.size = w.heap.size := by
  go_enter Try.func15, Try.ntmps15
  go_wp2
  go_loopw [1, 5] (fun v i wr => ∃ k : Nat, k ≤ n ∧ i = .int .i64 k ∧ v = .int .i64 (1 + (cumL len k : Nat)) ∧ Grid wr base 25 3 (.slice A n c) n len (fun y => if y < k then marksG 1 len y else F y) Bk C ∧ Hid (∀ B, B ≤ base → B ≤ w.heap.size → Below B w wr) ∧ Hid (wr.heap.size = w.heap.size)) (fun _ i _ => n - (intOf i).toNat)
  case atStart => exact ⟨0, Nat.zero_le _, rfl, by simp [cumL], h.congr (fun _ _ => rfl) (by simp), Lib.hid (fun _ _ _ => Below.refl _ _), Lib.hid rfl⟩
  case round =>
    obtain ⟨k, hk, rfl, rfl, hr, hg, hsz⟩ := hrel
    have hc := cumL_le len 1048576 k (fun y hy => hl y (by omega))
    have hc2 : cumL len k ≤ 1099511627776 := Nat.le_trans hc (by have := Nat.mul_le_mul_right 1048576 (show k ≤ 1048576 by omega); omega)
    by_cases hlt : k < n
    · obtain ⟨g, hA, hlo, hgs, c1, hrow⟩ := hr.row hlt
      simp only at hA
      injection hA with hA _ _
      subst hA
      rw [if_neg (Nat.lt_irrefl k)] at hrow
      have hlk := hl k hlt
      have hbk := (hr.2.1 k hlt).1
      clear hc
      go_wp2_with fail
      refine (markRow_any _ _ _ _ _ _ hrow hlk (by omega) (by omega)).mono ?_
      rintro e w2 ⟨rfl, hr2, hg2, hs2⟩
      go_wp2_with fail
      go_roundw
      case rel =>
        refine ⟨k + 1, by omega, by go_num, by simp only [cumL]; go_num, (hr.setRow hlt hg2 hr2).congr (fun _ _ => rfl) (fun y hy j hj => ?_), Lib.hid (fun B hB hB2 => (hg.out B hB hB2).grown hg2 (by rw [hsz.out]; exact hB2) (fun i hi => by cases hi; omega)), Lib.hid (hs2.trans hsz.out)⟩
        by_cases e : y = k
        · subst e; simp [marksI, marksG]
        · have e2 : (y < k + 1) = (y < k) := by apply propext; omega
          simp [e, e2]
      case measure => simp [intOf]; omega
    · obtain rfl : k = n := by omega
      go_wp2
      go_ret
      exact ⟨rfl, hr.congr (fun _ _ => rfl) (fun y hy j hj => by simp [hy]), hg.out, hsz.out⟩

set_option maxHeartbeats 1000000 in
theorem heldIntSS_any (base : Nat) (A : Option Addr) (n c : Nat) (len : Nat → Nat) (Bk C : Nat → Nat) (w : World) (h : Grid w base 25 3 (.slice A n c) n len (marksG 1 len) Bk C) (hn : n ≤ 1048576) (hl : ∀ y < n, len y ≤ 1048576) :
    Calls Try.prog 16 #[.slice A n c, .int .i64 1] w fun e w' => e = .returned (.int .i64 (1 + (cumL len n : Nat))) ∧ w = w' := by
  go_enter Try.func16, Try.ntmps16
  go_wp2
  go_loop [1, 5] (fun v i => ∃ k : Nat, k ≤ n ∧ i = .int .i64 k ∧ v = .int .i64 (1 + (cumL len k : Nat))) (fun _ i => n - (intOf i).toNat)
  case atStart => exact ⟨0, Nat.zero_le _, rfl, by simp [cumL]⟩
  case round =>
    obtain ⟨k, hk, rfl, rfl⟩ := hrel
    have hc := cumL_le len 1048576 k (fun y hy => hl y (by omega))
    have hc2 : cumL len k ≤ 1099511627776 := Nat.le_trans hc (by have := Nat.mul_le_mul_right 1048576 (show k ≤ 1048576 by omega); omega)
    by_cases hlt : k < n
    · obtain ⟨g, hA, hlo, hgs, c1, hrow⟩ := h.row hlt
      simp only at hA
      injection hA with hA _ _
      subst hA
      have hlk := hl k hlt
      have hoi : OI w 0 3 (some ⟨Bk k, 0, none⟩) (len k) (marksI (1 + (cumL len k : Nat))) := .inr ⟨_, rfl, Nat.zero_le _, hrow⟩
      have hn2 : ¬ (1 + (cumL len k : Int) + (len k : Int)) < 0 := by omega
      clear hc
      go_wp2_with fail
      refine (heldIntS_big _ _ _ _ _ _ hoi hlk (by omega) (by omega)).mono ?_
      rintro e w2 ⟨rfl, rfl⟩
      go_wp2_with fail
      go_round
      case rel => exact ⟨k + 1, by omega, by go_num, by simp only [cumL]; go_num⟩
      case measure => simp [intOf]; omega
    · obtain rfl : k = n := by omega
      go_wp2
      go_ret
      exact ⟨rfl, rfl⟩

set_option maxRecDepth 100000 in
set_option maxHeartbeats 1000000 in
theorem eqIntSS_any (A A' : Option Addr) (c c' : Nat) (L : List (List Int)) (w : World) (hj : RG w w.heap.size A L) (hj' : RG w w.heap.size A' L) :
    Calls Try.prog 12 #[.slice A L.length c, .slice A' L.length c'] w fun e w' => e = .returned (.bool true) ∧ Below w.heap.size w w' := by
  have hl := hj.1
  have hq : ((L.length : Int) != (L.length : Int)) = false := by simp
  go_enter Try.func12, Try.ntmps12
  go_wp2
  go_loopw [5] (fun i wr => ∃ k : Nat, k ≤ L.length ∧ i = .int .i64 k ∧ Below w.heap.size w wr) (fun i _ => L.length - (intOf i).toNat)
  case atStart => exact ⟨0, Nat.zero_le _, rfl, Below.refl _ _⟩
  case round =>
    obtain ⟨k, hk, rfl, hb⟩ := hrel
    by_cases hlt : k < L.length
    · obtain ⟨b, off, A1, c1, rfl, hB, h1, hr1⟩ := hj.at_ hb hlt
      obtain ⟨b', off', A2, c2, rfl, hB', h2, hr2⟩ := hj'.at_ hb hlt
      have hsz := hb.size
      have hxx : (L[k] == L[k]) = true := by simp
      go_wp2_with fail
      go_still_tail 8, (by kernel_rfl)
      change wpList _ _ _ _ _ wr.drew
      have hd := hb.drew
      obtain ⟨W2, hW2⟩ : ∃ W2, W2 = wr.drew := ⟨_, rfl⟩
      rw [← hW2] at hd ⊢
      have r1 : RI W2 W2.heap.size A1 L[k] := by rw [hW2]; exact hr1.more hsz
      have r2 : RI W2 W2.heap.size A2 L[k] := by rw [hW2]; exact hr2.more hsz
      clear hW2
      go_wp2_with fail
      refine (eqIntS_any _ _ _ _ L[k] L[k] _ r1 r2).mono ?_
      rintro e w3 ⟨rfl, hx3⟩
      go_wp2_with fail
      go_roundw
      case rel => exact ⟨k + 1, by omega, by go_num, hd.trans (hx3.mono hd.size)⟩
      case measure => simp [intOf]; omega
    · obtain rfl : k = L.length := by omega
      go_wp2
      go_ret
      exact ⟨rfl, hb⟩

/-- The rows of a grid as lists. -/
def gridL (n : Nat) (len : Nat → Nat) (F : Nat → Nat → Int) : List (List Int) := (List.range n).map fun y => (List.range (len y)).map (F y)
theorem gridL_len (n : Nat) (len : Nat → Nat) (F : Nat → Nat → Int) : (gridL n len F).length = n := by simp [gridL]
theorem Grid.rgL {w : World} {base n c : Nat} {t te : TypeId} {A : Option Addr} {len : Nat → Nat} {F : Nat → Nat → Int} {Bk C : Nat → Nat} (h : Grid w base t te (.slice A n c) n len F Bk C) (hn : n ≤ 1048576) (hl : ∀ y, len y ≤ 1048576) : RG w w.heap.size A (gridL n len F) := by
  have e := gridL_len n len F
  have h' : Grid w base t te (.slice A (gridL n len F).length c) (gridL n len F).length len F Bk C := by rw [e]; exact h
  refine h'.rg (by rw [e]; exact hn) (fun y hy => ?_)
  have : (gridL n len F)[y] = (List.range (len y)).map (F y) := by simp [gridL]
  refine ⟨by rw [this]; simp, by rw [this]; simpa using hl y, fun j hj => ?_⟩
  simp [gridL]
theorem eqGrid_any (A A' : Option Addr) (c c' n : Nat) (len : Nat → Nat) (F : Nat → Nat → Int) (w : World) (hj : RG w w.heap.size A (gridL n len F)) (hj' : RG w w.heap.size A' (gridL n len F)) :
    Calls Try.prog 12 #[.slice A n c, .slice A' n c'] w fun e w' => e = .returned (.bool true) ∧ Below w.heap.size w w' := by
  have := eqIntSS_any A A' c c' (gridL n len F) w hj hj'
  rw [gridL_len] at this
  exact this
end Go.Proofs.Ytmiefdjbhcpnbaa

namespace Go.Proofs.Ytmiefdjbhcpnbaa
open Go.RowKit

set_option maxHeartbeats 400000 in
theorem markIntSg_any (A : Option Addr) (n c lo : Nat) (F : Nat → Int) (k0 : Int) (w : World) (h : OI w lo 3 A n F) (hn : n ≤ 1048576) (h0 : 0 ≤ k0) (h1 : k0 ≤ 1000000000) :
    Calls Try.prog 14 #[.slice A n c, .int .i64 k0] w fun e w' => e = .returned (.int .i64 (k0 + n)) ∧ OI w' lo 3 A n (marksI k0) ∧ (∀ B, B ≤ lo → Below B w w') ∧ w'.heap.size = w.heap.size ∧ w.grownBy w' (A.map (·.block)) := by
  go_enter Try.func14, Try.ntmps14
  go_wp2
  go_loopw [1, 5] (fun v i wr => ∃ k : Nat, k ≤ n ∧ i = .int .i64 k ∧ v = .int .i64 (k0 + k) ∧ OI wr lo 3 A n (fun j => if j < k then marksI k0 j else F j) ∧ Hid (∀ B, B ≤ lo → Below B w wr) ∧ Hid (wr.heap.size = w.heap.size) ∧ w.grownBy wr (A.map (·.block))) (fun _ i _ => n - (intOf i).toNat)
  case atStart => exact ⟨0, Nat.zero_le _, rfl, by simp, h.congr (by simp), Lib.hid (fun _ _ => Below.refl _ _), Lib.hid rfl, grown_refl _ _⟩
  case round =>
    obtain ⟨k, hk, rfl, rfl, ho, hg, hsz, hgr⟩ := hrel
    by_cases hlt : k < n
    · obtain ⟨g, rfl, hlo, hr⟩ := ho.get hlt
      have c1 := hr.cell hlt
      have f1 := hr.free k
      go_wp2
      go_roundw
      case rel => exact ⟨k + 1, by omega, by go_num, by go_num, .inr ⟨g, rfl, hlo, (hr.set hlt _).congr (fun j hj => by
        by_cases e : j = k
        · subst e; simp [marksI]
        · have e2 : (j < k + 1) = (j < k) := by apply propext; omega
          simp [e, e2])⟩, Lib.hid (fun B hB => (hg.out B hB).setCell (by dsimp only; omega) _), Lib.hid (by simp; exact hsz.out), grown_setCell hgr ⟨g, k, none⟩ _ rfl⟩
      case measure => simp [intOf]; omega
    · obtain rfl : k = n := by omega
      go_wp2
      go_ret
      exact ⟨rfl, ho.congr (fun j hj => by simp [hj]), hg.out, hsz.out, hgr⟩

end Go.Proofs.Ytmiefdjbhcpnbaa

namespace Go.Proofs.Ytmiefdjbhcpnbaa
def headSigns : List Char := (
  [104, 97, 114, 110, 101, 115, 115, 32, 100, 53, 98, 101, 50, 53, 55, 100, 49, 56, 51, 56, 102, 100, 100, 55, 102, 100, 54, 54, 52, 54, 51, 49, 100,
  56, 49, 52, 57, 99, 54, 100, 55, 48, 55, 51, 50, 57, 97, 55, 57, 49, 57, 52, 49, 97, 100, 101, 101, 98, 53, 57, 102, 56, 97, 57, 52, 53, 48, 55,
  101, 49, 50, 53, 32, 99, 117, 116, 32, 97, 116, 32, 108, 111, 111, 112, 46, 101, 120, 97, 109, 112, 108, 101, 47, 103, 48, 49, 51, 48, 54, 47, 108,
  97, 119, 115, 46, 70, 110, 69, 120, 97, 99, 116, 80, 97, 105, 114, 67, 111, 117, 110, 116, 70, 101, 119, 101, 115, 116, 32, 108, 111, 111, 112, 46,
  101, 120, 97, 109, 112, 108, 101, 47, 103, 48, 49, 51, 48, 54, 47, 108, 97, 119, 115, 46, 70, 110, 69, 120, 97, 99, 116, 80, 108, 97, 121, 80, 97,
  105, 114, 32, 108, 111, 111, 112, 46, 101, 120, 97, 109, 112, 108, 101, 47, 103, 48, 49, 51, 48, 54, 47, 108, 97, 119, 115, 46, 70, 110, 69, 120,
  97, 99, 116, 80, 97, 105, 114, 84, 104, 114, 111, 119, 115, 85, 115, 101, 100, 32, 108, 111, 111, 112, 46, 101, 120, 97, 109, 112, 108, 101, 47,
  103, 48, 49, 51, 48, 54, 47, 108, 97, 119, 115, 46, 70, 110, 69, 120, 97, 99, 116, 80, 97, 105, 114, 70, 105, 114, 115, 116, 84, 104, 114, 111, 119,
  115] : List Nat).map Char.ofNat
def headRest : List (List Char) := (
  [[97, 116], [108, 111, 111, 112, 46, 101, 120, 97, 109, 112, 108, 101, 47, 103, 48, 49, 51, 48, 54, 47, 108, 97, 119, 115, 46, 70, 110, 69, 120, 97,
  99, 116, 80, 97, 105, 114, 67, 111, 117, 110, 116, 70, 101, 119, 101, 115, 116], [108, 111, 111, 112, 46, 101, 120, 97, 109, 112, 108, 101, 47, 103,
  48, 49, 51, 48, 54, 47, 108, 97, 119, 115, 46, 70, 110, 69, 120, 97, 99, 116, 80, 108, 97, 121, 80, 97, 105, 114], [108, 111, 111, 112, 46, 101,
  120, 97, 109, 112, 108, 101, 47, 103, 48, 49, 51, 48, 54, 47, 108, 97, 119, 115, 46, 70, 110, 69, 120, 97, 99, 116, 80, 97, 105, 114, 84, 104, 114,
  111, 119, 115, 85, 115, 101, 100], [108, 111, 111, 112, 46, 101, 120, 97, 109, 112, 108, 101, 47, 103, 48, 49, 51, 48, 54, 47, 108, 97, 119, 115,
  46, 70, 110, 69, 120, 97, 99, 116, 80, 97, 105, 114, 70, 105, 114, 115, 116, 84, 104, 114, 111, 119, 115]] : List (List Nat)).map (·.map Char.ofNat)
theorem strip_cut (r : List (List Char)) : stripLifts liftWords ("cut".toList :: r) = ([], "cut".toList :: r) := by kernel_rfl
theorem make_of {P : Program} {r : List (List Char)} (h : behindMainWord (wordsSigns P.initOrder.toList) = "cut".toList :: r) : P.make = some .cut := by
  unfold Program.make
  rw [h]
  kernel_rfl
theorem lifts_of {P : Program} {r : List (List Char)} (h : behindMainWord (wordsSigns P.initOrder.toList) = "cut".toList :: r) : P.liftsFinal = false := by
  unfold Program.liftsFinal Program.headLifts
  rw [h]
  kernel_rfl
theorem enter_of {P : Program} {r : List (List Char)} (h : behindMainWord (wordsSigns P.initOrder.toList) = "cut".toList :: r) (h1 : P.laysLater = false) (h2 : P.bearsReflect = false) (h3 : P.doorFits [] = true) : P.mayEnter = true := by
  unfold Program.mayEnter
  rw [h]
  simp only [strip_cut, h1, h2, h3]
  kernel_rfl
theorem head_init : Try.prog.initOrder = String.ofList headSigns := by kernel_rfl
theorem head_list : Try.prog.initOrder.toList = headSigns := by rw [head_init, String.toList_ofList]
theorem head_words : behindMainWord (wordsSigns headSigns) = "cut".toList :: headRest := by kernel_rfl
theorem head_cut : behindMainWord (wordsSigns Try.prog.initOrder.toList) = "cut".toList :: headRest := by rw [head_list]; exact head_words
theorem head_make : Try.prog.make = some .cut := make_of head_cut
theorem head_lifts : Try.prog.liftsFinal = false := lifts_of head_cut
theorem head_lays : Try.prog.laysLater = false := by kernel_rfl
theorem head_refl : Try.prog.bearsReflect = false := by kernel_rfl
theorem head_door : Try.prog.doorFits [] = true := by kernel_rfl
theorem head_enter : Try.prog.mayEnter = true := enter_of head_cut head_lays head_refl head_door
theorem head_laid : laidOutB Try.prog = true := by kernel_rfl
theorem head_maps : mapsRowed Try.prog = true := by kernel_rfl
theorem head_own : ownKnob Try.prog.godebug = none := by kernel_rfl
end Go.Proofs.Ytmiefdjbhcpnbaa

namespace Go.Proofs.Ytmiefdjbhcpnbaa
open Go.ChangeShapes Go.WideShapes Go.ChangeAt Go.RowKit Go.Deep Go.Joins


section
variable {H : Type} {enc : TypeId × Value → H} {P : Program}
/-- All arguments read behind the call as before it. -/
theorem stays_all (hl : laidOutB P = true) {W W' : World} (hb : Below W.heap.size W W') : ∀ {ts : List TypeId} {vs : List Value} {ds : List (DataW H)} {ps : List MemPlace},
    ts.all (fun t => P.readableRec t && decide (t < P.types.size)) = true → DataW.TrodAll enc P W 0 (fun _ => true) true ts vs ds ps → (∀ x ∈ ps, x.block < W.heap.size) →
    DataW.TrodAll enc P W' 0 (fun b => decide (b < W.heap.size)) true ts vs ds ps
  | [], vs, ds, ps, _, h, _ => by
    obtain ⟨rfl, rfl, rfl⟩ := trodAll_nil h
    exact trodAll_mk0
  | t :: ts, vs, ds, ps, hr, h, hlt => by
    obtain ⟨v, vs', d, ds', p, q, rfl, rfl, rfl, h1, h2⟩ := trodAll_cons h
    simp only [List.all_cons, Bool.and_eq_true, decide_eq_true_eq] at hr
    exact trodAll_cons_mk (Below.trod hl hr.1.1 hr.1.2 h1 hb fun x hx => hlt x (by simp [hx])) (stays_all hl hb (by simpa using hr.2) h2 fun x hx => hlt x (by simp [hx]))

/-- What a law's post asks, once its call returned true and wrote no old memory. -/
theorem law_post {f : Func} {s : ChangeSpec} {W W' : World} {args : Array Value} {ds : List (DataW H)} {before : List MemPlace} {T : TypeId}
    (hl : laidOutB P = true) (hW : DataW.Whole enc P f.params.toList s.vars false W args.toList ds [] before) (hA : DataW.TrodAll enc P W 0 (fun _ => true) true f.params.toList args.toList ds before)
    (hv : s.vars = []) (hp : f.params.toList.all (fun t => P.readableRec t && decide (t < P.types.size)) = true) (hr : f.resultTypes = #[T]) (hT : P.underlying T = some .bool)
    (e1 : (s.fn H (ds ++ [])).results = [.lit (.bool true)]) (e2 : (s.fn H (ds ++ [])).args = ds) (e3 : (s.fn H (ds ++ [])).vars = []) (hb : Below W.heap.size W W') :
    s.post enc P f false true false false W args (.bool true) W' := by
  refine ⟨ds, [], before, [], before, [], hW, ?_, ?_, ?_, hb.frame _, fun h => by cases h⟩
  · rw [e1, hr]
    exact trodAll_mk1 (shut_bool hT true)
  · rw [e2]
    exact stays_all hl hb hp hA (fun x hx => by simpa using hW.lt x hx)
  · rw [e3, hv]
    rfl
end
end Go.Proofs.Ytmiefdjbhcpnbaa

namespace Go.Proofs.Ytmiefdjbhcpnbaa
open Go.ChangeShapes Go.WideShapes Go.ChangeAt Go.RowKit Go.Deep Go.Joins

set_option maxRecDepth 100000 in
theorem open_intS {H : Type} {enc : TypeId × Value → H} {W : World} {base : Nat} {v : Value} {d : DataW H} {p : List MemPlace} (hval : Value.okWide Try.prog W .any base 25 v) (h : DataW.Trod enc Try.prog W 0 (fun _ => true) true 25 v d p) :
    ∃ A n c, v = .slice A n c ∧ n ≤ maxLen ∧ (n ≤ 1048576 → ∃ xs : List Int, xs.length = n ∧ RI W W.heap.size A xs) := by
  obtain ⟨a, n, c, rfl⟩ := okWide_slice Try.underlying25 hval
  obtain ⟨fuel, hf⟩ := h
  rcases Go.ChangeShapes.open_ints Try.underlying25 Try.underlying3 (by kernel_rfl) hf with ⟨hcs, _⟩ | ⟨a', len, cap, zs, hcs, _, hl, hm, hz, _, hat, _⟩
  · simp [Value.cells] at hcs
    obtain ⟨rfl, rfl, rfl⟩ := hcs
    exact ⟨none, 0, 0, rfl, Nat.zero_le _, fun _ => ⟨[], rfl, by simp, .inl rfl⟩⟩
  · simp [Value.cells] at hcs
    obtain ⟨rfl, rfl, rfl⟩ := hcs
    simp only [if_true] at hz
    refine ⟨some a', n, c, rfl, Nat.le_trans hl hm, fun hn => ⟨zs.take n, by simp; omega, by simp; omega, ?_⟩⟩
    by_cases h0 : n = 0
    · subst h0; exact .inl (by simp)
    · obtain ⟨b, off, spot⟩ := a'
      have h1 := hat 0 (by omega)
      have hspot : spot = none := by simpa [Addr.add] using World.cell?_spot h1
      subst hspot
      refine .inr ⟨b, off, rfl, cell_lt (o := off) (by simpa [Addr.add] using h1), fun k hk => ?_⟩
      have hk' : k < n := by simp at hk; omega
      have h2 := hat k (by omega)
      simp only [List.getElem_take]
      rw [List.getD_eq_getElem?_getD, List.getElem?_eq_getElem (by omega)] at h2
      by_cases hk0 : k = 0
      · subst hk0; simpa [Addr.add] using h2
      · simpa [Addr.add, hk0] using h2
end Go.Proofs.Ytmiefdjbhcpnbaa

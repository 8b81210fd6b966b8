/-
  Contracts of the laws' helpers on slices of slices of integers.
-/
import Derived.Test.YtmhffdgfkgdmlaaL8
import Derived.Test.YtmhffdgfkgdmlaaWGrid
import Derived.StillTailTactics
namespace Go.Proofs.Ytmhffdgfkgdmlaa
open Go.RowKit

set_option maxHeartbeats 400000 in
theorem markRow_any (b n c : Nat) (F : Nat → Int) (k0 : Int) (w : World) (h : RowI w b 3 n F) (hn : n ≤ 1048576) (h0 : 0 ≤ k0) (h1 : k0 ≤ 10000000000000) :
    Calls Try.prog 34 #[.slice (some ⟨b, 0, none⟩) n c, .int .i64 k0] w fun e w' => e = .returned (.int .i64 (k0 + n)) ∧ RowI w' b 3 n (marksI k0) ∧ w.grownBy w' (some b) ∧ w'.heap.size = w.heap.size := by
  go_enter Try.func34, Try.ntmps34
  go_wp2
  go_loopw [1, 5] (fun v i wr => ∃ k : Nat, k ≤ n ∧ i = .int .i64 k ∧ v = .int .i64 (k0 + k) ∧ RowI wr b 3 n (fun j => if j < k then marksI k0 j else F j) ∧ Hid (w.grownBy wr (some b)) ∧ Hid (wr.heap.size = w.heap.size)) (fun _ i _ => n - (intOf i).toNat)
  case atStart => exact ⟨0, Nat.zero_le _, rfl, by simp, h.congr (by simp), Lib.hid (grown_refl _ _), Lib.hid rfl⟩
  case round =>
    obtain ⟨k, hk, rfl, rfl, hr, hg, hsz⟩ := hrel
    by_cases hlt : k < n
    · have c1 := hr.cell hlt
      have f1 := hr.free k
      go_wp2
      go_roundw
      case rel => exact ⟨k + 1, by omega, by go_num, by go_num, (hr.set hlt _).congr (fun j hj => by
        by_cases e : j = k
        · subst e; simp [marksI]
        · have e2 : (j < k + 1) = (j < k) := by apply propext; omega
          simp [e, e2]), Lib.hid (grown_setCell hg.out ⟨b, k, none⟩ _ rfl), Lib.hid (by simp; exact hsz.out)⟩
      case measure => simp [intOf]; omega
    · obtain rfl : k = n := by omega
      go_wp2
      go_ret
      exact ⟨rfl, hr.congr (fun j hj => by simp [hj]), hg.out, hsz.out⟩

/-- The numbers of the rows ahead of one. -/
def cumL (len : Nat → Nat) : Nat → Nat
  | 0 => 0
  | y + 1 => cumL len y + len y
theorem cumL_le (len : Nat → Nat) (m : Nat) : ∀ n, (∀ y < n, len y ≤ m) → cumL len n ≤ n * m
  | 0, _ => by simp [cumL]
  | n + 1, h => by
    have h1 := cumL_le len m n (fun y hy => h y (by omega))
    have h2 := h n (by omega)
    simp only [cumL, Nat.add_mul, Nat.one_mul]
    omega
def marksG (k0 : Int) (len : Nat → Nat) (y j : Nat) : Int := k0 + cumL len y + j

set_option maxHeartbeats 1000000 in
theorem markIntSS_any (base : Nat) (A : Option Addr) (n c : Nat) (len : Nat → Nat) (F : Nat → Nat → Int) (Bk C : Nat → Nat) (w : World) (h : Grid w base 22 3 (.slice A n c) n len F Bk C) (hn : n ≤ 1048576) (hl : ∀ y < n, len y ≤ 1048576) :
    Calls Try.prog 20 #[.slice A n c, .int .i64 1] w fun e w' => e = .returned (.int .i64 (1 + (cumL len n : Nat))) ∧ Grid w' base 22 3 (.slice A n c) n len (marksG 1 len) Bk C ∧ (∀ B, B ≤ base → B ≤ w.heap.size → Below B w w') ∧ w'.heap.size = w.heap.size := by
  go_enter Try.func20, Try.ntmps20
  go_wp2
  go_loopw [1, 5] (fun v i wr => ∃ k : Nat, k ≤ n ∧ i = .int .i64 k ∧ v = .int .i64 (1 + (cumL len k : Nat)) ∧ Grid wr base 22 3 (.slice A n c) n len (fun y => if y < k then marksG 1 len y else F y) Bk C ∧ Hid (∀ B, B ≤ base → B ≤ w.heap.size → Below B w wr) ∧ Hid (wr.heap.size = w.heap.size)) (fun _ i _ => n - (intOf i).toNat)
  case atStart => exact ⟨0, Nat.zero_le _, rfl, by simp [cumL], h.congr (fun _ _ => rfl) (by simp), Lib.hid (fun _ _ _ => Below.refl _ _), Lib.hid rfl⟩
  case round =>
    obtain ⟨k, hk, rfl, rfl, hr, hg, hsz⟩ := hrel
    have hc := cumL_le len 1048576 k (fun y hy => hl y (by omega))
    have hc2 : cumL len k ≤ 1099511627776 := Nat.le_trans hc (by have := Nat.mul_le_mul_right 1048576 (show k ≤ 1048576 by omega); omega)
    by_cases hlt : k < n
    · obtain ⟨g, hA, hlo, hgs, c1, hrow⟩ := hr.row hlt
      simp only at hA
      injection hA with hA _ _
      subst hA
      rw [if_neg (Nat.lt_irrefl k)] at hrow
      have hlk := hl k hlt
      have hbk := (hr.2.1 k hlt).1
      clear hc
      go_wp2_with fail
      refine (markRow_any _ _ _ _ _ _ hrow hlk (by omega) (by omega)).mono ?_
      rintro e w2 ⟨rfl, hr2, hg2, hs2⟩
      go_wp2_with fail
      go_roundw
      case rel =>
        refine ⟨k + 1, by omega, by go_num, by simp only [cumL]; go_num, (hr.setRow hlt hg2 hr2).congr (fun _ _ => rfl) (fun y hy j hj => ?_), Lib.hid (fun B hB hB2 => (hg.out B hB hB2).grown hg2 (by rw [hsz.out]; exact hB2) (fun i hi => by cases hi; omega)), Lib.hid (hs2.trans hsz.out)⟩
        by_cases e : y = k
        · subst e; simp [marksI, marksG]
        · have e2 : (y < k + 1) = (y < k) := by apply propext; omega
          simp [e, e2]
      case measure => simp [intOf]; omega
    · obtain rfl : k = n := by omega
      go_wp2
      go_ret
      exact ⟨rfl, hr.congr (fun _ _ => rfl) (fun y hy j hj => by simp [hy]), hg.out, hsz.out⟩

set_option maxHeartbeats 1000000 in
theorem heldIntSS_any (base : Nat) (A : Option Addr) (n c : Nat) (len : Nat → Nat) (Bk C : Nat → Nat) (w : World) (h : Grid w base 22 3 (.slice A n c) n len (marksG 1 len) Bk C) (hn : n ≤ 1048576) (hl : ∀ y < n, len y ≤ 1048576) :
    Calls Try.prog 21 #[.slice A n c, .int .i64 1] w fun e w' => e = .returned (.int .i64 (1 + (cumL len n : Nat))) ∧ w = w' := by
  go_enter Try.func21, Try.ntmps21
  go_wp2
  go_loop [1, 5] (fun v i => ∃ k : Nat, k ≤ n ∧ i = .int .i64 k ∧ v = .int .i64 (1 + (cumL len k : Nat))) (fun _ i => n - (intOf i).toNat)
  case atStart => exact ⟨0, Nat.zero_le _, rfl, by simp [cumL]⟩
  case round =>
    obtain ⟨k, hk, rfl, rfl⟩ := hrel
    have hc := cumL_le len 1048576 k (fun y hy => hl y (by omega))
    have hc2 : cumL len k ≤ 1099511627776 := Nat.le_trans hc (by have := Nat.mul_le_mul_right 1048576 (show k ≤ 1048576 by omega); omega)
    by_cases hlt : k < n
    · obtain ⟨g, hA, hlo, hgs, c1, hrow⟩ := h.row hlt
      simp only at hA
      injection hA with hA _ _
      subst hA
      have hlk := hl k hlt
      have hoi : OI w 0 3 (some ⟨Bk k, 0, none⟩) (len k) (marksI (1 + (cumL len k : Nat))) := .inr ⟨_, rfl, Nat.zero_le _, hrow⟩
      have hn2 : ¬ (1 + (cumL len k : Int) + (len k : Int)) < 0 := by omega
      clear hc
      go_wp2_with fail
      refine (heldIntS_big _ _ _ _ _ _ hoi hlk (by omega) (by omega)).mono ?_
      rintro e w2 ⟨rfl, rfl⟩
      go_wp2_with fail
      go_round
      case rel => exact ⟨k + 1, by omega, by go_num, by simp only [cumL]; go_num⟩
      case measure => simp [intOf]; omega
    · obtain rfl : k = n := by omega
      go_wp2
      go_ret
      exact ⟨rfl, rfl⟩

set_option maxRecDepth 100000 in
set_option maxHeartbeats 1000000 in
theorem eqIntSS_any (A A' : Option Addr) (c c' : Nat) (L : List (List Int)) (w : World) (hj : RG w w.heap.size A L) (hj' : RG w w.heap.size A' L) :
    Calls Try.prog 17 #[.slice A L.length c, .slice A' L.length c'] w fun e w' => e = .returned (.bool true) ∧ Below w.heap.size w w' := by
  have hl := hj.1
  have hq : ((L.length : Int) != (L.length : Int)) = false := by simp
  go_enter Try.func17, Try.ntmps17
  go_wp2
  go_loopw [5] (fun i wr => ∃ k : Nat, k ≤ L.length ∧ i = .int .i64 k ∧ Below w.heap.size w wr) (fun i _ => L.length - (intOf i).toNat)
  case atStart => exact ⟨0, Nat.zero_le _, rfl, Below.refl _ _⟩
  case round =>
    obtain ⟨k, hk, rfl, hb⟩ := hrel
    by_cases hlt : k < L.length
    · obtain ⟨b, off, A1, c1, rfl, hB, h1, hr1⟩ := hj.at_ hb hlt
      obtain ⟨b', off', A2, c2, rfl, hB', h2, hr2⟩ := hj'.at_ hb hlt
      have hsz := hb.size
      have hxx : (L[k] == L[k]) = true := by simp
      go_wp2_with fail
      go_still_tail 8, (by kernel_rfl)
      change wpList _ _ _ _ _ wr.drew
      have hd := hb.drew
      obtain ⟨W2, hW2⟩ : ∃ W2, W2 = wr.drew := ⟨_, rfl⟩
      rw [← hW2] at hd ⊢
      have r1 : RI W2 W2.heap.size A1 L[k] := by rw [hW2]; exact hr1.more hsz
      have r2 : RI W2 W2.heap.size A2 L[k] := by rw [hW2]; exact hr2.more hsz
      clear hW2
      go_wp2_with fail
      refine (eqIntS_any _ _ _ _ L[k] L[k] _ r1 r2).mono ?_
      rintro e w3 ⟨rfl, hx3⟩
      go_wp2_with fail
      go_roundw
      case rel => exact ⟨k + 1, by omega, by go_num, hd.trans (hx3.mono hd.size)⟩
      case measure => simp [intOf]; omega
    · obtain rfl : k = L.length := by omega
      go_wp2
      go_ret
      exact ⟨rfl, hb⟩

/-- The rows of a grid as lists. -/
def gridL (n : Nat) (len : Nat → Nat) (F : Nat → Nat → Int) : List (List Int) := (List.range n).map fun y => (List.range (len y)).map (F y)
theorem gridL_len (n : Nat) (len : Nat → Nat) (F : Nat → Nat → Int) : (gridL n len F).length = n := by simp [gridL]
theorem Grid.rgL {w : World} {base n c : Nat} {t te : TypeId} {A : Option Addr} {len : Nat → Nat} {F : Nat → Nat → Int} {Bk C : Nat → Nat} (h : Grid w base t te (.slice A n c) n len F Bk C) (hn : n ≤ 1048576) (hl : ∀ y, len y ≤ 1048576) : RG w w.heap.size A (gridL n len F) := by
  have e := gridL_len n len F
  have h' : Grid w base t te (.slice A (gridL n len F).length c) (gridL n len F).length len F Bk C := by rw [e]; exact h
  refine h'.rg (by rw [e]; exact hn) (fun y hy => ?_)
  have : (gridL n len F)[y] = (List.range (len y)).map (F y) := by simp [gridL]
  refine ⟨by rw [this]; simp, by rw [this]; simpa using hl y, fun j hj => ?_⟩
  simp [gridL]
theorem eqGrid_any (A A' : Option Addr) (c c' n : Nat) (len : Nat → Nat) (F : Nat → Nat → Int) (w : World) (hj : RG w w.heap.size A (gridL n len F)) (hj' : RG w w.heap.size A' (gridL n len F)) :
    Calls Try.prog 17 #[.slice A n c, .slice A' n c'] w fun e w' => e = .returned (.bool true) ∧ Below w.heap.size w w' := by
  have := eqIntSS_any A A' c c' (gridL n len F) w hj hj'
  rw [gridL_len] at this
  exact this
end Go.Proofs.Ytmhffdgfkgdmlaa

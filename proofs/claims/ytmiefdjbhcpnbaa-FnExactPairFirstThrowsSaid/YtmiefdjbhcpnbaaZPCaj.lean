/- Several texts, one behind the other: C5h. -/
import Derived.Test.YtmiefdjbhcpnbaaZPCai

namespace Go.Proofs.Ytmiefdjbhcpnbaa
open Go.RowKit

set_option maxRecDepth 100000 in
theorem fewestLists_any (g s f T : Nat) (o : Int) (G : Nat → Int) (S : Nat → Nat → Bool) (w : World) (hC : CV w g s f o G) (hS : inPS s S) (hs : s ≤ 6) (hf : f ≤ 4) (hT : T ≤ 12) (hp : 0 < doneN s f T S) (hl : ∀ t, t < T → doneN s f t S = 0) :
    Calls Try.prog 25 #[.pointer (some ⟨g, 0, none⟩), .agg (setC S)] w fun e w' => e = .returned (.tuple #[.int .i64 T, .int .i64 (doneN s f T S : Nat)]) ∧ Below w.heap.size w w' := by
  have hgl : g < w.heap.size := cell_lt hC.sq
  have hpl := doneN_le (f := f) hs T S hS
  have hp4 := pow_small (f := f) hf hT
  have kS : SA (w.alloc (.cells (setC S) 49)) w.heap.size 49 S := heap_alloc_at _ _ _ rfl
  have hB := below1 w (.cells (setC S) 49)
  have HP := Lib.hid hp; have HL := Lib.hid hl
  obtain ⟨D, hD⟩ : ∃ D, D = doneN s f 0 S := ⟨_, rfl⟩
  clear hpl hp4 hp hl
  go_enter Try.func25, Try.ntmps25
  go_wp2_with (refine wpList_load_row rfl 49 (.tmp 3) rfl w.heap.size rfl _ _ _ _ kS Try.underlying49 rfl ?_ ?_; (rw [setC_size]; exact sizeSet))
  refine (doneLists_any 0 g s f o G S _ (hC.below hB hgl) hS hs hf (by omega)).mono ?_
  rintro e w1 ⟨rfl, hx1⟩
  have hB1 := hB.trans (hx1.mono hB.size)
  have kS1 := kS.below hx1 kS.lt
  rw [← hD]
  have HD := Lib.hid hD
  clear hD hB kS hx1
  go_wp2_with fail
  go_loopw [6, 7] (fun a b wr => ∃ t D : Nat, t ≤ T ∧ a = .int .i64 t ∧ b = .int .i64 D ∧ D = doneN s f t S ∧ Below w.heap.size w wr ∧ SA wr w.heap.size 49 S) (fun a _ _ => T - (intOf a).toNat)
  case atStart => exact ⟨0, D, Nat.zero_le _, rfl, rfl, HD.out, hB1, kS1⟩
  case round =>
    clear hB1 kS1 HD
    obtain ⟨t, D, ht, rfl, rfl, hD, hB, kS⟩ := hrel
    have hsz := hB.size
    by_cases hlt : t < T
    · obtain rfl : D = 0 := by rw [hD]; exact HL.out t hlt
      clear hD
      have e0 : (((0 : Nat) : Int) == 0) = true := rfl
      have tw : IntKind.i64.wrap ((t : Int) + 1) = ((t + 1 : Nat) : Int) := by rw [IntWalk.i64_in _ (by omega)]; omega
      obtain ⟨t1, ht1⟩ : ∃ t1, t1 = t + 1 := ⟨_, rfl⟩
      have h12 : t1 ≤ 12 := by omega
      rw [← ht1] at tw
      have HT1 := Lib.hid ht1; clear ht1
      go_wp2_with (refine wpList_load_row rfl 49 (.tmp 3) rfl w.heap.size rfl _ _ _ _ kS Try.underlying49 rfl ?_ ?_; (rw [setC_size]; exact sizeSet))
      refine (doneLists_any t1 g s f o G S _ (hC.below hB hgl) hS hs hf h12).mono ?_
      rintro e w2 ⟨rfl, hx2⟩
      have hB2 := hB.trans (hx2.mono hsz)
      have kS2 := kS.below hx2 kS.lt
      go_wp2_with fail
      go_roundw
      case rel => exact ⟨t1, doneN s f t1 S, by have := HT1.out; omega, rfl, rfl, rfl, hB2, kS2⟩
      case measure => have := HT1.out; simp [intOf]; omega
    · obtain rfl : t = T := by omega
      have hD0 : 0 < D := by rw [hD]; exact HP.out
      have e0 : ((D : Int) == 0) = false := beq_eq_false_iff_ne.2 (by omega)
      have HD := Lib.hid hD; clear hD
      go_wp2
      go_ret2
      exact ⟨by rw [HD.out]; rfl, hB⟩

theorem oiFew_any (s f x : Nat) (w : World) (hs : s ≤ 6) (hx : x ≤ s) (hf1 : 1 ≤ f) (hf : f ≤ 4) :
    Calls Try.prog 35 #[.int .i64 s, .int .i64 f, .int .i64 x] w fun e w' => e = .returned (.int .i64 (fewP s f x : Nat)) ∧ w = w' := by
  have w1 : IntKind.i64.wrap ((s : Int) - (x : Int)) = ((s - x : Nat) : Int) := by rw [IntWalk.i64_in _ (by omega)]; omega
  obtain ⟨d, hd⟩ : ∃ d, d = s - x := ⟨_, rfl⟩
  rw [← hd] at w1
  have w2 : IntKind.i64.wrap ((d : Int) + (f : Int)) = ((d + f : Nat) : Int) := by rw [IntWalk.i64_in _ (by omega)]; omega
  obtain ⟨d2, hd2⟩ : ∃ d2, d2 = d + f := ⟨_, rfl⟩
  rw [← hd2] at w2
  have w3 : IntKind.i64.wrap ((d2 : Int) - 1) = ((d2 - 1 : Nat) : Int) := by rw [IntWalk.i64_in _ (by omega)]; omega
  obtain ⟨d3, hd3⟩ : ∃ d3, d3 = d2 - 1 := ⟨_, rfl⟩
  rw [← hd3] at w3
  have he : fewP s f x = d3 / f := by rw [hd3, hd2, hd]; rfl
  rw [he]
  have w4 : ((d3 : Int).tdiv (f : Int)) = ((d3 / f : Nat) : Int) := by rw [Int.ofNat_tdiv]
  have hq : d3 / f ≤ d3 := Nat.div_le_self _ _
  have h3 : d3 ≤ 20 := by omega
  obtain ⟨q, hqq⟩ : ∃ q, q = d3 / f := ⟨_, rfl⟩
  rw [← hqq] at w4 hq ⊢
  have hf0 : (f : Int) ≠ 0 := by omega
  have w5 : IntKind.i64.wrap ((q : Nat) : Int) = (q : Int) := IntWalk.i64_in _ (by omega)
  clear hd hd2 hd3 he hqq
  go_enter Try.func35, Try.ntmps35
  go_wp2
  go_ret
  exact ⟨rfl, rfl⟩

theorem few_le {s f a b : Nat} (hs : s ≤ 6) (hf : 1 ≤ f) : fewP s f a + fewP s f b ≤ 12 := by
  have h : ∀ x, fewP s f x ≤ 6 := fun x => by
    have : fewP s f x < 7 := by
      unfold fewP
      refine (Nat.div_lt_iff_lt_mul (by omega)).2 ?_
      have : 7 * f ≥ f + 6 := by omega
      omega
    omega
  have := h a; have := h b; omega
/-- The squares, the faces and both tokens of a pair as numbers. -/
theorem pair_nat {s f a b : Int} (h : pairOk s f a b = true) : ∃ s' f' a' b' : Nat, s = s' ∧ f = f' ∧ a = a' ∧ b = b' := by
  have hh := pairOk_iff.1 h
  exact ⟨s.toNat, f.toNat, a.toNat, b.toNat, by omega, by omega, by omega, by omega⟩




end Go.Proofs.Ytmiefdjbhcpnbaa

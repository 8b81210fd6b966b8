/- Several texts, one behind the other: C5p M35 C5v. -/
import Derived.StillTailTactics
import Derived.Test.YtmiefdjbhcpnbaaZPPac
import Derived.Test.YtmiefdjbhcpnbaaZPPad

namespace Go.Proofs.Ytmiefdjbhcpnbaa
open Go.RowKit

theorem lowA_nat {x y : Nat} (hx : x ≤ 1152921504606846976) : lowA x y = ((redF x y).1 : Int) := by
  have h : x / Nat.gcd x y ≤ x := Nat.div_le_self _ _
  unfold lowA redF
  rw [show (x : Int) / ((Nat.gcd x y : Nat) : Int) = ((x / Nat.gcd x y : Nat) : Int) from rfl]
  generalize x / Nat.gcd x y = q at *
  exact IntWalk.wrap64_in _ (by omega)
theorem lowB_nat {x y : Nat} (hy : y ≤ 1152921504606846976) : lowB x y = ((redF x y).2 : Int) := by
  have h : y / Nat.gcd x y ≤ y := Nat.div_le_self _ _
  unfold lowB redF
  rw [show (y : Int) / ((Nat.gcd x y : Nat) : Int) = ((y / Nat.gcd x y : Nat) : Int) from rfl]
  generalize y / Nat.gcd x y = q at *
  exact IntWalk.wrap64_in _ (by omega)
/-- A fraction is handed back. -/
def FrBack (w : World) (p : Fr) (e : Ending) (w' : World) : Prop := e = .returned (.agg #[.int .i64 (p.1 : Nat), .int .i64 (p.2 : Nat)]) ∧ Below w.heap.size w w'

set_option maxRecDepth 100000 in
theorem ratioOf_any (x y : Nat) (w : World) (hx : x ≤ 1152921504606846976) (hy : y ≤ 1152921504606846976) (hy1 : 1 ≤ y) :
    Calls Try.prog 65 #[.int .i64 x, .int .i64 y] w (FrBack w (redF x y)) := by
  go_enter Try.func65, Try.ntmps65
  go_wp2_with fail
  refine (lowest_any x y _ hx hy hy1).mono ?_
  rintro e w2 ⟨rfl, hB⟩
  rw [lowA_nat hx, lowB_nat hy]
  have kb : w2.heap[w.heap.size]? = some (.cells #[.int .i64 0, .int .i64 0] 78 (0, 0)) := (hB.block _ (by simp)).trans (heap_alloc_at _ _ _ rfl)
  have q := fun i => cell_of_row w2 w.heap.size i _ _ _ kb
  have f0 := fun i => frozen_row (i := i) kb
  have hb : Below w.heap.size w w2 := (below1 _ _).trans (hB.mono (by simp))
  clear kb
  go_wp2
  exact bodyPost_ret (v := .agg #[.int .i64 ((redF x y).1 : Nat), .int .i64 ((redF x y).2 : Nat)]) (by simp [results, Try.results65, go_sem, q]) rfl ⟨rfl, (hb.setCell (Nat.le_refl _) _).setCell (Nat.le_refl _) _⟩

set_option maxRecDepth 100000 in
theorem plus_any (p q : Fr) (w : World) (h : okAdd p q = true) :
    Calls Try.prog 67 #[.agg #[.int .i64 (p.1 : Nat), .int .i64 (p.2 : Nat)], .agg #[.int .i64 (q.1 : Nat), .int .i64 (q.2 : Nat)]] w (FrBack w (addF p q)) := by
  obtain ⟨h1, h2, h3, h4⟩ := okAdd_iff.1 h
  have hv : addF p q = redF (p.1 * q.2 + q.1 * p.2) (p.2 * q.2) := rfl
  rw [hv]
  obtain ⟨a, b⟩ := p
  obtain ⟨c, d⟩ := q
  simp only at h1 h2 h3 h4 ⊢
  have w1 : IntKind.i64.wrap ((a : Int) * (d : Int)) = ((a * d : Nat) : Int) := by rw [← Int.natCast_mul]; exact IntWalk.i64_in _ (by omega)
  have w2 : IntKind.i64.wrap ((c : Int) * (b : Int)) = ((c * b : Nat) : Int) := by rw [← Int.natCast_mul]; exact IntWalk.i64_in _ (by omega)
  have w3 : IntKind.i64.wrap ((b : Int) * (d : Int)) = ((b * d : Nat) : Int) := by rw [← Int.natCast_mul]; exact IntWalk.i64_in _ (by omega)
  obtain ⟨x, hx⟩ : ∃ x, x = a * d := ⟨_, rfl⟩
  obtain ⟨y, hy⟩ : ∃ y, y = c * b := ⟨_, rfl⟩
  obtain ⟨z, hz⟩ : ∃ z, z = b * d := ⟨_, rfl⟩
  rw [← hx] at w1 h1 ⊢
  rw [← hy] at w2 h2 ⊢
  rw [← hz] at w3 h3 h4 ⊢
  have w4 : IntKind.i64.wrap ((x : Int) + (y : Int)) = ((x + y : Nat) : Int) := by rw [IntWalk.i64_in _ (by omega)]; omega
  obtain ⟨s, hs⟩ : ∃ s, s = x + y := ⟨_, rfl⟩
  have hsl : s ≤ 2000000000000000 := by omega
  rw [← hs] at w4 ⊢
  clear hx hy hz hs h hv
  go_enter Try.func67, Try.ntmps67
  go_wp2_with fail
  refine (ratioOf_any s z _ (by omega) (by omega) h3).mono ?_
  rintro e w6 ⟨rfl, hB⟩
  have kb : w6.heap[w.heap.size + 2]? = some (.cells #[.int .i64 0, .int .i64 0] 78 (0, 0)) := (hB.block _ (by simp)).trans (heap_alloc_at _ _ _ (by simp))
  have q := fun i => cell_of_row w6 (w.heap.size + 2) i _ _ _ kb
  have f0 := fun i => frozen_row (i := i) kb
  have hb : Below w.heap.size w w6 := (below3 _ _ _ _).trans (hB.mono (by simp; omega))
  clear kb
  go_wp2
  exact bodyPost_ret (v := .agg #[.int .i64 ((redF s z).1 : Nat), .int .i64 ((redF s z).2 : Nat)]) (by simp [results, Try.results67, go_sem, q]) rfl ⟨rfl, (hb.setCell (by simp; omega) _).setCell (by simp; omega) _⟩

/-- A row of fractions as jumps. -/
def frJ (l : List Fr) : List (Int × Int) := l.map fun p => ((p.1 : Int), (p.2 : Int))
theorem frJ_len (l : List Fr) : (frJ l).length = l.length := by simp [frJ]
theorem frJ_at (l : List Fr) {k : Nat} (hk : k < (frJ l).length) : (frJ l)[k] = (((l[k]'(by rw [frJ_len] at hk; exact hk)).1 : Int), ((l[k]'(by rw [frJ_len] at hk; exact hk)).2 : Int)) := by simp [frJ]
theorem heap2 (w : World) (g : Nat) (a b a' b' : Value) (t : TypeId) (h : w.heap[g]? = some (.cells #[a, b] t (0, 0))) : ((w.setCell ⟨g, 0, none⟩ a').setCell ⟨g, 1, none⟩ b').heap[g]? = some (.cells #[a', b'] t (0, 0)) := by
  have h1 := heap_set _ g 1 _ t b' (heap_set w g 0 _ t a' h)
  exact h1

set_option maxRecDepth 100000 in
set_option maxHeartbeats 1000000 in
theorem sumFr_any (A : Option Addr) (c : Nat) (p : Fr) (l : List Fr) (w : World) (hr : RJ w w.heap.size A (frJ l)) (hok : okSum p l = true) :
    Calls Try.prog 66 #[.agg #[.int .i64 (p.1 : Nat), .int .i64 (p.2 : Nat)], .slice A l.length c, .func (.func 67) #[] #[]] w (FrBack w (sumF p l)) := by
  have hl := hr.1
  rw [frJ_len] at hl
  have hat := okSum_at p l hok
  have HAT := Lib.hid hat
  have hend : sumF p l = atF p l l.length := by unfold atF; rw [List.take_length]
  rw [hend]
  clear hat hend hok
  go_enter Try.func66, Try.ntmps66
  go_wp2_with fail
  go_loopw [9, 13] (fun _ i wr => ∃ k : Nat, k ≤ l.length ∧ i = .int .i64 (k : Int) ∧ Below w.heap.size w wr ∧ wr.heap[w.heap.size + 1]? = some (.cells #[.int .i64 0, .int .i64 0] 78 (0, 0)) ∧ wr.heap[w.heap.size + 1 + 1]? = some (.cells #[.int .i64 ((atF p l k).1 : Nat), .int .i64 ((atF p l k).2 : Nat)] 78 (0, 0))) (fun _ i _ => l.length - (intOf i).toNat)
  case atStart => exact ⟨0, Nat.zero_le _, rfl, below3 _ _ _ _, (Below.heap_alloc _ _ _ (by simp)).trans (heap_alloc_at _ _ _ (by simp)), heap_alloc_at _ _ _ (by simp)⟩
  case round =>
    obtain ⟨k, hk, rfl, hB, k1, k2⟩ := hrel
    have hsz := heap_lt k2
    have q2 := fun i => cell_of_row wr (w.heap.size + 1 + 1) i _ _ _ k2
    by_cases hlt : k < l.length
    · obtain ⟨b, off, rfl, hbw, c1, c2⟩ := hr.at_ hB (show k < (frJ l).length by rw [frJ_len]; exact hlt)
      rw [frJ_at] at c1 c2
      have hok := HAT.out k hlt
      have hsucc := atF_succ p l hlt
      obtain ⟨a, ha⟩ : ∃ a, a = atF p l k := ⟨_, rfl⟩
      obtain ⟨q, hq⟩ : ∃ q, q = l[k] := ⟨_, rfl⟩
      rw [← ha, ← hq] at hok hsucc
      simp only [← hq] at c1 c2
      rw [← ha] at k2
      simp only [← ha] at q2
      have HSU := Lib.hid hsucc
      have hbl : b < wr.heap.size := by have := hB.size; omega
      clear ha hq hsucc
      go_wp2_with fail
      refine (plus_any a q _ hok).mono ?_
      rintro e w5 ⟨rfl, hx5⟩
      rw [← HSU.out]
      have hB5 := (hB.alloc hB.size (.cells #[.int .i64 (q.1 : Nat), .int .i64 (q.2 : Nat)] 78)).trans (hx5.mono (by simp; omega))
      have k15 := (hx5.block (w.heap.size + 1) (by simp; omega)).trans ((Below.heap_alloc _ _ _ (heap_lt k1)).trans k1)
      have k25 := (hx5.block (w.heap.size + 1 + 1) (by simp; omega)).trans ((Below.heap_alloc _ _ _ (heap_lt k2)).trans k2)
      have q5 := fun i => cell_of_row w5 (w.heap.size + 1 + 1) i _ _ _ k25
      have f5 := fun i => frozen_row (i := i) k25
      have ne : w.heap.size + 1 ≠ w.heap.size + 1 + 1 := by omega
      clear c1 c2 q2 k1 k2 hB hx5
      go_wp2_with fail
      go_roundw
      case rel => exact ⟨k + 1, by omega, by go_num, (hB5.setCell (by simp; omega) _).setCell (by simp; omega) _, (Below.heap_setCell _ _ _ _ ne).trans ((Below.heap_setCell _ _ _ _ ne).trans k15), heap2 _ _ _ _ _ _ _ k25⟩
      case measure => simp [intOf]; omega
    · obtain rfl : k = l.length := by omega
      have f1 := fun i => frozen_row (i := i) k1
      have q1 := fun i => cell_of_row wr (w.heap.size + 1) i _ _ _ k1
      go_wp2
      exact bodyPost_ret (v := .agg #[.int .i64 ((atF p l l.length).1 : Nat), .int .i64 ((atF p l l.length).2 : Nat)]) (by simp [results, Try.results66, go_sem, q1]) rfl ⟨rfl, (hB.setCell (by simp) _).setCell (by simp) _⟩
end Go.Proofs.Ytmiefdjbhcpnbaa

namespace Go.Proofs.Ytmiefdjbhcpnbaa

/-- The least common multiple as the model makes it. -/
def lcmS (b d : Nat) : Nat := b / Nat.gcd b d * d
def addS (p q : Fr) : Fr := redF (p.1 * (lcmS p.2 q.2 / p.2) + q.1 * (lcmS p.2 q.2 / q.2)) (lcmS p.2 q.2)
def okAddS (p q : Fr) : Bool := decide (1 ≤ p.2) && decide (1 ≤ q.2) && decide (p.2 ≤ 1000000000000000) && decide (q.2 ≤ 1000000000000000) && decide (1 ≤ lcmS p.2 q.2) && decide (lcmS p.2 q.2 ≤ 1000000000000000) && decide (p.1 * (lcmS p.2 q.2 / p.2) ≤ 1000000000000000) && decide (q.1 * (lcmS p.2 q.2 / q.2) ≤ 1000000000000000)
theorem okAddS_iff {p q : Fr} : okAddS p q = true ↔ 1 ≤ p.2 ∧ 1 ≤ q.2 ∧ p.2 ≤ 1000000000000000 ∧ q.2 ≤ 1000000000000000 ∧ 1 ≤ lcmS p.2 q.2 ∧ lcmS p.2 q.2 ≤ 1000000000000000 ∧ p.1 * (lcmS p.2 q.2 / p.2) ≤ 1000000000000000 ∧ q.1 * (lcmS p.2 q.2 / q.2) ≤ 1000000000000000 := by
  simp only [okAddS, Bool.and_eq_true, decide_eq_true_eq, and_assoc]
/-- A fraction divided by a number. -/
def overS (p : Fr) (n : Nat) : Fr := ((redF p.1 n).1, (redF p.1 n).2 * p.2)
end Go.Proofs.Ytmiefdjbhcpnbaa

namespace Go.Proofs.Ytmiefdjbhcpnbaa
open Go.RowKit

set_option maxHeartbeats 400000 in
theorem meLow_any (x y : Nat) (w : World) (hx : x ≤ 1152921504606846976) (hy : y ≤ 1152921504606846976) (hy1 : 1 ≤ y) :
    Calls Try.prog 61 #[.int .i64 x, .int .i64 y] w fun e w' => e = .returned (.tuple #[.int .i64 (lowA x y), .int .i64 (lowB x y)]) ∧ Below w.heap.size w w' := by
  have hg := Nat.gcd_pos_of_pos_right x (show 0 < y by omega)
  have hne : ((Nat.gcd x y : Nat) : Int) ≠ 0 := by omega
  go_enter Try.func61, Try.ntmps61
  go_wp2
  go_loopw [6, 7] (fun X Y wr => ∃ a b : Nat, X = .int .i64 a ∧ Y = .int .i64 b ∧ Nat.gcd a b = Nat.gcd x y ∧ a ≤ 1152921504606846976 ∧ b ≤ 1152921504606846976 ∧ Below w.heap.size w wr) (fun _ Y _ => (intOf Y).toNat)
  case atStart => exact ⟨x, y, rfl, rfl, rfl, hx, hy, Below.refl _ _⟩
  case round =>
    obtain ⟨a, b, rfl, rfl, hg, ha, hb, hB⟩ := hrel
    have HG := Lib.hid hg; clear hg
    by_cases h : 0 < b
    · have h1 : (0 : Int) < (b : Int) := by omega
      have h2 : (b : Int) ≠ 0 := by omega
      have hml := Nat.mod_lt a h
      have hmc : (a : Int) % (b : Int) = ((a % b : Nat) : Int) := rfl
      have HM := Lib.hid hmc; clear hmc
      go_wp2
      go_region
      all_goals
        go_wp2
        go_roundw
        case rel => exact ⟨b, a % b, rfl, by rw [HM.out], by rw [gcd_step]; exact HG.out, hb, by omega, hB.drew⟩
        case measure => rw [HM.out]; simp [intOf]; omega
    · obtain rfl : b = 0 := by omega
      have e : a = Nat.gcd x y := by rw [← HG.out, Nat.gcd_zero_right]
      subst e
      go_wp2
      go_region
      all_goals
        go_wp2
        go_ret2
        exact ⟨rfl, hB.drew⟩

set_option maxHeartbeats 400000 in
theorem meLow_quiet (x y : Nat) (w : World) (hx : x ≤ 1152921504606846976) (hy : y ≤ 1152921504606846976) (hy1 : 1 ≤ y) :
    Calls Try.prog 61 #[.int .i64 x, .int .i64 y] w fun e w' => e = .returned (.tuple #[.int .i64 (lowA x y), .int .i64 (lowB x y)]) ∧ ∃ m, w' = w.drewN m := by
  have hg := Nat.gcd_pos_of_pos_right x (show 0 < y by omega)
  have hne : ((Nat.gcd x y : Nat) : Int) ≠ 0 := by omega
  go_enter Try.func61, Try.ntmps61
  go_wp2
  go_loopw [6, 7] (fun X Y wr => ∃ a b : Nat, X = .int .i64 a ∧ Y = .int .i64 b ∧ Nat.gcd a b = Nat.gcd x y ∧ a ≤ 1152921504606846976 ∧ b ≤ 1152921504606846976 ∧ ∃ j, wr = w.drewN j) (fun _ Y _ => (intOf Y).toNat)
  case atStart => exact ⟨x, y, rfl, rfl, rfl, hx, hy, 0, rfl⟩
  case round =>
    obtain ⟨a, b, rfl, rfl, hg, ha, hb, j, hj⟩ := hrel
    have HJ := Lib.hid hj; clear hj
    have HG := Lib.hid hg; clear hg
    by_cases h : 0 < b
    · have h1 : (0 : Int) < (b : Int) := by omega
      have h2 : (b : Int) ≠ 0 := by omega
      have hml := Nat.mod_lt a h
      have hmc : (a : Int) % (b : Int) = ((a % b : Nat) : Int) := rfl
      have HM := Lib.hid hmc; clear hmc
      go_wp2
      go_region
      all_goals
        go_wp2
        go_roundw
        case rel => exact ⟨b, a % b, rfl, by rw [HM.out], by rw [gcd_step]; exact HG.out, hb, by omega, j + 1, by rw [HJ.out]; rfl⟩
        case measure => rw [HM.out]; simp [intOf]; omega
    · obtain rfl : b = 0 := by omega
      have e : a = Nat.gcd x y := by rw [← HG.out, Nat.gcd_zero_right]
      subst e
      go_wp2
      go_region
      all_goals
        go_wp2
        go_ret2
        exact ⟨rfl, j + 1, by rw [HJ.out]; rfl⟩

theorem oiNext_any (x y tok face : Nat) (w : World) (hx : x ≤ 100) (hy : y ≤ 100) (hf : face ≤ 8) :
    Calls Try.prog 40 #[.int .i64 x, .int .i64 y, .int .i64 tok, .int .i64 face] w fun e w' => e = .returned (.tuple #[.int .i64 (if tok = 0 then x + face else x : Nat), .int .i64 (if tok = 0 then y else y + face : Nat)]) ∧ Below w.heap.size w w' := by
  have wx : IntKind.i64.wrap ((x : Int) + (face : Int)) = ((x + face : Nat) : Int) := by rw [IntWalk.i64_in _ (by omega)]; omega
  have wy : IntKind.i64.wrap ((y : Int) + (face : Int)) = ((y + face : Nat) : Int) := by rw [IntWalk.i64_in _ (by omega)]; omega
  obtain ⟨X, hX⟩ : ∃ X, X = x + face := ⟨_, rfl⟩
  obtain ⟨Y, hY⟩ : ∃ Y, Y = y + face := ⟨_, rfl⟩
  rw [← hX] at wx ⊢
  rw [← hY] at wy ⊢
  clear hX hY
  by_cases h : tok = 0
  · have e : ((tok : Int) == 0) = true := by simp [h]
    rw [if_pos h, if_pos h]
    clear h
    go_enter Try.func40, Try.ntmps40
    go_wp2_with fail
    first | go_quiet (fail) | skip
    go_wp2
    go_ret2
    exact ⟨rfl, by first | exact Below.refl _ _ | exact drewB (Below.refl _ _) _⟩
  · have e : ((tok : Int) == 0) = false := beq_eq_false_iff_ne.2 (by omega)
    rw [if_neg h, if_neg h]
    clear h
    go_enter Try.func40, Try.ntmps40
    go_wp2_with fail
    first | go_quiet (fail) | skip
    go_wp2
    go_ret2
    exact ⟨rfl, by first | exact Below.refl _ _ | exact drewB (Below.refl _ _) _⟩

set_option maxRecDepth 100000 in
set_option maxHeartbeats 1000000 in
theorem oiOver_any (p : Fr) (n : Nat) (w : World) (h1 : p.1 ≤ 1000000000000000) (hn1 : 1 ≤ n) (hn : n ≤ 1000000) (h2 : n * p.2 ≤ 1000000000000000) :
    Calls Try.prog 53 #[.agg #[.int .i64 (p.1 : Nat), .int .i64 (p.2 : Nat)], .int .i64 n] w (FrBack w (overS p n)) := by
  obtain ⟨a, b⟩ := p
  simp only at h1 h2 ⊢
  have hr := redF_le a n
  have hm : (redF a n).2 * b ≤ 1000000000000000 := Nat.le_trans (Nat.mul_le_mul_right b hr.2) h2
  have hv : overS (a, b) n = ((redF a n).1, (redF a n).2 * b) := rfl
  rw [hv]
  obtain ⟨u, hu⟩ : ∃ u, u = (redF a n).1 := ⟨_, rfl⟩
  obtain ⟨v, hv2⟩ : ∃ v, v = (redF a n).2 := ⟨_, rfl⟩
  have hcall := fun w => meLow_any a n w (by omega) (by omega) hn1
  rw [lowA_nat (by omega), lowB_nat (by omega)] at hcall
  simp only [← hu, ← hv2] at hcall hm ⊢
  have wm : IntKind.i64.wrap ((v : Int) * (b : Int)) = ((v * b : Nat) : Int) := by rw [← Int.natCast_mul]; exact IntWalk.i64_in _ (by omega)
  obtain ⟨m, hm2⟩ : ∃ m, m = v * b := ⟨_, rfl⟩
  rw [← hm2] at wm hm ⊢
  have HC := Lib.hid hcall
  clear hu hv2 hm2 hv hr hcall
  go_enter Try.func53, Try.ntmps53
  go_wp2_with fail
  refine (HC.out _).mono ?_
  rintro e w2 ⟨rfl, hx⟩
  have k0 : w2.heap[w.heap.size]? = some (.cells #[.int .i64 (a : Int), .int .i64 (b : Int)] 96 (0, 0)) := (hx.block _ (by simp; omega)).trans ((Below.heap_alloc _ _ _ (by simp)).trans (heap_alloc_at _ _ _ rfl))
  have k1 : w2.heap[w.heap.size + 1]? = some (.cells #[.int .i64 0, .int .i64 0] 96 (0, 0)) := (hx.block _ (by simp)).trans (heap_alloc_at _ _ _ (by simp))
  have q0 := fun i => cell_of_row w2 w.heap.size i _ _ _ k0
  have q1 := fun i => cell_of_row w2 (w.heap.size + 1) i _ _ _ k1
  have f1 := fun i => frozen_row (i := i) k1
  have hb : Below w.heap.size w w2 := (below2 _ _ _).trans (hx.mono (by simp; omega))
  clear k0 k1 hx
  go_wp2
  exact bodyPost_ret (v := .agg #[.int .i64 (u : Nat), .int .i64 (m : Nat)]) (by simp [results, Try.results53, go_sem, q1]) rfl ⟨rfl, (hb.setCell (by simp) _).setCell (by simp) _⟩
end Go.Proofs.Ytmiefdjbhcpnbaa

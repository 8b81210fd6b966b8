/-
  Pairs: the program's fractions: ratioOf, plus, sumOf.
-/
import Derived.Test.YtblpfjjnlfjloaaC2g
import Derived.Test.YtblpfjjnlfjloaaM33
import Derived.Test.YtblpfjjnlfjloaaWRow
namespace Go.Proofs.Ytblpfjjnlfjloaa
open Go.RowKit

theorem lowA_nat {x y : Nat} (hx : x ≤ 1152921504606846976) : lowA x y = ((redF x y).1 : Int) := by
  have h : x / Nat.gcd x y ≤ x := Nat.div_le_self _ _
  unfold lowA redF
  rw [show (x : Int) / ((Nat.gcd x y : Nat) : Int) = ((x / Nat.gcd x y : Nat) : Int) from rfl]
  generalize x / Nat.gcd x y = q at *
  exact IntWalk.wrap64_in _ (by omega)
theorem lowB_nat {x y : Nat} (hy : y ≤ 1152921504606846976) : lowB x y = ((redF x y).2 : Int) := by
  have h : y / Nat.gcd x y ≤ y := Nat.div_le_self _ _
  unfold lowB redF
  rw [show (y : Int) / ((Nat.gcd x y : Nat) : Int) = ((y / Nat.gcd x y : Nat) : Int) from rfl]
  generalize y / Nat.gcd x y = q at *
  exact IntWalk.wrap64_in _ (by omega)
/-- A fraction is handed back. -/
def FrBack (w : World) (p : Fr) (e : Ending) (w' : World) : Prop := e = .returned (.agg #[.int .i64 (p.1 : Nat), .int .i64 (p.2 : Nat)]) ∧ Below w.heap.size w w'

set_option maxRecDepth 100000 in
theorem ratioOf_any (x y : Nat) (w : World) (hx : x ≤ 1152921504606846976) (hy : y ≤ 1152921504606846976) (hy1 : 1 ≤ y) :
    Calls Try.prog 89 #[.int .i64 x, .int .i64 y] w (FrBack w (redF x y)) := by
  go_enter Try.func89, Try.ntmps89
  go_wp2_with fail
  refine (lowest_any x y _ hx hy hy1).mono ?_
  rintro e w2 ⟨rfl, hB⟩
  rw [lowA_nat hx, lowB_nat hy]
  have kb : w2.heap[w.heap.size]? = some (.cells #[.int .i64 0, .int .i64 0] 61 (0, 0)) := (hB.block _ (by simp)).trans (heap_alloc_at _ _ _ rfl)
  have q := fun i => cell_of_row w2 w.heap.size i _ _ _ kb
  have f0 := fun i => frozen_row (i := i) kb
  have hb : Below w.heap.size w w2 := (below1 _ _).trans (hB.mono (by simp))
  clear kb
  go_wp2
  exact bodyPost_ret (v := .agg #[.int .i64 ((redF x y).1 : Nat), .int .i64 ((redF x y).2 : Nat)]) (by simp [results, Try.results89, go_sem, q]) rfl ⟨rfl, (hb.setCell (Nat.le_refl _) _).setCell (Nat.le_refl _) _⟩

set_option maxRecDepth 100000 in
theorem plus_any (p q : Fr) (w : World) (h : okAdd p q = true) :
    Calls Try.prog 91 #[.agg #[.int .i64 (p.1 : Nat), .int .i64 (p.2 : Nat)], .agg #[.int .i64 (q.1 : Nat), .int .i64 (q.2 : Nat)]] w (FrBack w (addF p q)) := by
  obtain ⟨h1, h2, h3, h4⟩ := okAdd_iff.1 h
  have hv : addF p q = redF (p.1 * q.2 + q.1 * p.2) (p.2 * q.2) := rfl
  rw [hv]
  obtain ⟨a, b⟩ := p
  obtain ⟨c, d⟩ := q
  simp only at h1 h2 h3 h4 ⊢
  have w1 : IntKind.i64.wrap ((a : Int) * (d : Int)) = ((a * d : Nat) : Int) := by rw [← Int.natCast_mul]; exact IntWalk.i64_in _ (by omega)
  have w2 : IntKind.i64.wrap ((c : Int) * (b : Int)) = ((c * b : Nat) : Int) := by rw [← Int.natCast_mul]; exact IntWalk.i64_in _ (by omega)
  have w3 : IntKind.i64.wrap ((b : Int) * (d : Int)) = ((b * d : Nat) : Int) := by rw [← Int.natCast_mul]; exact IntWalk.i64_in _ (by omega)
  obtain ⟨x, hx⟩ : ∃ x, x = a * d := ⟨_, rfl⟩
  obtain ⟨y, hy⟩ : ∃ y, y = c * b := ⟨_, rfl⟩
  obtain ⟨z, hz⟩ : ∃ z, z = b * d := ⟨_, rfl⟩
  rw [← hx] at w1 h1 ⊢
  rw [← hy] at w2 h2 ⊢
  rw [← hz] at w3 h3 h4 ⊢
  have w4 : IntKind.i64.wrap ((x : Int) + (y : Int)) = ((x + y : Nat) : Int) := by rw [IntWalk.i64_in _ (by omega)]; omega
  obtain ⟨s, hs⟩ : ∃ s, s = x + y := ⟨_, rfl⟩
  have hsl : s ≤ 2000000000000000 := by omega
  rw [← hs] at w4 ⊢
  clear hx hy hz hs h hv
  go_enter Try.func91, Try.ntmps91
  go_wp2_with fail
  refine (ratioOf_any s z _ (by omega) (by omega) h3).mono ?_
  rintro e w6 ⟨rfl, hB⟩
  have kb : w6.heap[w.heap.size + 2]? = some (.cells #[.int .i64 0, .int .i64 0] 61 (0, 0)) := (hB.block _ (by simp)).trans (heap_alloc_at _ _ _ (by simp))
  have q := fun i => cell_of_row w6 (w.heap.size + 2) i _ _ _ kb
  have f0 := fun i => frozen_row (i := i) kb
  have hb : Below w.heap.size w w6 := (below3 _ _ _ _).trans (hB.mono (by simp; omega))
  clear kb
  go_wp2
  exact bodyPost_ret (v := .agg #[.int .i64 ((redF s z).1 : Nat), .int .i64 ((redF s z).2 : Nat)]) (by simp [results, Try.results91, go_sem, q]) rfl ⟨rfl, (hb.setCell (by simp; omega) _).setCell (by simp; omega) _⟩

/-- A row of fractions as jumps. -/
def frJ (l : List Fr) : List (Int × Int) := l.map fun p => ((p.1 : Int), (p.2 : Int))
theorem frJ_len (l : List Fr) : (frJ l).length = l.length := by simp [frJ]
theorem frJ_at (l : List Fr) {k : Nat} (hk : k < (frJ l).length) : (frJ l)[k] = (((l[k]'(by rw [frJ_len] at hk; exact hk)).1 : Int), ((l[k]'(by rw [frJ_len] at hk; exact hk)).2 : Int)) := by simp [frJ]
theorem heap2 (w : World) (g : Nat) (a b a' b' : Value) (t : TypeId) (h : w.heap[g]? = some (.cells #[a, b] t (0, 0))) : ((w.setCell ⟨g, 0, none⟩ a').setCell ⟨g, 1, none⟩ b').heap[g]? = some (.cells #[a', b'] t (0, 0)) := by
  have h1 := heap_set _ g 1 _ t b' (heap_set w g 0 _ t a' h)
  exact h1

set_option maxRecDepth 100000 in
set_option maxHeartbeats 1000000 in
theorem sumFr_any (A : Option Addr) (c : Nat) (p : Fr) (l : List Fr) (w : World) (hr : RJ w w.heap.size A (frJ l)) (hok : okSum p l = true) :
    Calls Try.prog 90 #[.agg #[.int .i64 (p.1 : Nat), .int .i64 (p.2 : Nat)], .slice A l.length c, .func (.func 91) #[] #[]] w (FrBack w (sumF p l)) := by
  have hl := hr.1
  rw [frJ_len] at hl
  have hat := okSum_at p l hok
  have HAT := Lib.hid hat
  have hend : sumF p l = atF p l l.length := by unfold atF; rw [List.take_length]
  rw [hend]
  clear hat hend hok
  go_enter Try.func90, Try.ntmps90
  go_wp2_with fail
  go_loopw [9, 13] (fun _ i wr => ∃ k : Nat, k ≤ l.length ∧ i = .int .i64 (k : Int) ∧ Below w.heap.size w wr ∧ wr.heap[w.heap.size + 1]? = some (.cells #[.int .i64 0, .int .i64 0] 61 (0, 0)) ∧ wr.heap[w.heap.size + 1 + 1]? = some (.cells #[.int .i64 ((atF p l k).1 : Nat), .int .i64 ((atF p l k).2 : Nat)] 61 (0, 0))) (fun _ i _ => l.length - (intOf i).toNat)
  case atStart => exact ⟨0, Nat.zero_le _, rfl, below3 _ _ _ _, (Below.heap_alloc _ _ _ (by simp)).trans (heap_alloc_at _ _ _ (by simp)), heap_alloc_at _ _ _ (by simp)⟩
  case round =>
    obtain ⟨k, hk, rfl, hB, k1, k2⟩ := hrel
    have hsz := heap_lt k2
    have q2 := fun i => cell_of_row wr (w.heap.size + 1 + 1) i _ _ _ k2
    by_cases hlt : k < l.length
    · obtain ⟨b, off, rfl, hbw, c1, c2⟩ := hr.at_ hB (show k < (frJ l).length by rw [frJ_len]; exact hlt)
      rw [frJ_at] at c1 c2
      have hok := HAT.out k hlt
      have hsucc := atF_succ p l hlt
      obtain ⟨a, ha⟩ : ∃ a, a = atF p l k := ⟨_, rfl⟩
      obtain ⟨q, hq⟩ : ∃ q, q = l[k] := ⟨_, rfl⟩
      rw [← ha, ← hq] at hok hsucc
      simp only [← hq] at c1 c2
      rw [← ha] at k2
      simp only [← ha] at q2
      have HSU := Lib.hid hsucc
      have hbl : b < wr.heap.size := by have := hB.size; omega
      clear ha hq hsucc
      go_wp2_with fail
      refine (plus_any a q _ hok).mono ?_
      rintro e w5 ⟨rfl, hx5⟩
      rw [← HSU.out]
      have hB5 := (hB.alloc hB.size (.cells #[.int .i64 (q.1 : Nat), .int .i64 (q.2 : Nat)] 61)).trans (hx5.mono (by simp; omega))
      have k15 := (hx5.block (w.heap.size + 1) (by simp; omega)).trans ((Below.heap_alloc _ _ _ (heap_lt k1)).trans k1)
      have k25 := (hx5.block (w.heap.size + 1 + 1) (by simp; omega)).trans ((Below.heap_alloc _ _ _ (heap_lt k2)).trans k2)
      have q5 := fun i => cell_of_row w5 (w.heap.size + 1 + 1) i _ _ _ k25
      have f5 := fun i => frozen_row (i := i) k25
      have ne : w.heap.size + 1 ≠ w.heap.size + 1 + 1 := by omega
      clear c1 c2 q2 k1 k2 hB hx5
      go_wp2_with fail
      go_roundw
      case rel => exact ⟨k + 1, by omega, by go_num, (hB5.setCell (by simp; omega) _).setCell (by simp; omega) _, (Below.heap_setCell _ _ _ _ ne).trans ((Below.heap_setCell _ _ _ _ ne).trans k15), heap2 _ _ _ _ _ _ _ k25⟩
      case measure => simp [intOf]; omega
    · obtain rfl : k = l.length := by omega
      have f1 := fun i => frozen_row (i := i) k1
      have q1 := fun i => cell_of_row wr (w.heap.size + 1) i _ _ _ k1
      go_wp2
      exact bodyPost_ret (v := .agg #[.int .i64 ((atF p l l.length).1 : Nat), .int .i64 ((atF p l l.length).2 : Nat)]) (by simp [results, Try.results90, go_sem, q1]) rfl ⟨rfl, (hB.setCell (by simp) _).setCell (by simp) _⟩
end Go.Proofs.Ytblpfjjnlfjloaa

/-
  Pairs: the model's sum of two fractions.
-/
import Derived.Test.YtblpfjjnlfjloaaC5v
namespace Go.Proofs.Ytblpfjjnlfjloaa
open Go.RowKit

set_option maxRecDepth 100000 in
set_option maxHeartbeats 2000000 in
theorem oiAdd_any (p q : Fr) (w : World) (h : okAddS p q = true) :
    Calls Try.prog 65 #[.agg #[.int .i64 (p.1 : Nat), .int .i64 (p.2 : Nat)], .agg #[.int .i64 (q.1 : Nat), .int .i64 (q.2 : Nat)]] w (FrBack w (addS p q)) := by
  obtain ⟨hb1, hd1, hb, hd, hl1, hl, hx, hy⟩ := okAddS_iff.1 h
  have hv : addS p q = redF (p.1 * (lcmS p.2 q.2 / p.2) + q.1 * (lcmS p.2 q.2 / q.2)) (lcmS p.2 q.2) := rfl
  rw [hv]
  obtain ⟨a, b⟩ := p
  obtain ⟨c, d⟩ := q
  simp only at hb1 hd1 hb hd hl1 hl hx hy ⊢
  have hg := Nat.gcd_pos_of_pos_right b (show 0 < d by omega)
  have hqle : b / Nat.gcd b d ≤ b := Nat.div_le_self _ _
  -- the numbers met
  obtain ⟨G, hG⟩ : ∃ G, G = Nat.gcd b d := ⟨_, rfl⟩
  obtain ⟨L, hL⟩ : ∃ L, L = lcmS b d := ⟨_, rfl⟩
  have hLe : L = b / G * d := by rw [hL, hG]; rfl
  obtain ⟨bg, hbg⟩ : ∃ bg, bg = b / G := ⟨_, rfl⟩
  obtain ⟨lb, hlb⟩ : ∃ lb, lb = L / b := ⟨_, rfl⟩
  obtain ⟨ld, hld⟩ : ∃ ld, ld = L / d := ⟨_, rfl⟩
  have hlbl : lb ≤ L := by rw [hlb]; exact Nat.div_le_self _ _
  have hldl : ld ≤ L := by rw [hld]; exact Nat.div_le_self _ _
  rw [← hG] at hg hqle
  rw [← hL] at hl1 hl hx hy ⊢
  rw [← hlb] at hx ⊢
  rw [← hld] at hy ⊢
  rw [← hbg] at hqle
  have t1 : ((b : Int).tdiv (G : Int)) = (bg : Int) := by rw [hbg, Int.ofNat_tdiv]
  have t2 : ((L : Int).tdiv (b : Int)) = (lb : Int) := by rw [hlb, Int.ofNat_tdiv]
  have t3 : ((L : Int).tdiv (d : Int)) = (ld : Int) := by rw [hld, Int.ofNat_tdiv]
  have w1 : IntKind.i64.wrap (bg : Int) = (bg : Int) := IntWalk.i64_in _ (by omega)
  have w2 : IntKind.i64.wrap ((bg : Int) * (d : Int)) = (L : Int) := by rw [← Int.natCast_mul, hbg, ← hLe]; exact IntWalk.i64_in _ (by omega)
  have w3 : IntKind.i64.wrap (lb : Int) = (lb : Int) := IntWalk.i64_in _ (by omega)
  have w4 : IntKind.i64.wrap (ld : Int) = (ld : Int) := IntWalk.i64_in _ (by omega)
  have w5 : IntKind.i64.wrap ((a : Int) * (lb : Int)) = ((a * lb : Nat) : Int) := by rw [← Int.natCast_mul]; exact IntWalk.i64_in _ (by omega)
  have w6 : IntKind.i64.wrap ((c : Int) * (ld : Int)) = ((c * ld : Nat) : Int) := by rw [← Int.natCast_mul]; exact IntWalk.i64_in _ (by omega)
  obtain ⟨x, hx'⟩ : ∃ x, x = a * lb := ⟨_, rfl⟩
  obtain ⟨y, hy'⟩ : ∃ y, y = c * ld := ⟨_, rfl⟩
  rw [← hx'] at w5 hx ⊢
  rw [← hy'] at w6 hy ⊢
  have w7 : IntKind.i64.wrap ((x : Int) + (y : Int)) = ((x + y : Nat) : Int) := by rw [IntWalk.i64_in _ (by omega)]; omega
  obtain ⟨s, hs⟩ : ∃ s, s = x + y := ⟨_, rfl⟩
  have hsl : s ≤ 2000000000000000 := by omega
  rw [← hs] at w7 ⊢
  have hcall := fun w => meLow_quiet s L w (by omega) (by omega) hl1
  rw [lowA_nat (by omega), lowB_nat (by omega)] at hcall
  obtain ⟨u, hu⟩ : ∃ u, u = (redF s L).1 := ⟨_, rfl⟩
  obtain ⟨v, hv2⟩ : ∃ v, v = (redF s L).2 := ⟨_, rfl⟩
  have hR : redF s L = (u, v) := by rw [hu, hv2]
  rw [hR]
  simp only [← hu, ← hv2] at hcall
  have HC := Lib.hid hcall
  have hG0 : (G : Int) ≠ 0 := by omega
  have hb0 : (b : Int) ≠ 0 := by omega
  have hd0 : (d : Int) ≠ 0 := by omega
  have HG := Lib.hid hG; have T1 := Lib.hid t1; have T2 := Lib.hid t2; have T3 := Lib.hid t3; have W1 := Lib.hid w1; have W2 := Lib.hid w2; have W3 := Lib.hid w3; have W4 := Lib.hid w4; have W5 := Lib.hid w5; have W6 := Lib.hid w6; have W7 := Lib.hid w7
  clear hG hL hLe hbg hlb hld hx' hy' hs hu hv2 hR hcall h hv hg hqle hlbl hldl t1 t2 t3 w1 w2 w3 w4 w5 w6 w7
  -- the three blocks
  obtain ⟨W0, hW0⟩ : ∃ W0, W0 = ((w.alloc (.cells #[.int .i64 (a : Int), .int .i64 (b : Int)] 78)).alloc (.cells #[.int .i64 (c : Int), .int .i64 (d : Int)] 78)).alloc (.cells #[.int .i64 0, .int .i64 0] 78) := ⟨_, rfl⟩
  have k0 : W0.heap[w.heap.size]? = some (.cells #[.int .i64 (a : Int), .int .i64 (b : Int)] 78 (0, 0)) := by rw [hW0]; exact (Below.heap_alloc _ _ _ (by simp; omega)).trans ((Below.heap_alloc _ _ _ (by simp)).trans (heap_alloc_at _ _ _ rfl))
  have k1 : W0.heap[w.heap.size + 1]? = some (.cells #[.int .i64 (c : Int), .int .i64 (d : Int)] 78 (0, 0)) := by rw [hW0]; exact (Below.heap_alloc _ _ _ (by simp)).trans (heap_alloc_at _ _ _ (by simp))
  have k2 : W0.heap[w.heap.size + 1 + 1]? = some (.cells #[.int .i64 0, .int .i64 0] 78 (0, 0)) := by rw [hW0]; exact heap_alloc_at _ _ _ (by simp)
  have hB : Below w.heap.size w W0 := by rw [hW0]; exact below3 _ _ _ _
  have HW0 := Lib.hid hW0
  clear hW0
  have q0 := fun i => cell_of_row W0 w.heap.size i _ _ _ k0
  have q1 := fun i => cell_of_row W0 (w.heap.size + 1) i _ _ _ k1
  go_enter Try.func65, Try.ntmps65
  go_wp2_with fail
  rw [← HW0.out]
  go_quiet (fail)
  go_wp2_with fail
  obtain ⟨W1', hW1⟩ : ∃ W1', W1' = W0.drewN nq := ⟨_, rfl⟩
  have hBa : Below w.heap.size w W1' := by rw [hW1]; exact drewB hB nq
  have ka0 : W1'.heap[w.heap.size]? = some (.cells #[.int .i64 (a : Int), .int .i64 (b : Int)] 78 (0, 0)) := by rw [hW1]; exact k0
  have ka1 : W1'.heap[w.heap.size + 1]? = some (.cells #[.int .i64 (c : Int), .int .i64 (d : Int)] 78 (0, 0)) := by rw [hW1]; exact k1
  have ka2 : W1'.heap[w.heap.size + 1 + 1]? = some (.cells #[.int .i64 0, .int .i64 0] 78 (0, 0)) := by rw [hW1]; exact k2
  rw [← hW1]
  clear hW1 hB k0 k1 k2 q0 q1 HW0
  go_loopw [5, 6] (fun X Y wr => ∃ m n : Nat, X = .int .i64 m ∧ Y = .int .i64 n ∧ Nat.gcd m n = G ∧ m ≤ 1000000000000000 ∧ n ≤ 1000000000000000 ∧ Below w.heap.size w wr ∧ wr.heap[w.heap.size]? = some (.cells #[.int .i64 (a : Int), .int .i64 (b : Int)] 78 (0, 0)) ∧ wr.heap[w.heap.size + 1]? = some (.cells #[.int .i64 (c : Int), .int .i64 (d : Int)] 78 (0, 0)) ∧ wr.heap[w.heap.size + 1 + 1]? = some (.cells #[.int .i64 0, .int .i64 0] 78 (0, 0))) (fun _ Y _ => (intOf Y).toNat)
  case atStart => exact ⟨b, d, rfl, rfl, HG.out.symm, hb, hd, hBa, ka0, ka1, ka2⟩
  case round =>
    clear hBa ka0 ka1 ka2
    obtain ⟨m, n, rfl, rfl, hgm, hm, hn, hB, k0, k1, k2⟩ := hrel
    have HGM := Lib.hid hgm; clear hgm
    by_cases h : 0 < n
    · have h1 : (0 : Int) < (n : Int) := by omega
      have h2 : (n : Int) ≠ 0 := by omega
      have hml := Nat.mod_lt m h
      have hmc : (m : Int) % (n : Int) = ((m % n : Nat) : Int) := rfl
      have HM := Lib.hid hmc; clear hmc
      go_wp2
      go_region
      all_goals
        go_wp2
        go_roundw
        case rel => exact ⟨n, m % n, rfl, by rw [HM.out], by rw [gcd_step]; exact HGM.out, hn, by omega, hB.drew, k0, k1, k2⟩
        case measure => rw [HM.out]; simp [intOf]; omega
    · obtain rfl : n = 0 := by omega
      have hmg : m = G := by rw [← HGM.out, Nat.gcd_zero_right]
      subst hmg
      have q0 := fun i => cell_of_row wr w.heap.size i _ _ _ k0
      have q1 := fun i => cell_of_row wr (w.heap.size + 1) i _ _ _ k1
      have t1 := T1.out; have w1 := W1.out; have w2 := W2.out
      go_wp2_with fail
      go_quiet (fail)
      go_wp2_with fail
      clear t1 w1 w2
      have t2 := T2.out; have t3 := T3.out; have w3 := W3.out; have w4 := W4.out; have w5 := W5.out; have w6 := W6.out; have w7 := W7.out
      obtain ⟨W2', hW2⟩ : ∃ W2', W2' = wr.drewN nq := ⟨_, rfl⟩
      have hB2 : Below w.heap.size w W2' := by rw [hW2]; exact drewB hB nq
      have kb0 : W2'.heap[w.heap.size]? = some (.cells #[.int .i64 (a : Int), .int .i64 (b : Int)] 78 (0, 0)) := by rw [hW2]; exact k0
      have kb1 : W2'.heap[w.heap.size + 1]? = some (.cells #[.int .i64 (c : Int), .int .i64 (d : Int)] 78 (0, 0)) := by rw [hW2]; exact k1
      have kb2 : W2'.heap[w.heap.size + 1 + 1]? = some (.cells #[.int .i64 0, .int .i64 0] 78 (0, 0)) := by rw [hW2]; exact k2
      rw [← hW2]
      clear hW2 hB k0 k1 k2 q0 q1
      have q0 := fun i => cell_of_row W2' w.heap.size i _ _ _ kb0
      have q1 := fun i => cell_of_row W2' (w.heap.size + 1) i _ _ _ kb1
      go_quiet (first | (go_at_call 84; with_reducible refine Calls.quiet_of (HC.out _)))
      clear t2 t3 w3 w4 w5 w6 w7
      obtain ⟨W3', hW3⟩ : ∃ W3', W3' = W2'.drewN nq := ⟨_, rfl⟩
      have hB3 : Below w.heap.size w W3' := by rw [hW3]; exact drewB hB2 nq
      have kc2 : W3'.heap[w.heap.size + 1 + 1]? = some (.cells #[.int .i64 0, .int .i64 0] 78 (0, 0)) := by rw [hW3]; exact kb2
      rw [← hW3]
      clear hW3 hB2 kb0 kb1 kb2 q0 q1
      have q2 := fun i => cell_of_row W3' (w.heap.size + 1 + 1) i _ _ _ kc2
      have f2 := fun i => frozen_row (i := i) kc2
      go_wp2
      exact bodyPost_ret (v := .agg #[.int .i64 (u : Nat), .int .i64 (v : Nat)]) (by simp [results, Try.results65, go_sem, q2]) rfl ⟨rfl, (hB3.setCell (by simp; omega) _).setCell (by simp; omega) _⟩
end Go.Proofs.Ytblpfjjnlfjloaa

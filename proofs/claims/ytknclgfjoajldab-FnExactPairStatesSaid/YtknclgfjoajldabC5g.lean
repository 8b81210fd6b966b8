/-
  Pairs: doneLists, fewestLists, PairFewest on both sides.
-/
import Derived.Test.YtknclgfjoajldabC5f
namespace Go.Proofs.Ytknclgfjoajldab
open Go.RowKit

theorem take_sum_le : ∀ (ns : List Nat) (k : Nat), (ns.take k).sum ≤ ns.sum
  | [], k => by simp
  | n :: ns, 0 => by simp
  | n :: ns, k + 1 => by simp only [List.take_succ_cons, List.sum_cons]; have := take_sum_le ns k; omega
theorem take_sum_succ (ns : List Nat) (k : Nat) (hk : k < ns.length) : (ns.take (k + 1)).sum = (ns.take k).sum + ns[k] := by
  rw [List.take_succ_eq_append_getElem hk, List.sum_append]; simp

theorem addClo_any (x y : Int) (w : World) (h : -1000000000000000 ≤ x + y) (h' : x + y ≤ 1000000000000000) :
    Calls Try.prog 62 #[.int .i64 x, .int .i64 y] w fun e w' => e = .returned (.int .i64 (x + y)) ∧ w = w' := by
  have w0 : IntKind.i64.wrap (x + y) = x + y := IntWalk.i64_in _ (by omega)
  go_enter Try.func62, Try.ntmps62
  go_wp2
  go_ret
  exact ⟨rfl, rfl⟩

set_option maxRecDepth 100000 in
theorem sumInt_any (A : Option Addr) (c : Nat) (ns : List Nat) (w : World) (hr : RI w w.heap.size A (ns.map (fun i : Nat => (i : Int)))) (hb : ns.sum ≤ 100000000000) :
    Calls Try.prog 61 #[.int .i64 0, .slice A ns.length c, .func (.func 62) #[] #[]] w fun e w' => e = .returned (.int .i64 (ns.sum : Nat)) ∧ Below w.heap.size w w' := by
  have hl := hr.1
  rw [List.length_map] at hl
  go_enter Try.func61, Try.ntmps61
  go_wp2_with fail
  go_loopw [7, 9, 13] (fun v _ i wr => ∃ k : Nat, k ≤ ns.length ∧ i = .int .i64 (k : Int) ∧ v = .int .i64 ((ns.take k).sum : Nat) ∧ Below w.heap.size w wr) (fun _ _ i _ => ns.length - (intOf i).toNat)
  case atStart => exact ⟨0, Nat.zero_le _, rfl, by simp, Below.refl _ _⟩
  case round =>
    obtain ⟨k, hk, rfl, rfl, hB⟩ := hrel
    by_cases hlt : k < ns.length
    · obtain ⟨b, off, rfl, hbw, c1⟩ := hr.at_ hB (show k < (ns.map (fun i : Nat => (i : Int))).length by simpa using hlt)
      rw [List.getElem_map] at c1
      have hs1 := take_sum_succ ns k hlt
      have hs2 := take_sum_le ns (k + 1)
      obtain ⟨a, ha⟩ : ∃ a, a = (ns.take k).sum := ⟨_, rfl⟩
      obtain ⟨z, hz⟩ : ∃ z, z = ns[k] := ⟨_, rfl⟩
      obtain ⟨a2, ha2⟩ : ∃ a2, a2 = (ns.take (k + 1)).sum := ⟨_, rfl⟩
      rw [← ha, ← hz, ← ha2] at hs1
      rw [← ha2] at hs2
      rw [← hz] at c1
      rw [← ha]
      have h0 : a ≤ 100000000000 ∧ z ≤ 100000000000 := by omega
      have HA := Lib.hid ha2; have HS := Lib.hid hs1
      clear ha hz ha2 hs1 hs2
      go_wp2_with fail
      refine (addClo_any _ _ _ (by omega) (by omega)).mono ?_
      rintro e w2 ⟨rfl, rfl⟩
      go_wp2_with fail
      go_roundw
      case rel => exact ⟨k + 1, by omega, by go_num, by rw [← HA.out, HS.out]; go_num, hB⟩
      case measure => simp [intOf]; omega
    · obtain rfl : k = ns.length := by omega
      rw [List.take_length]
      go_wp2
      go_ret
      exact ⟨rfl, hB⟩

/-- What doneLists adds up. -/
def sumsL (s f t : Nat) (S : Nat → Nat → Bool) (k : Nat) : List Nat := (List.range k).map fun i => doneN s f t (stepS s S (i + 1))
theorem sumsL_len (s f t : Nat) (S : Nat → Nat → Bool) (k : Nat) : (sumsL s f t S k).length = k := by simp [sumsL]
theorem sumsL_succ (s f t : Nat) (S : Nat → Nat → Bool) (k : Nat) : sumsL s f t S (k + 1) = sumsL s f t S k ++ [doneN s f t (stepS s S (k + 1))] := by simp [sumsL, List.range_succ]
theorem sumsL_sum (s f t : Nat) (S : Nat → Nat → Bool) : (sumsL s f t S f).sum = doneN s f (t + 1) S := rfl
theorem pow_small {f t : Nat} (hf : f ≤ 4) (ht : t ≤ 12) : f ^ t ≤ 16777216 := by
  calc f ^ t ≤ 4 ^ t := Nat.pow_le_pow_left hf t
    _ ≤ 4 ^ 12 := Nat.pow_le_pow_right (by decide) ht
    _ = 16777216 := by decide

set_option maxRecDepth 100000 in
set_option maxHeartbeats 2000000 in
theorem doneLists_any : ∀ (t : Nat) (g s f : Nat) (o : Int) (G : Nat → Int) (S : Nat → Nat → Bool) (w : World) (_ : CV w g s f o G) (_ : inS s S) (_ : s ≤ 6) (_ : f ≤ 4) (_ : t ≤ 12),
    Calls Try.prog 44 #[.pointer (some ⟨g, 0, none⟩), .agg (setC S), .int .i64 t] w fun e w' => e = .returned (.int .i64 (doneN s f t S : Nat)) ∧ Below w.heap.size w w'
  | 0, g, s, f, o, G, S, w, hC, hS, hs, hf, ht => by
    have hgl : g < w.heap.size := cell_lt hC.sq
    have hv : doneN s f 0 S = if S s s then 1 else 0 := rfl
    rw [hv, show ((0 : Nat) : Int) = 0 from rfl]
    have kS : SA (w.alloc (.cells (setC S) 69)) w.heap.size 69 S := heap_alloc_at _ _ _ rfl
    have c0 := hC.below (below1 w (.cells (setC S) 69)) hgl
    have c1 := c0.sq
    have c2 := kS.at_ (show s < 7 by omega) (show s < 7 by omega)
    have hsi : (s : Int) < 7 := by omega
    have hB := below1 w (.cells (setC S) 69)
    go_enter Try.func44, Try.ntmps44
    go_wp2_with fail
    obtain ⟨W, hW⟩ : ∃ W, W = w.alloc (.cells (setC S) 69) := ⟨_, rfl⟩
    rw [← hW] at c1 c2 hB ⊢
    clear hW kS c0
    go_quiet (fail)
    cases hb : S s s
    all_goals
      go_wp2
      all_goals
        first
          | (exfalso; simp_all; done)
          | (go_ret; exact ⟨rfl, drewB hB _⟩)
  | t + 1, g, s, f, o, G, S, w, hC, hS, hs, hf, ht => by
    have ih := doneLists_any t
    have hgl : g < w.heap.size := cell_lt hC.sq
    obtain ⟨i0, hi, hz0, hz1, hz2⟩ := info_parts infoInt1
    have hte : (((t + 1 : Nat) : Int) == 0) = false := beq_eq_false_iff_ne.2 (by omega)
    have htw : IntKind.i64.wrap (((t + 1 : Nat) : Int) - 1) = (t : Int) := by rw [IntWalk.i64_in _ (by omega)]; omega
    obtain ⟨T, hT⟩ : ∃ T, T = t + 1 := ⟨_, rfl⟩
    have hle := doneN_le (f := f) hs (t + 1) S hS
    have hpw := pow_small hf ht
    have HLE := Lib.hid (Nat.le_trans hle hpw)
    have HV := Lib.hid (sumsL_sum s f t S)
    have kS : SA (w.alloc (.cells (setC S) 69)) w.heap.size 69 S := heap_alloc_at _ _ _ rfl
    have hB := below1 w (.cells (setC S) 69)
    have ht' : t ≤ 12 := by omega
    rw [← HV.out]
    rw [← hT] at hte htw ⊢
    clear hle hpw hT
    go_enter Try.func44, Try.ntmps44
    go_wp2_with fail
    go_loopw [7, 8] (fun v i wr => ∃ k : Nat, k ≤ f ∧ i = .int .i64 ((k : Int) + 1) ∧ Below w.heap.size w wr ∧ SA wr w.heap.size 69 S ∧ wr.ownsRow (w.heap.size + 1) 3 1 v k ((sumsL s f t S k).map (fun i : Nat => Value.int .i64 i))) (fun _ i _ => f + 1 - (intOf i).toNat)
    case atStart => exact ⟨0, Nat.zero_le _, rfl, hB, kS, World.ownsRow_nil _ _ _ _⟩
    case round =>
      clear hB kS
      obtain ⟨k, hk, rfl, hB, kS, hown⟩ := hrel
      have cf := (hC.below hB hgl).fa
      have hsz := hB.size
      have hzs := kS.lt
      by_cases hlt : k < f
      · have h3 : (k : Int) + 1 ≤ (f : Int) := by omega
        have hfk : IntKind.i64.wrap ((k : Int) + 1) = (k : Int) + 1 := IntWalk.i64_in _ (by omega)
        obtain ⟨Av, cv, rfl⟩ := own_sliceS hown
        go_wp2_with (refine wpList_load_row rfl 69 (.tmp 4) rfl w.heap.size rfl _ _ _ _ kS Try.underlying69 rfl ?_ ?_; (rw [setC_size]; exact sizeSet))
        refine (setBehind_any g s (k + 1) f o G S _ (hC.below hB hgl) hS hs (by omega) (by omega)).mono ?_
        rintro e w2 ⟨rfl, hx2⟩
        have hB2 := hB.trans (hx2.mono hsz)
        have kS2 := kS.below hx2 hzs
        have own2 := own_below hown hx2
        clear cf hown kS
        go_wp2_with fail
        refine (ih g s f o G (stepS s S (k + 1)) _ (hC.below hB2 hgl) (stepS_in hS _) hs hf ht').mono ?_
        rintro e w3 ⟨rfl, hx3⟩
        have hB3 := hB2.trans (hx3.mono hB2.size)
        have kS3 := kS2.below hx3 kS2.lt
        have own3 := own_below own2 hx3
        have hf3 := own_from own3
        have hs3 := kS3.lt
        obtain ⟨N, hN⟩ : ∃ N, N = doneN s f t (stepS s S (k + 1)) := ⟨_, rfl⟩
        rw [← hN]
        have HN := Lib.hid hN
        clear hN own2 kS2
        go_wp2_with (at_builtin; go_loud (refine wpList_append_own _ rfl _ _ 23 rfl (w.heap.size + 1) 3 i0 (.int .i64 0) 1 8 Try.underlying23 hi hz0 hz1 hz2 rfl (by decide) _ _ _ rfl (own3.alloc _) ⟨w3.heap.size, 0, none⟩ 1 1 [.int .i64 (N : Int)] rfl rfl (cell_new1 _ _ _) (one_int _) (by unfold maxLen; omega) (by omega) (by simp; omega) ?_; intro v1 w4 hown4 hg4 _))
        go_roundw
        case rel =>
          refine ⟨k + 1, by omega, by go_num, (hB3.alloc hB3.size _).grown hg4 (by simp; omega) (fun j h => by have := hf3 j h; omega), (kS3.alloc _).grown hg4 (fun e => by have := hf3 _ e.symm; omega), ?_⟩
          rw [sumsL_succ, List.map_append, ← HN.out]
          exact hown4
        case measure => simp [intOf]; omega
      · have h3 : ¬ (k : Int) + 1 ≤ (f : Int) := by omega
        obtain rfl : k = f := by omega
        have hown' := hown
        rw [show (sumsL s k t S k).map (fun i : Nat => Value.int .i64 i) = ((sumsL s k t S k).map (fun i : Nat => (i : Int))).map (Value.int .i64) by rw [List.map_map]; rfl] at hown'
        obtain ⟨A', c', rfl, ho⟩ := own_oi hown' (by rw [List.length_map, sumsL_len])
        have hri := ho.ri (by rw [List.length_map, sumsL_len]; omega)
        rw [List.length_map]
        clear hown hown'
        go_wp2_with fail
        refine (sumInt_any _ _ _ _ hri (by rw [HV.out]; have := HLE.out; omega)).mono ?_
        rintro e w5 ⟨rfl, hx5⟩
        go_wp2
        go_ret
        exact ⟨rfl, hB.trans (hx5.mono hsz)⟩
end Go.Proofs.Ytknclgfjoajldab

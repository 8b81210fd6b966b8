/- Several texts, one behind the other: C5zf. -/
import Derived.WalkLawsBesides
import Derived.Laws.FloatArith
import Derived.BigQuiet
import Derived.Deep.QuietTactic
import Derived.Deep.RegionHeld3
import Derived.Test.YtmiefdjbhcpnbaaZPPae
import Derived.Test.YtmiefdjbhcpnbaaZPPap

namespace Go.Proofs.Ytmiefdjbhcpnbaa
open Go.RowKit

def nearF (n : Nat) : Nat := floatOfInt FloatKind.f64 (n : Int)
def u64M : Nat := 18446744073709551616
def guessF (p : Fr) : Option Nat := FloatKind.f64.format.div (nearF p.1) (nearF p.2)
def absB (b : Nat) : Nat := b % 9223372036854775808
def farF (g o : Nat) : Option Bool := do
  let d ← FloatKind.f64.format.sub g o
  let s ← FloatKind.f64.format.add g o
  let m ← FloatKind.f64.format.mul 4517329193108106637 s
  pure (FloatKind.f64.format.order (absB d) m == some .gt)

set_option maxRecDepth 100000 in
theorem guess_any (p : Fr) (g : Nat) (w : World) (hg : guessF p = some g) :
    Calls Try.prog 68 #[.agg #[.int .i64 (p.1 : Nat), .int .i64 (p.2 : Nat)]] w fun e w' => e = .returned (.float .f64 g) ∧ Below w.heap.size w w' := by
  have hq := fun w => run_float_arith (P := Try.prog) w .quo 118 .f64 (nearF p.1) (nearF p.2) g hg
  unfold nearF at hq
  clear hg
  go_enter Try.func68, Try.ntmps68
  go_wp2
  go_ret
  exact ⟨rfl, below1 _ _⟩
theorem run_bits (b : Nat) (w : World) : (callFunc 74 #[.float .f64 b]).run Try.prog w = .ok (.value (.int .u64 b)) w := by kernel_rfl
theorem run_frombits (b : Nat) (w : World) : (callFunc 73 #[.int .u64 b]).run Try.prog w = .ok (.value (.float .f64 b)) w := by kernel_rfl
theorem absB_bv (b : Nat) (hb : b < u64M) : ((BitVec.ofInt 64 (b : Int)) &&& ~~~(BitVec.ofInt 64 9223372036854775808)).toNat = absB b := by
  have e : ~~~(BitVec.ofInt 64 9223372036854775808) = BitVec.ofNat 64 (2 ^ 63 - 1) := by decide
  have e2 : (BitVec.ofInt 64 (b : Int)).toNat = b := by unfold u64M at hb; simp; omega
  have e3 : (BitVec.ofNat 64 (2 ^ 63 - 1)).toNat = 2 ^ 63 - 1 := by decide
  rw [e, BitVec.toNat_and, e2, e3, Nat.and_two_pow_sub_one_eq_mod]
  rfl
theorem absB_lt (b : Nat) : absB b < u64M := by unfold absB u64M; omega
theorem wrap_u64 (n : Nat) (h : n < u64M) : IntKind.u64.wrap (n : Int) = n := by
  unfold IntKind.wrap
  rw [if_neg (by simp [IntKind.signed])]
  show (n : Int) % (18446744073709551616 : Int) = n
  unfold u64M at h
  omega
theorem bits_abs (b : Nat) (hb : b < u64M) : bits .andNot .u64 (b : Int) 9223372036854775808 = ((absB b : Nat) : Int) := by
  show IntKind.u64.wrap (((BitVec.ofInt 64 (b : Int)) &&& ~~~(BitVec.ofInt 64 9223372036854775808)).toNat : Int) = _
  rw [absB_bv b hb]
  exact wrap_u64 _ (absB_lt b)
set_option maxRecDepth 100000 in
theorem abs_any (b : Nat) (w : World) (hb : b < u64M) :
    Calls Try.prog 69 #[.float .f64 b] w fun e w' => e = .returned (.float .f64 (absB b)) ∧ w = w' := by
  have h1 := fun w => run_bits b w
  have h2 := fun w => run_frombits (absB b) w
  have h3 := bits_abs b hb
  clear hb
  go_enter Try.func69, Try.ntmps69
  go_wp2_with fail
  go_ret
  exact ⟨rfl, rfl⟩

theorem isNaN_any (g : Nat) (w : World) (h : (FloatKind.f64.format.order g g != some .eq) = false) :
    Calls Try.prog 75 #[.float .f64 g] w fun e w' => e = .returned (.bool false) ∧ w = w' := by
  go_enter Try.func75, Try.ntmps75
  go_wp2
  go_ret
  exact ⟨rfl, rfl⟩
/-- What cmp.Compare tells of two floats that are numbers. -/
def ordC (g o : Nat) : Int := if FloatKind.f64.format.order g o == some .lt then -1 else if FloatKind.f64.format.order g o == some .gt then 1 else 0
theorem cmpFloat_any (g o : Nat) (w : World) (hg : (FloatKind.f64.format.order g g != some .eq) = false) (ho : (FloatKind.f64.format.order o o != some .eq) = false) :
    Calls Try.prog 70 #[.float .f64 g, .float .f64 o] w fun e w' => e = .returned (.int .i64 (ordC g o)) ∧ w = w' := by
  have hc : ordC g o = if FloatKind.f64.format.order g o == some .lt then -1 else if FloatKind.f64.format.order g o == some .gt then 1 else 0 := rfl
  have HC := Lib.hid hc
  clear hc
  have H1 := Lib.hid (fun w => isNaN_any g w hg)
  have H2 := Lib.hid (fun w => isNaN_any o w ho)
  clear hg ho
  cases h1 : (FloatKind.f64.format.order g o == some .lt) <;> cases h2 : (FloatKind.f64.format.order g o == some .gt)
  all_goals
    go_enter Try.func70, Try.ntmps70
    go_wp2_with fail
    refine (H1.out _).mono ?_
    rintro e w1 ⟨rfl, rfl⟩
    go_wp2_with fail
    refine (H2.out _).mono ?_
    rintro e w1 ⟨rfl, rfl⟩
    go_wp2
    go_ret
    exact ⟨ret_int (by rw [HC.out, h1, h2]; rfl), rfl⟩
def intC (a b : Int) : Int := if a < b then -1 else if b < a then 1 else 0
theorem isNaNInt_any (g : Int) (w : World) :
    Calls Try.prog 76 #[.int .i64 g] w fun e w' => e = .returned (.bool false) ∧ w = w' := by
  go_enter Try.func76, Try.ntmps76
  go_wp2
  go_ret
  exact ⟨ret_bool (by simp), rfl⟩
theorem cmpInt_any (a b : Int) (w : World) :
    Calls Try.prog 71 #[.int .i64 a, .int .i64 b] w fun e w' => e = .returned (.int .i64 (intC a b)) ∧ w = w' := by
  have hc : intC a b = if a < b then -1 else if b < a then 1 else 0 := rfl
  have HC := Lib.hid hc
  clear hc
  by_cases h1 : a < b
  · go_enter Try.func71, Try.ntmps71
    go_wp2_with (go_at_call 76; refine (isNaNInt_any _ _).mono ?_; rintro e w1 ⟨rfl, rfl⟩)
    go_ret
    exact ⟨ret_int (by rw [HC.out, if_pos h1]), rfl⟩
  · by_cases h2 : b < a
    · go_enter Try.func71, Try.ntmps71
      go_wp2_with (go_at_call 76; refine (isNaNInt_any _ _).mono ?_; rintro e w1 ⟨rfl, rfl⟩)
      go_ret
      exact ⟨ret_int (by rw [HC.out, if_neg (by omega), if_pos (by omega)]), rfl⟩
    · go_enter Try.func71, Try.ntmps71
      go_wp2_with (go_at_call 76; refine (isNaNInt_any _ _).mono ?_; rintro e w1 ⟨rfl, rfl⟩)
      go_ret
      exact ⟨ret_int (by rw [HC.out, if_neg (by omega), if_neg (by omega)]), rfl⟩

/-- What compare tells of two fractions, where all floats on the way are numbers. -/
def cmpP (p q : Fr) : Option Int :=
  match guessF p, guessF q with
  | some g, some o => match FloatKind.f64.format.sub g o, FloatKind.f64.format.add g o with
    | some d, some s => match FloatKind.f64.format.mul 4517329193108106637 s with
      | some m => if (FloatKind.f64.format.order g g != some .eq) || (FloatKind.f64.format.order o o != some .eq) || decide (u64M ≤ d) then none
          else if FloatKind.f64.format.order (absB d) m == some .gt then some (ordC g o) else some (intC (p.1 * q.2 : Nat) (q.1 * p.2 : Nat))
      | none => none
    | _, _ => none
  | _, _ => none
theorem cmpP_some {p q : Fr} {c : Int} (h : cmpP p q = some c) : ∃ g o d s m, guessF p = some g ∧ guessF q = some o ∧ FloatKind.f64.format.sub g o = some d ∧ FloatKind.f64.format.add g o = some s ∧ FloatKind.f64.format.mul 4517329193108106637 s = some m ∧
    (FloatKind.f64.format.order g g != some .eq) = false ∧ (FloatKind.f64.format.order o o != some .eq) = false ∧ d < u64M ∧
    (((FloatKind.f64.format.order (absB d) m == some .gt) = true ∧ c = ordC g o) ∨ ((FloatKind.f64.format.order (absB d) m == some .gt) = false ∧ c = intC (p.1 * q.2 : Nat) (q.1 * p.2 : Nat))) := by
  unfold cmpP at h
  cases hg : guessF p with
  | none => simp [hg] at h
  | some g =>
    cases ho : guessF q with
    | none => simp [hg, ho] at h
    | some o =>
      simp only [hg, ho] at h
      cases hd : FloatKind.f64.format.sub g o with
      | none => simp [hd] at h
      | some d =>
        cases hs : FloatKind.f64.format.add g o with
        | none => simp [hd, hs] at h
        | some s =>
          simp only [hd, hs] at h
          cases hm : FloatKind.f64.format.mul 4517329193108106637 s with
          | none => simp [hm] at h
          | some m =>
            simp only [hm] at h
            cases h1 : (FloatKind.f64.format.order g g != some .eq) with
            | true => simp [h1] at h
            | false =>
              cases h2 : (FloatKind.f64.format.order o o != some .eq) with
              | true => simp [h2] at h
              | false =>
                by_cases h3 : u64M ≤ d
                · simp [h3] at h
                · rw [h1, h2, decide_eq_false h3] at h
                  simp only [Bool.or_self, Bool.false_eq_true, if_false] at h
                  refine ⟨g, o, d, s, m, rfl, rfl, hd, hs, hm, h1, h2, by omega, ?_⟩
                  cases h4 : (FloatKind.f64.format.order (absB d) m == some .gt) with
                  | true => rw [h4] at h; simp only [if_true] at h; injection h with h; exact .inl ⟨rfl, h.symm⟩
                  | false => rw [h4] at h; simp only [Bool.false_eq_true, if_false] at h; injection h with h; exact .inr ⟨rfl, h.symm⟩

theorem mul_in7 (a b : Nat) (ha : a ≤ 10000000) (hb : b ≤ 10000000) : IntKind.i64.wrap ((a : Int) * (b : Int)) = ((a * b : Nat) : Int) := by
  have h : a * b ≤ 10000000 * 10000000 := Nat.mul_le_mul ha hb
  rw [← Int.natCast_mul, IntWalk.i64_in _ (by omega)]
set_option maxRecDepth 100000 in
set_option maxHeartbeats 1000000 in
theorem compare_any (p q : Fr) (c : Int) (w : World) (hp1 : p.1 ≤ 10000000) (hp2 : p.2 ≤ 10000000) (hq1 : q.1 ≤ 10000000) (hq2 : q.2 ≤ 10000000) (h : cmpP p q = some c) :
    Calls Try.prog 64 #[.agg #[.int .i64 (p.1 : Nat), .int .i64 (p.2 : Nat)], .agg #[.int .i64 (q.1 : Nat), .int .i64 (q.2 : Nat)]] w fun e w' => e = .returned (.int .i64 c) ∧ Below w.heap.size w w' := by
  obtain ⟨g, o, d, s, m, hg, ho, hd, hs, hm, hng, hno, hdl, hcase⟩ := cmpP_some h
  have HG := Lib.hid (fun w => guess_any p g w hg)
  have HO := Lib.hid (fun w => guess_any q o w ho)
  have rd := fun w => run_float_arith (P := Try.prog) w .sub 118 .f64 g o d hd
  have rs := fun w => run_float_arith (P := Try.prog) w .add 118 .f64 g o s hs
  have rm := fun w => run_float_arith (P := Try.prog) w .mul 118 .f64 4517329193108106637 s m hm
  have HAB := Lib.hid (fun w => abs_any d w hdl)
  have HCF := Lib.hid (fun w => cmpFloat_any g o w hng hno)
  have HRD := Lib.hid rd; have HRS := Lib.hid rs; have HRM := Lib.hid rm
  obtain ⟨W1, hW1⟩ : ∃ W1, W1 = (w.alloc (.cells #[.int .i64 (p.1 : Nat), .int .i64 (p.2 : Nat)] 78)).alloc (.cells #[.int .i64 (q.1 : Nat), .int .i64 (q.2 : Nat)] 78) := ⟨_, rfl⟩
  have hB1 : Below w.heap.size w W1 := by rw [hW1]; exact below2 _ _ _
  have k1 : W1.heap[w.heap.size]? = some (.cells #[.int .i64 (p.1 : Nat), .int .i64 (p.2 : Nat)] 78 (0, 0)) := by rw [hW1]; exact (Below.heap_alloc _ _ _ (by simp)).trans (heap_alloc_at _ _ _ rfl)
  have k2 : W1.heap[w.heap.size + 1]? = some (.cells #[.int .i64 (q.1 : Nat), .int .i64 (q.2 : Nat)] 78 (0, 0)) := by rw [hW1]; exact heap_alloc_at _ _ _ (by simp)
  have hz1 : w.heap.size + 1 < W1.heap.size := heap_lt k2
  have HW := Lib.hid hW1
  have sizeFr : (Try.prog.info? 78).map (·.size) = some 2 := by kernel_rfl
  have HCASE := Lib.hid hcase
  have hB1' : W1.heap.size = W1.heap.size := rfl
  clear hg ho hd hs hm hng hno hdl hcase h rd rs rm hW1 hB1'
  go_enter Try.func64, Try.ntmps64
  go_wp2_with fail
  rw [← HW.out]
  refine wp_region_held_drew (S := (fun w' => Below W1.heap.size W1 w')) (by kernel_rfl) ((Below.refl W1.heap.size W1).drew) (fun hS => ?_)
  refine wpAnyH_take (i := 0) (oi := ⟨some 7, _, _, _, _, _⟩) rfl (by kernel_rfl) (by kernel_rfl) (by kernel_rfl) (fun _ _ _ h => h) (yields_load_row rfl 78 (.tmp 2) rfl w.heap.size rfl _ _ _ _ (fun _ h => (h.block w.heap.size (by omega)).trans k1) Try.underlying78 rfl sizeFr) hS ?_
  try simp only [Act.put, List.setIfInBounds_toArray, List.set_cons_zero, List.set_cons_succ]
  refine wpAnyH_take (i := 2) (oi := ⟨some 9, _, _, _, _, _⟩) rfl (by kernel_rfl) (by kernel_rfl) (by kernel_rfl) (fun _ _ _ h => h) (yields_load_row rfl 78 (.tmp 3) rfl (w.heap.size + 1) rfl _ _ _ _ (fun _ h => (h.block (w.heap.size + 1) hz1).trans k2) Try.underlying78 rfl sizeFr) hS ?_
  try simp only [Act.put, List.setIfInBounds_toArray, List.set_cons_zero, List.set_cons_succ]
  refine wpAnyH_ready (rs := [1]) (by kernel_rfl) (by simp) ?_
  refine AllReadyH.cons (o := ⟨some 8, _, _, _, _, _⟩) rfl (fun K' hK' => ?_) AllReadyH.nil
  go_simp
  go_at_call 68
  refine (HG.out _).mono ?_
  rintro e w8 ⟨rfl, hx8⟩
  have hS8 : Below W1.heap.size W1 w8 := keepB hS (Nat.le_refl _) hx8
  refine hK'.out _ _ hS8 (fun _ => ?_)
  clear hK' K'
  try simp only [Act.put, List.setIfInBounds_toArray, List.set_cons_zero, List.set_cons_succ]
  refine wpAnyH_ready (rs := [3]) (by kernel_rfl) (by simp) ?_
  refine AllReadyH.cons (o := ⟨some 10, _, _, _, _, _⟩) rfl (fun K' hK' => ?_) AllReadyH.nil
  go_simp
  go_at_call 68
  refine (HO.out _).mono ?_
  rintro e w10 ⟨rfl, hx10⟩
  have hS10 : Below W1.heap.size W1 w10 := keepB hS8 (Nat.le_refl _) hx10
  refine hK'.out _ _ hS10 (fun _ => ?_)
  clear hK' K'
  try simp only [Act.put, List.setIfInBounds_toArray, List.set_cons_zero, List.set_cons_succ]
  refine wpAnyH_ready (rs := [4]) (by kernel_rfl) (by simp) ?_
  refine AllReadyH.cons (o := ⟨some 5, _, _, _, _, _⟩) rfl (fun K' hK' => ?_) AllReadyH.nil
  go_simp
  refine hK'.out _ _ hS10 (fun _ => ?_)
  clear hK' K'
  try simp only [Act.put, List.setIfInBounds_toArray, List.set_cons_zero, List.set_cons_succ]
  refine wpAnyH_ready (rs := [5]) (by kernel_rfl) (by simp) ?_
  refine AllReadyH.cons (o := ⟨some 6, _, _, _, _, _⟩) rfl (fun K' hK' => ?_) AllReadyH.nil
  go_simp
  refine hK'.out _ _ hS10 (fun _ => ?_)
  clear hK' K'
  try simp only [Act.put, List.setIfInBounds_toArray, List.set_cons_zero, List.set_cons_succ]
  refine wpAnyH_done (by kernel_rfl) ?_ _
  have rd := HRD.out; have rs := HRS.out; have rm := HRM.out
  have hBW : Below w.heap.size w w10 := hB1.trans (hS10.mono hB1.size)
  have hb2 : Below (w.heap.size + 1) (w.alloc (.cells #[.int .i64 (p.1 : Nat), .int .i64 (p.2 : Nat)] 78)) W1 := by
    rw [HW.out]
    have := below1 (w.alloc (.cells #[.int .i64 (p.1 : Nat), .int .i64 (p.2 : Nat)] 78)) (.cells #[.int .i64 (q.1 : Nat), .int .i64 (q.2 : Nat)] 78)
    rwa [World.size_alloc] at this
  have c1 : ∀ i, w10.cell? ⟨w.heap.size, i, none⟩ = #[.int .i64 (p.1 : Nat), .int .i64 (p.2 : Nat)][i]? := fun i => (World.cell?_of_block (a := ⟨w.heap.size, i, none⟩) (hS10.block w.heap.size (by omega))).trans (boxcells hb2 i)
  have c2 : ∀ i, w10.cell? ⟨w.heap.size + 1, i, none⟩ = #[.int .i64 (q.1 : Nat), .int .i64 (q.2 : Nat)][i]? := fun i => by rw [World.cell?_of_block (a := ⟨w.heap.size + 1, i, none⟩) (hS10.block (w.heap.size + 1) hz1), HW.out]; exact World.cell?_alloc_at _ _ _ _ (by simp)
  have hm1 := mul_in7 p.1 q.2 hp1 hq2
  have hm2 := mul_in7 q.1 p.2 hq1 hp2
  clear k1 k2 hx8 hx10 hS8
  rcases HCASE.out with ⟨hf, hc⟩ | ⟨hf, hc⟩
  · go_wp2_with (go_at_call 69; refine (HAB.out _).mono ?_; rintro e w11 ⟨rfl, rfl⟩)
    refine (HCF.out _).mono ?_
    rintro e w12 ⟨rfl, rfl⟩
    go_wp2_with fail
    go_ret
    exact ⟨ret_int hc.symm, hBW⟩
  · go_wp2_with (go_at_call 69; refine (HAB.out _).mono ?_; rintro e w11 ⟨rfl, rfl⟩)
    refine (cmpInt_any _ _ _).mono ?_
    rintro e w12 ⟨rfl, rfl⟩
    go_wp2_with fail
    go_ret
    exact ⟨ret_int (by rw [hc]; simp), hBW⟩
end Go.Proofs.Ytmiefdjbhcpnbaa

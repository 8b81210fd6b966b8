/-
  Pairs: the rules by which the mean is least or greatest: shortest, longest.
-/
import Derived.Test.YtblpfjjnlfjloaaC5zf
import Derived.Test.YtblpfjjnlfjloaaC5q
import Derived.Test.YtblpfjjnlfjloaaM54
namespace Go.Proofs.Ytblpfjjnlfjloaa
open Go.RowKit

/-- The program's comparison tells so. -/
def shG : Tab → Nat → Nat → Nat → Prop := fun T x y face => ∃ c, cmpP (behP T x y 1 face) (behP T x y 0 face) = some c ∧ decide (c < 0) = lessB T x y face

set_option maxRecDepth 100000 in
set_option maxHeartbeats 1000000 in
theorem shortest_any (g s f x y face : Nat) (R : Value) (T : Tab) (w : World) (hP : PA w g 65 s f R T) (hs : s ≤ 6) (hx : x + face ≤ s) (hy : y + face ≤ s) (hT : ∀ u v, (T u v).1 ≤ 10000000 ∧ (T u v).2 ≤ 10000000) (hG : shG T x y face) :
    Calls Try.prog 40 #[.pointer (some ⟨g, 0, none⟩), .agg #[.int .i64 x, .int .i64 y], .int .i64 face] w fun e w' => e = .returned (.int .i64 (chShort T x y face : Nat)) ∧ Below w.heap.size w w' := by
  obtain ⟨c, hc, hcl⟩ := hG
  have HM1 := Lib.hid (fun W h => meanBehind_any g s f x y 1 face R T W h hs (by omega) (.inr ⟨rfl, hy, by omega⟩))
  have HM0 := Lib.hid (fun W h => meanBehind_any g s f x y 0 face R T W h hs (by omega) (.inl ⟨rfl, hx, by omega⟩))
  have hb1 : (behP T x y 1 face).1 ≤ 10000000 ∧ (behP T x y 1 face).2 ≤ 10000000 := hT _ _
  have hb0 : (behP T x y 0 face).1 ≤ 10000000 ∧ (behP T x y 0 face).2 ≤ 10000000 := hT _ _
  have HCP := Lib.hid (fun W => compare_any _ _ c W hb1.1 hb1.2 hb0.1 hb0.2 hc)
  obtain ⟨m, hm⟩ : ∃ m, m = chShort T x y face := ⟨_, rfl⟩
  have hmc : m = if c < 0 then 1 else 0 := by rw [hm]; unfold chShort; rw [← hcl]; simp
  rw [← hm]
  obtain ⟨p, hp⟩ : ∃ p, p = behP T x y 1 face := ⟨_, rfl⟩
  obtain ⟨q, hq⟩ : ∃ q, q = behP T x y 0 face := ⟨_, rfl⟩
  rw [← hp, ← hq] at HCP
  rw [← hp] at HM1
  rw [← hq] at HM0
  have hgl := hP.lt
  have HMC := Lib.hid hmc
  obtain ⟨W1, hW1⟩ : ∃ W1, W1 = w.alloc (.cells #[.int .i64 (x : Int), .int .i64 (y : Int)] 71) := ⟨_, rfl⟩
  have hB1 : Below w.heap.size w W1 := by rw [hW1]; exact below1 _ _
  have k1 : W1.heap[w.heap.size]? = some (.cells #[.int .i64 (x : Int), .int .i64 (y : Int)] 71 (0, 0)) := by rw [hW1]; exact heap_alloc_at _ _ _ rfl
  have P1 : PA W1 g 65 s f R T := by rw [hW1]; exact hP.alloc _
  have hz1 : w.heap.size < W1.heap.size := heap_lt k1
  have hgl1 := P1.lt
  have HW := Lib.hid hW1
  have sizeB : (Try.prog.info? 71).map (·.size) = some 2 := by kernel_rfl
  have HP1 := Lib.hid P1
  clear hm hmc hc hcl hp hq hP hb1 hb0 hT hs hx hy hW1 hgl P1
  go_enter Try.func40, Try.ntmps40
  go_wp2_with fail
  rw [← HW.out]
  refine wp_region_held_drew (S := (fun w' => Below W1.heap.size W1 w')) (by kernel_rfl) ((Below.refl W1.heap.size W1).drew) (fun hS => ?_)
  refine wpAnyH_take (i := 1) (oi := ⟨some 8, _, _, _, _, _⟩) rfl (by kernel_rfl) (by kernel_rfl) (by kernel_rfl) (fun _ _ _ h => h) (yields_load_row rfl 71 (.tmp 4) rfl w.heap.size rfl _ _ _ _ (fun _ h => (h.block w.heap.size hz1).trans k1) Try.underlying71 rfl sizeB) hS ?_
  try simp only [Act.put, List.setIfInBounds_toArray, List.set_cons_zero, List.set_cons_succ]
  refine wpAnyH_take (i := 5) (oi := ⟨some 12, _, _, _, _, _⟩) rfl (by kernel_rfl) (by kernel_rfl) (by kernel_rfl) (fun _ _ _ h => h) (yields_load_row rfl 71 (.tmp 4) rfl w.heap.size rfl _ _ _ _ (fun _ h => (h.block w.heap.size hz1).trans k1) Try.underlying71 rfl sizeB) hS ?_
  try simp only [Act.put, List.setIfInBounds_toArray, List.set_cons_zero, List.set_cons_succ]
  refine wpAnyH_take (i := 0) (oi := ⟨some 7, _, _, _, _, _⟩) (v := ?va1) rfl (by kernel_rfl) (by kernel_rfl) (by kernel_rfl) (fun _ _ _ h => h) (Or.inl ⟨by rfl, ?ha1⟩) hS ?ra1
  case ha1 => (intro w' hSw; (try dsimp only at hSw); go_simp; (try with_reducible rfl))
  try simp only [Act.put, List.setIfInBounds_toArray, List.set_cons_zero, List.set_cons_succ]
  refine wpAnyH_take (i := 2) (oi := ⟨some 9, _, _, _, _, _⟩) (v := ?va2) rfl (by kernel_rfl) (by kernel_rfl) (by kernel_rfl) (fun _ _ _ h => h) (Or.inl ⟨by rfl, ?ha2⟩) hS ?ra2
  case ha2 => (intro w' hSw; (try dsimp only at hSw); go_simp; (try with_reducible rfl))
  try simp only [Act.put, List.setIfInBounds_toArray, List.set_cons_zero, List.set_cons_succ]
  refine wpAnyH_take (i := 4) (oi := ⟨some 11, _, _, _, _, _⟩) (v := ?va3) rfl (by kernel_rfl) (by kernel_rfl) (by kernel_rfl) (fun _ _ _ h => h) (Or.inl ⟨by rfl, ?ha3⟩) hS ?ra3
  case ha3 => (intro w' hSw; (try dsimp only at hSw); go_simp; (try with_reducible rfl))
  try simp only [Act.put, List.setIfInBounds_toArray, List.set_cons_zero, List.set_cons_succ]
  refine wpAnyH_take (i := 6) (oi := ⟨some 13, _, _, _, _, _⟩) (v := ?va4) rfl (by kernel_rfl) (by kernel_rfl) (by kernel_rfl) (fun _ _ _ h => h) (Or.inl ⟨by rfl, ?ha4⟩) hS ?ra4
  case ha4 => (intro w' hSw; (try dsimp only at hSw); go_simp; (try with_reducible rfl))
  try simp only [Act.put, List.setIfInBounds_toArray, List.set_cons_zero, List.set_cons_succ]
  refine wpAnyH_ready (rs := [3]) (by kernel_rfl) (by simp) ?_
  refine AllReadyH.cons (o := ⟨some 10, _, _, _, _, _⟩) rfl (fun K' hK' => ?_) AllReadyH.nil
  go_simp
  go_at_call 54
  refine (HM1.out _ (HP1.out.below hS hgl1)).mono ?_
  rintro e w10 ⟨rfl, hx10⟩
  have hS10 : Below W1.heap.size W1 w10 := keepB hS (Nat.le_refl _) hx10
  refine hK'.out _ _ hS10 (fun _ => ?_)
  clear hK' K'
  try simp only [Act.put, List.setIfInBounds_toArray, List.set_cons_zero, List.set_cons_succ]
  refine wpAnyH_ready (rs := [7]) (by kernel_rfl) (by simp) ?_
  refine AllReadyH.cons (o := ⟨some 14, _, _, _, _, _⟩) rfl (fun K' hK' => ?_) AllReadyH.nil
  go_simp
  go_at_call 54
  refine (HM0.out _ (HP1.out.below hS10 hgl1)).mono ?_
  rintro e w14 ⟨rfl, hx14⟩
  have hS14 : Below W1.heap.size W1 w14 := keepB hS10 (Nat.le_refl _) hx14
  refine hK'.out _ _ hS14 (fun _ => ?_)
  clear hK' K'
  try simp only [Act.put, List.setIfInBounds_toArray, List.set_cons_zero, List.set_cons_succ]
  refine wpAnyH_ready (rs := [8]) (by kernel_rfl) (by simp) ?_
  refine AllReadyH.cons (o := ⟨some 15, _, _, _, _, _⟩) rfl (fun K' hK' => ?_) AllReadyH.nil
  go_simp
  go_at_call 62
  refine (HCP.out _).mono ?_
  rintro e w15 ⟨rfl, hx15⟩
  have hS15 : Below W1.heap.size W1 w15 := keepB hS14 (Nat.le_refl _) hx15
  refine hK'.out _ _ hS15 (fun _ => ?_)
  clear hK' K'
  try simp only [Act.put, List.setIfInBounds_toArray, List.set_cons_zero, List.set_cons_succ]
  refine wpAnyH_take (i := 9) (oi := ⟨some 16, _, _, _, _, _⟩) (v := ?va5) rfl (by kernel_rfl) (by kernel_rfl) (by kernel_rfl) (fun _ _ _ h => h) (Or.inl ⟨by rfl, ?ha5⟩) hS15 ?ra5
  case ha5 => (intro w' hSw; (try dsimp only at hSw); go_simp; (try with_reducible rfl))
  try simp only [Act.put, List.setIfInBounds_toArray, List.set_cons_zero, List.set_cons_succ]
  refine wpAnyH_done (by kernel_rfl) ?_ _
  have hBW : Below w.heap.size w w15 := hB1.trans (hS15.mono hB1.size)
  by_cases h : c < 0
  · go_wp2_with fail
    go_ret
    exact ⟨ret_int (by rw [HMC.out, if_pos h]; rfl), hBW⟩
  · go_wp2_with fail
    go_ret
    exact ⟨ret_int (by rw [HMC.out, if_neg (by omega)]; rfl), hBW⟩

set_option maxRecDepth 100000 in
theorem longest_any (g s f x y face : Nat) (R : Value) (T : Tab) (w : World) (hP : PA w g 65 s f R T) (hs : s ≤ 6) (hx : x + face ≤ s) (hy : y + face ≤ s) (hT : ∀ u v, (T u v).1 ≤ 10000000 ∧ (T u v).2 ≤ 10000000) (hG : shG T x y face) :
    Calls Try.prog 48 #[.pointer (some ⟨g, 0, none⟩), .agg #[.int .i64 x, .int .i64 y], .int .i64 face] w fun e w' => e = .returned (.int .i64 (chLong T x y face : Nat)) ∧ Below w.heap.size w w' := by
  obtain ⟨n, hn⟩ : ∃ n : Nat, n = chShort T x y face := ⟨_, rfl⟩
  obtain ⟨m, hm⟩ : ∃ m : Nat, m = chLong T x y face := ⟨_, rfl⟩
  have hnm : IntKind.i64.wrap (1 - (n : Int)) = (m : Int) := by rw [hn, hm]; unfold chShort chLong; cases lessB T x y face <;> rfl
  have hl := fun W h => shortest_any g s f x y face R T W h hs hx hy hT hG
  rw [← hn] at hl
  rw [← hm]
  have HL := Lib.hid hl
  have HP := Lib.hid (hP.alloc (.cells #[.int .i64 (x : Int), .int .i64 (y : Int)] 71))
  clear hn hm hl hP hT hG hx hy hs
  go_enter Try.func48, Try.ntmps48
  go_wp2_with fail
  refine (HL.out _ HP.out).mono ?_
  rintro e w2 ⟨rfl, hx⟩
  go_wp2
  go_ret
  exact ⟨rfl, (below1 _ _).trans (hx.mono (by simp))⟩
theorem short_rule : RuleIs 40 chShort shG := fun g s f x y face T W hP hs hx hy _ hT hG => shortest_any g s f x y face _ T W hP hs hx hy hT hG
theorem long_rule : RuleIs 48 chLong shG := fun g s f x y face T W hP hs hx hy _ hT hG => longest_any g s f x y face _ T W hP hs hx hy hT hG
theorem short_le (T : Tab) (x y face : Nat) : chShort T x y face ≤ 1 := by unfold chShort; split <;> omega
theorem long_le (T : Tab) (x y face : Nat) : chLong T x y face ≤ 1 := by unfold chLong; split <;> omega
end Go.Proofs.Ytblpfjjnlfjloaa

/-
  Pairs: the plan by best choices: bestPlan.
-/
import Derived.Test.YtblpfjjnlfjloaaC5zc
import Derived.Test.YtblpfjjnlfjloaaC5zg
import Derived.Test.YtblpfjjnlfjloaaC5zi
import Derived.Test.YtblpfjjnlfjloaaC5zj
namespace Go.Proofs.Ytblpfjjnlfjloaa
open Go.RowKit

theorem short_enters : EntersF 40 := fun _ _ => Try.call40 _ _
theorem long_enters : EntersF 48 := fun _ _ => Try.call48 _ _
/-- The table of means by best choices, or by worst ones. -/
def bT (l : Bool) (s f : Nat) : Tab := rowsTab s (bestTab l s f)
section
variable {l : Bool} {s f : Nat} (hs1 : 1 ≤ s) (hs : s ≤ 6) (hf1 : 1 ≤ f) (hf : f ≤ 4)
include hs1 hs hf1 hf
theorem bT_small (u v : Nat) : (bT l s f u v).1 ≤ 10000000 ∧ (bT l s f u v).2 ≤ 10000000 := smallB_iff (bestTab_all l s f hs1 hs hf1 hf).1 u v
theorem bT_tab : TabOk (chP l) s f (bT l s f) := ⟨fun u v _ _ => bT_small hs1 hs hf1 hf u v, okPB_iff (bestTab_all l s f hs1 hs hf1 hf).2.2.1⟩
theorem bT_tabS : TabOkS (chS l) s f (bT l s f) := okSB_iff (bestTab_all l s f hs1 hs hf1 hf).2.2.2
theorem bT_good : GoodG shG s f (bT l s f) := by
  intro x y face h1 h2 hx hy
  have h := shB_at (sh_all l s f hs1 hs hf1 hf) h1 h2 hx hy
  have e1 : behP (partT (bT l s f) s x y) x y 1 face = bT l s f x (y + face) := by unfold behP partT; rw [if_neg (by decide), if_pos (by omega)]
  have e0 : behP (partT (bT l s f) s x y) x y 0 face = bT l s f (x + face) y := by unfold behP partT; rw [if_pos rfl, if_pos (by omega)]
  unfold shG lessB
  rw [e1, e0]
  unfold shB at h
  change (match cmpP (bT l s f x (y + face)) (bT l s f (x + face) y) with | some c => decide (c < 0) == decide ((bT l s f x (y + face)).1 * (bT l s f (x + face) y).2 < (bT l s f (x + face) y).1 * (bT l s f x (y + face)).2) | none => false) = true at h
  cases hc : cmpP (bT l s f x (y + face)) (bT l s f (x + face) y) with
  | none => rw [hc] at h; cases h
  | some c => rw [hc] at h; exact ⟨c, rfl, by simpa using h⟩
theorem bT_goodS : GoodS gS s f (bT l s f) := by
  intro x y face _ _ h1 h2 hx hy
  have hd := denB_iff (s := s) (bestTab_all l s f hs1 hs hf1 hf).2.1
  have e1 : partS (bT l s f) s (x + y) x (x + face) y = bT l s f (x + face) y := by unfold partS; rw [if_pos (by omega)]
  have e2 : partS (bT l s f) s (x + y) x x (y + face) = bT l s f x (y + face) := by unfold partS; rw [if_pos (by omega)]
  unfold gS
  rw [e1, e2]
  exact ⟨hd _ _, hd _ _⟩
end
/-- What a law of means tells. -/
def MeanOf (F : FuncId) (s f a b x y : Int) (ok : Bool) : Prop := ∀ w, Calls Try.prog F #[.int .i64 s, .int .i64 f, .int .i64 a, .int .i64 b] w fun e w' => e = .returned (.tuple #[.int .i64 x, .int .i64 y, .bool ok]) ∧ Below w.heap.size w w'
set_option maxRecDepth 100000 in
set_option maxHeartbeats 1000000 in
theorem specPairMean_no (s f a b : Int) (hp : pairOk s f a b = false) : MeanOf 12 s f a b 0 0 false := by
  intro w
  have HP := Lib.hid hp; clear hp
  go_enter Try.func12, Try.ntmps12
  go_wp2_with (go_at_call 37; go_loud (refine (oiGood_any _ _ _ _ _).mono ?_; rintro e w1 ⟨rfl, rfl⟩; rw [HP.out]))
  exact bodyPost_ret (v := .tuple #[.int .i64 0, .int .i64 0, .bool false]) (by simp [results, Try.results12]) rfl ⟨rfl, Below.refl _ _⟩
set_option maxRecDepth 100000 in
set_option maxHeartbeats 1000000 in
theorem specPairMean_yes (s f x y : Nat) (T : Tab) (hT : T = bT true s f) (hp : pairOk s f x y = true) (hs1 : 1 ≤ s) (hs : s ≤ 6) (hf1 : 1 ≤ f) (hf : f ≤ 4) (hx : x ≤ s) (hy : y ≤ s) : MeanOf 12 s f x y (T x y).1 (T x y).2 true := by
  intro w
  have HP := Lib.hid hp; clear hp
  have hC := fun W => oiMean_any 0 (chS true) gS s f x y (bT true s f) W (best_ruleS s hs) (bT_tabS hs1 hs hf1 hf) (bT_goodS hs1 hs hf1 hf) (bT_small hs1 hs hf1 hf) hs hf1 (by omega) hx hy
  rw [← hT] at hC
  have HC := Lib.hid hC
  clear hC hT
  go_enter Try.func12, Try.ntmps12
  go_wp2_with (first | (go_at_call 37; go_loud (refine (oiGood_any _ _ _ _ _).mono ?_; rintro e w1 ⟨rfl, rfl⟩; rw [HP.out])) | (go_at_call 38; go_loud (refine (HC.out _).mono ?_; rintro e w2 ⟨rfl, hx2⟩)))
  exact bodyPost_ret (v := .tuple #[.int .i64 ((T x y).1 : Nat), .int .i64 ((T x y).2 : Nat), .bool true]) (by simp [results, Try.results12]) rfl ⟨rfl, hx2⟩
set_option maxRecDepth 100000 in
set_option maxHeartbeats 1000000 in
theorem implPairMean_no (s f a b : Int) (hp : pairOk s f a b = false) : MeanOf 13 s f a b 0 0 false := by
  intro w
  have HC := Lib.hid (fun R W => meanBy_no s f a b R W hp)
  clear hp
  go_enter Try.func13, Try.ntmps13
  go_wp2_with (go_at_call 39; go_loud (refine (HC.out _ _).mono ?_; rintro e w2 ⟨rfl, hx2⟩))
  exact bodyPost_ret (v := .tuple #[.int .i64 0, .int .i64 0, .bool false]) (by simp [results, Try.results13]) rfl ⟨rfl, hx2⟩
set_option maxRecDepth 100000 in
set_option maxHeartbeats 1000000 in
theorem implPairMean_yes (s f x y : Nat) (T : Tab) (hT : T = bT true s f) (hp : pairOk s f x y = true) (hs1 : 1 ≤ s) (hs : s ≤ 6) (hf1 : 1 ≤ f) (hf : f ≤ 4) : MeanOf 13 s f x y (T x y).1 (T x y).2 true := by
  intro w
  have hC := fun W => meanBy_yes s f x y _ (chP true) shG (bT true s f) W hp short_rule short_enters short_le (bT_tab hs1 hs hf1 hf) (bT_good hs1 hs hf1 hf)
  rw [← hT] at hC
  have HC := Lib.hid hC
  clear hC hT hp
  go_enter Try.func13, Try.ntmps13
  go_wp2_with (go_at_call 39; go_loud (refine (HC.out _).mono ?_; rintro e w2 ⟨rfl, hx2⟩))
  exact bodyPost_ret (v := .tuple #[.int .i64 ((T x y).1 : Nat), .int .i64 ((T x y).2 : Nat), .bool true]) (by simp [results, Try.results13]) rfl ⟨rfl, hx2⟩
theorem pairMean_both (s f a b : Int) : ∃ (x y : Int) (ok : Bool),
    (∀ w, Calls Try.prog 12 #[.int .i64 s, .int .i64 f, .int .i64 a, .int .i64 b] w fun e w' => e = .returned (.tuple #[.int .i64 x, .int .i64 y, .bool ok]) ∧ Below w.heap.size w w') ∧
    (∀ w, Calls Try.prog 13 #[.int .i64 s, .int .i64 f, .int .i64 a, .int .i64 b] w fun e w' => e = .returned (.tuple #[.int .i64 x, .int .i64 y, .bool ok]) ∧ Below w.heap.size w w') := by
  cases hp : pairOk s f a b
  · exact ⟨0, 0, false, specPairMean_no s f a b hp, implPairMean_no s f a b hp⟩
  · have h := pairOk_iff.1 hp
    obtain ⟨m, rfl⟩ : ∃ m : Nat, s = m := ⟨s.toNat, by omega⟩
    obtain ⟨n, rfl⟩ : ∃ n : Nat, f = n := ⟨f.toNat, by omega⟩
    obtain ⟨x, rfl⟩ : ∃ x : Nat, a = x := ⟨a.toNat, by omega⟩
    obtain ⟨y, rfl⟩ : ∃ y : Nat, b = y := ⟨b.toNat, by omega⟩
    exact ⟨_, _, _, specPairMean_yes m n x y _ rfl hp (by omega) (by omega) (by omega) (by omega) (by omega) (by omega), implPairMean_yes m n x y _ rfl hp (by omega) (by omega) (by omega) (by omega)⟩
set_option maxRecDepth 100000 in
set_option maxHeartbeats 1000000 in
theorem specPairGreatest_no (s f a b : Int) (hp : pairOk s f a b = false) : MeanOf 18 s f a b 0 0 false := by
  intro w
  have HP := Lib.hid hp; clear hp
  go_enter Try.func18, Try.ntmps18
  go_wp2_with (go_at_call 37; go_loud (refine (oiGood_any _ _ _ _ _).mono ?_; rintro e w1 ⟨rfl, rfl⟩; rw [HP.out]))
  exact bodyPost_ret (v := .tuple #[.int .i64 0, .int .i64 0, .bool false]) (by simp [results, Try.results18]) rfl ⟨rfl, Below.refl _ _⟩
set_option maxRecDepth 100000 in
set_option maxHeartbeats 1000000 in
theorem specPairGreatest_yes (s f x y : Nat) (T : Tab) (hT : T = bT false s f) (hp : pairOk s f x y = true) (hs1 : 1 ≤ s) (hs : s ≤ 6) (hf1 : 1 ≤ f) (hf : f ≤ 4) (hx : x ≤ s) (hy : y ≤ s) : MeanOf 18 s f x y (T x y).1 (T x y).2 true := by
  intro w
  have HP := Lib.hid hp; clear hp
  have hC := fun W => oiMean_any 1 (chS false) gS s f x y (bT false s f) W (worst_ruleS s hs) (bT_tabS hs1 hs hf1 hf) (bT_goodS hs1 hs hf1 hf) (bT_small hs1 hs hf1 hf) hs hf1 (by omega) hx hy
  rw [← hT] at hC
  have HC := Lib.hid hC
  clear hC hT
  go_enter Try.func18, Try.ntmps18
  go_wp2_with (first | (go_at_call 37; go_loud (refine (oiGood_any _ _ _ _ _).mono ?_; rintro e w1 ⟨rfl, rfl⟩; rw [HP.out])) | (go_at_call 38; go_loud (refine (HC.out _).mono ?_; rintro e w2 ⟨rfl, hx2⟩)))
  exact bodyPost_ret (v := .tuple #[.int .i64 ((T x y).1 : Nat), .int .i64 ((T x y).2 : Nat), .bool true]) (by simp [results, Try.results18]) rfl ⟨rfl, hx2⟩
set_option maxRecDepth 100000 in
set_option maxHeartbeats 1000000 in
theorem implPairGreatest_no (s f a b : Int) (hp : pairOk s f a b = false) : MeanOf 19 s f a b 0 0 false := by
  intro w
  have HC := Lib.hid (fun R W => meanBy_no s f a b R W hp)
  clear hp
  go_enter Try.func19, Try.ntmps19
  go_wp2_with (go_at_call 39; go_loud (refine (HC.out _ _).mono ?_; rintro e w2 ⟨rfl, hx2⟩))
  exact bodyPost_ret (v := .tuple #[.int .i64 0, .int .i64 0, .bool false]) (by simp [results, Try.results19]) rfl ⟨rfl, hx2⟩
set_option maxRecDepth 100000 in
set_option maxHeartbeats 1000000 in
theorem implPairGreatest_yes (s f x y : Nat) (T : Tab) (hT : T = bT false s f) (hp : pairOk s f x y = true) (hs1 : 1 ≤ s) (hs : s ≤ 6) (hf1 : 1 ≤ f) (hf : f ≤ 4) : MeanOf 19 s f x y (T x y).1 (T x y).2 true := by
  intro w
  have hC := fun W => meanBy_yes s f x y _ (chP false) shG (bT false s f) W hp long_rule long_enters long_le (bT_tab hs1 hs hf1 hf) (bT_good hs1 hs hf1 hf)
  rw [← hT] at hC
  have HC := Lib.hid hC
  clear hC hT hp
  go_enter Try.func19, Try.ntmps19
  go_wp2_with (go_at_call 39; go_loud (refine (HC.out _).mono ?_; rintro e w2 ⟨rfl, hx2⟩))
  exact bodyPost_ret (v := .tuple #[.int .i64 ((T x y).1 : Nat), .int .i64 ((T x y).2 : Nat), .bool true]) (by simp [results, Try.results19]) rfl ⟨rfl, hx2⟩
theorem pairGreatest_both (s f a b : Int) : ∃ (x y : Int) (ok : Bool),
    (∀ w, Calls Try.prog 18 #[.int .i64 s, .int .i64 f, .int .i64 a, .int .i64 b] w fun e w' => e = .returned (.tuple #[.int .i64 x, .int .i64 y, .bool ok]) ∧ Below w.heap.size w w') ∧
    (∀ w, Calls Try.prog 19 #[.int .i64 s, .int .i64 f, .int .i64 a, .int .i64 b] w fun e w' => e = .returned (.tuple #[.int .i64 x, .int .i64 y, .bool ok]) ∧ Below w.heap.size w w') := by
  cases hp : pairOk s f a b
  · exact ⟨0, 0, false, specPairGreatest_no s f a b hp, implPairGreatest_no s f a b hp⟩
  · have h := pairOk_iff.1 hp
    obtain ⟨m, rfl⟩ : ∃ m : Nat, s = m := ⟨s.toNat, by omega⟩
    obtain ⟨n, rfl⟩ : ∃ n : Nat, f = n := ⟨f.toNat, by omega⟩
    obtain ⟨x, rfl⟩ : ∃ x : Nat, a = x := ⟨a.toNat, by omega⟩
    obtain ⟨y, rfl⟩ : ∃ y : Nat, b = y := ⟨b.toNat, by omega⟩
    exact ⟨_, _, _, specPairGreatest_yes m n x y _ rfl hp (by omega) (by omega) (by omega) (by omega) (by omega) (by omega), implPairGreatest_yes m n x y _ rfl hp (by omega) (by omega) (by omega) (by omega)⟩

abbrev shortV : Value := .func (.func 40) #[] #[]
set_option maxRecDepth 100000 in
set_option maxHeartbeats 1000000 in
theorem bestPlan_no (s f a b : Int) (w : World) (hp : pairOk s f a b = false) :
    Calls Try.prog 43 #[.int .i64 s, .int .i64 f, .int .i64 a, .int .i64 b] w fun e w' => e = .returned (.tuple #[.agg Try.zeroCells65, .bool false]) ∧ Below w.heap.size w w' := by
  have HC := Lib.hid (fun W => planOf_no s f a b shortV W hp)
  clear hp
  go_enter Try.func43, Try.ntmps43
  go_wp2_with fail
  refine (HC.out _).mono ?_
  rintro e w2 ⟨rfl, hx⟩
  have k2 : w2.heap[w.heap.size]? = some (.cells Try.zeroCells65 65 (0, 0)) := (hx.block _ (by simp)).trans (heap_alloc_at _ _ _ rfl)
  have hb : Below w.heap.size w w2 := (below1 _ _).trans (hx.mono (by simp))
  go_wp2_with (refine wpList_store_row rfl 65 (.tmp 8) (.tmp 15) rfl w.heap.size rfl 65 Try.zeroCells65 Try.zeroCells65 rfl k2 ?_ ?_ planZero_one ?_; rfl; (rw [planZero_size]; exact sizePlan); intro w3 hC3 hg3 hs3)
  exact bodyPost_ret (v := .tuple #[.agg Try.zeroCells65, .bool false]) (results_cell_slot Try.results43 _ _ _ _ _ _ _ _ rfl rfl hC3 Try.underlying65 rfl (by rw [planZero_size]; exact sizePlan)) rfl
    ⟨rfl, hb.grown hg3 hb.size (fun k h => by cases h; omega)⟩
set_option maxRecDepth 100000 in
set_option maxHeartbeats 1000000 in
theorem bestPlan_yes (s f a b : Nat) (T : Tab) (hT : T = bT true s f) (w : World) (hp : pairOk s f a b = true) (hs1 : 1 ≤ s) (hs : s ≤ 6) (hf1 : 1 ≤ f) (hf : f ≤ 4) :
    Calls Try.prog 43 #[.int .i64 s, .int .i64 f, .int .i64 a, .int .i64 b] w fun e w' => e = .returned (.tuple #[.agg (planC s f shortV (allT T s)), .bool true]) ∧ Below w.heap.size w w' := by
  have hC := fun W => planOf_yes s f a b _ (chP true) shG (bT true s f) W hp short_rule short_enters short_le (bT_tab hs1 hs hf1 hf) (bT_good hs1 hs hf1 hf)
  rw [← hT] at hC
  have HC := Lib.hid hC
  clear hC hT hp hs1 hs hf1 hf
  go_enter Try.func43, Try.ntmps43
  go_wp2_with fail
  refine (HC.out _).mono ?_
  rintro e w2 ⟨rfl, hx⟩
  have k2 : w2.heap[w.heap.size]? = some (.cells Try.zeroCells65 65 (0, 0)) := (hx.block _ (by simp)).trans (heap_alloc_at _ _ _ rfl)
  have hb : Below w.heap.size w w2 := (below1 _ _).trans (hx.mono (by simp))
  go_wp2_with (refine wpList_store_row rfl 65 (.tmp 8) (.tmp 15) rfl w.heap.size rfl 65 Try.zeroCells65 (planC s f shortV (allT T s)) rfl k2 ?_ ?_ (planC_one _ _ _ _ rfl) ?_; (rw [planZero_size, planC_size]); (rw [planC_size]; exact sizePlan); intro w3 hC3 hg3 hs3)
  exact bodyPost_ret (v := .tuple #[.agg (planC s f shortV (allT T s)), .bool true]) (results_cell_slot Try.results43 _ _ _ _ _ _ _ _ rfl rfl hC3 Try.underlying65 rfl (by rw [planC_size]; exact sizePlan)) rfl
    ⟨rfl, hb.grown hg3 hb.size (fun k h => by cases h; omega)⟩

/-- What the rule asks holds of the whole table. -/
theorem bT_goodA {s f x y face : Nat} (hs1 : 1 ≤ s) (hs : s ≤ 6) (hf1 : 1 ≤ f) (hf : f ≤ 4) (h1 : 1 ≤ face) (h2 : face ≤ f) (hx : x + face ≤ s) (hy : y + face ≤ s) : shG (allT (bT true s f) s) x y face := by
  obtain ⟨c, h, h'⟩ := bT_good (l := true) hs1 hs hf1 hf x y face h1 h2 hx hy
  have e1 : ∀ P : Tab, (∀ u v, u ≤ s → v ≤ s → (x < u ∨ u = x ∧ y < v) → P u v = bT true s f u v) → behP P x y 1 face = bT true s f x (y + face) ∧ behP P x y 0 face = bT true s f (x + face) y := fun P hP => ⟨hP _ _ (by omega) hy (by omega), hP _ _ hx (by omega) (by omega)⟩
  have ep := e1 (partT (bT true s f) s x y) (fun u v hu hv h => by unfold partT; rw [if_pos ⟨hu, hv, h⟩])
  have ea := e1 (allT (bT true s f) s) (fun u v hu hv h => by unfold allT; rw [if_pos ⟨hu, hv⟩])
  unfold lessB at h'
  rw [ep.1, ep.2] at h h'
  refine ⟨c, ?_, ?_⟩
  · rw [ea.1, ea.2]; exact h
  · unfold lessB; rw [ea.1, ea.2]; exact h'
theorem allT_small {T : Tab} {s : Nat} (h : ∀ u v, (T u v).1 ≤ 10000000 ∧ (T u v).2 ≤ 10000000) (u v : Nat) : (allT T s u v).1 ≤ 10000000 ∧ (allT T s u v).2 ≤ 10000000 := by
  unfold allT
  split
  · exact h u v
  · exact ⟨by simp, by simp⟩
theorem movP_part {T : Tab} {s x y face : Nat} (h1 : 1 ≤ face) : movP chShort (partS T s (x + y) x) s x y face = movP chShort (allT T s) s x y face := by
  unfold movP
  by_cases hx : x + face ≤ s
  · by_cases hy : y + face ≤ s
    · rw [if_pos hx, if_pos hy, if_pos hx, if_pos hy]
      have p1 : behP (partS T s (x + y) x) x y 1 face = T x (y + face) := by unfold behP partS; rw [if_neg (by decide), if_pos (by omega)]
      have p0 : behP (partS T s (x + y) x) x y 0 face = T (x + face) y := by unfold behP partS; rw [if_pos rfl, if_pos (by omega)]
      have a1 : behP (allT T s) x y 1 face = T x (y + face) := by unfold behP allT; rw [if_neg (by decide), if_pos (by omega)]
      have a0 : behP (allT T s) x y 0 face = T (x + face) y := by unfold behP allT; rw [if_pos rfl, if_pos (by omega)]
      unfold chShort lessB
      rw [p1, p0, a1, a0]
    · rw [if_pos hx, if_neg hy, if_pos hx, if_neg hy]
  · rw [if_neg hx, if_neg hx]
end Go.Proofs.Ytblpfjjnlfjloaa

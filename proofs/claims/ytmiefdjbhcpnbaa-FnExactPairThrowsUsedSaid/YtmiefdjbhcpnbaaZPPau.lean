/- Several texts, one behind the other: C5zk C5zn M56 C5zq C5zr. -/
import Derived.Test.YtmiefdjbhcpnbaaZPPan
import Derived.Test.YtmiefdjbhcpnbaaZPPas
import Derived.Test.YtmiefdjbhcpnbaaZPPat
import Derived.Test.YtmiefdjbhcpnbaaZPPag
import Derived.Test.YtmiefdjbhcpnbaaZPPah
import Derived.Test.YtmiefdjbhcpnbaaZPPai

namespace Go.Proofs.Ytmiefdjbhcpnbaa
open Go.RowKit

theorem short_enters : EntersF 55 := fun _ _ => Try.call55 _ _
/-- The table of means by best choices, or by worst ones. -/
def bT (l : Bool) (s f : Nat) : Tab := rowsTab s (bestTab l s f)
section
variable {l : Bool} {s f : Nat} (hs1 : 1 ≤ s) (hs : s ≤ 6) (hf1 : 1 ≤ f) (hf : f ≤ 4)
include hs1 hs hf1 hf
theorem bT_small (u v : Nat) : (bT l s f u v).1 ≤ 10000000 ∧ (bT l s f u v).2 ≤ 10000000 := smallB_iff (bestTab_all l s f hs1 hs hf1 hf).1 u v
theorem bT_tab : TabOk (chP l) s f (bT l s f) := ⟨fun u v _ _ => bT_small hs1 hs hf1 hf u v, okPB_iff (bestTab_all l s f hs1 hs hf1 hf).2.2.1⟩
theorem bT_tabS : TabOkS (chS l) s f (bT l s f) := okSB_iff (bestTab_all l s f hs1 hs hf1 hf).2.2.2
theorem bT_good : GoodG shG s f (bT l s f) := by
  intro x y face h1 h2 hx hy
  have h := shB_at (sh_all l s f hs1 hs hf1 hf) h1 h2 hx hy
  have e1 : behP (partT (bT l s f) s x y) x y 1 face = bT l s f x (y + face) := by unfold behP partT; rw [if_neg (by decide), if_pos (by omega)]
  have e0 : behP (partT (bT l s f) s x y) x y 0 face = bT l s f (x + face) y := by unfold behP partT; rw [if_pos rfl, if_pos (by omega)]
  unfold shG lessB
  rw [e1, e0]
  unfold shB at h
  change (match cmpP (bT l s f x (y + face)) (bT l s f (x + face) y) with | some c => decide (c < 0) == decide ((bT l s f x (y + face)).1 * (bT l s f (x + face) y).2 < (bT l s f (x + face) y).1 * (bT l s f x (y + face)).2) | none => false) = true at h
  cases hc : cmpP (bT l s f x (y + face)) (bT l s f (x + face) y) with
  | none => rw [hc] at h; cases h
  | some c => rw [hc] at h; exact ⟨c, rfl, by simpa using h⟩
theorem bT_goodS : GoodS gS s f (bT l s f) := by
  intro x y face _ _ h1 h2 hx hy
  have hd := denB_iff (s := s) (bestTab_all l s f hs1 hs hf1 hf).2.1
  have e1 : partS (bT l s f) s (x + y) x (x + face) y = bT l s f (x + face) y := by unfold partS; rw [if_pos (by omega)]
  have e2 : partS (bT l s f) s (x + y) x x (y + face) = bT l s f x (y + face) := by unfold partS; rw [if_pos (by omega)]
  unfold gS
  rw [e1, e2]
  exact ⟨hd _ _, hd _ _⟩
end
/-- What a law of means tells. -/
def MeanOf (F : FuncId) (s f a b x y : Int) (ok : Bool) : Prop := ∀ w, Calls Try.prog F #[.int .i64 s, .int .i64 f, .int .i64 a, .int .i64 b] w fun e w' => e = .returned (.tuple #[.int .i64 x, .int .i64 y, .bool ok]) ∧ Below w.heap.size w w'

abbrev shortV : Value := .func (.func 55) #[] #[]
set_option maxRecDepth 100000 in
set_option maxHeartbeats 1000000 in
theorem bestPlan_no (s f a b : Int) (w : World) (hp : pairOk s f a b = false) :
    Calls Try.prog 41 #[.int .i64 s, .int .i64 f, .int .i64 a, .int .i64 b] w fun e w' => e = .returned (.tuple #[.agg Try.zeroCells82, .bool false]) ∧ Below w.heap.size w w' := by
  have HC := Lib.hid (fun W => planOf_no s f a b shortV W hp)
  clear hp
  go_enter Try.func41, Try.ntmps41
  go_wp2_with fail
  refine (HC.out _).mono ?_
  rintro e w2 ⟨rfl, hx⟩
  have k2 : w2.heap[w.heap.size]? = some (.cells Try.zeroCells82 82 (0, 0)) := (hx.block _ (by simp)).trans (heap_alloc_at _ _ _ rfl)
  have hb : Below w.heap.size w w2 := (below1 _ _).trans (hx.mono (by simp))
  go_wp2_with (refine wpList_store_row rfl 82 (.tmp 8) (.tmp 15) rfl w.heap.size rfl 82 Try.zeroCells82 Try.zeroCells82 rfl k2 ?_ ?_ planZero_one ?_; rfl; (rw [planZero_size]; exact sizePlan); intro w3 hC3 hg3 hs3)
  exact bodyPost_ret (v := .tuple #[.agg Try.zeroCells82, .bool false]) (results_cell_slot Try.results41 _ _ _ _ _ _ _ _ rfl rfl hC3 Try.underlying82 rfl (by rw [planZero_size]; exact sizePlan)) rfl
    ⟨rfl, hb.grown hg3 hb.size (fun k h => by cases h; omega)⟩
set_option maxRecDepth 100000 in
set_option maxHeartbeats 1000000 in
theorem bestPlan_yes (s f a b : Nat) (T : Tab) (hT : T = bT true s f) (w : World) (hp : pairOk s f a b = true) (hs1 : 1 ≤ s) (hs : s ≤ 6) (hf1 : 1 ≤ f) (hf : f ≤ 4) :
    Calls Try.prog 41 #[.int .i64 s, .int .i64 f, .int .i64 a, .int .i64 b] w fun e w' => e = .returned (.tuple #[.agg (planC s f shortV (allT T s)), .bool true]) ∧ Below w.heap.size w w' := by
  have hC := fun W => planOf_yes s f a b _ (chP true) shG (bT true s f) W hp short_rule short_enters short_le (bT_tab hs1 hs hf1 hf) (bT_good hs1 hs hf1 hf)
  rw [← hT] at hC
  have HC := Lib.hid hC
  clear hC hT hp hs1 hs hf1 hf
  go_enter Try.func41, Try.ntmps41
  go_wp2_with fail
  refine (HC.out _).mono ?_
  rintro e w2 ⟨rfl, hx⟩
  have k2 : w2.heap[w.heap.size]? = some (.cells Try.zeroCells82 82 (0, 0)) := (hx.block _ (by simp)).trans (heap_alloc_at _ _ _ rfl)
  have hb : Below w.heap.size w w2 := (below1 _ _).trans (hx.mono (by simp))
  go_wp2_with (refine wpList_store_row rfl 82 (.tmp 8) (.tmp 15) rfl w.heap.size rfl 82 Try.zeroCells82 (planC s f shortV (allT T s)) rfl k2 ?_ ?_ (planC_one _ _ _ _ rfl) ?_; (rw [planZero_size, planC_size]); (rw [planC_size]; exact sizePlan); intro w3 hC3 hg3 hs3)
  exact bodyPost_ret (v := .tuple #[.agg (planC s f shortV (allT T s)), .bool true]) (results_cell_slot Try.results41 _ _ _ _ _ _ _ _ rfl rfl hC3 Try.underlying82 rfl (by rw [planC_size]; exact sizePlan)) rfl
    ⟨rfl, hb.grown hg3 hb.size (fun k h => by cases h; omega)⟩

/-- What the rule asks holds of the whole table. -/
theorem bT_goodA {s f x y face : Nat} (hs1 : 1 ≤ s) (hs : s ≤ 6) (hf1 : 1 ≤ f) (hf : f ≤ 4) (h1 : 1 ≤ face) (h2 : face ≤ f) (hx : x + face ≤ s) (hy : y + face ≤ s) : shG (allT (bT true s f) s) x y face := by
  obtain ⟨c, h, h'⟩ := bT_good (l := true) hs1 hs hf1 hf x y face h1 h2 hx hy
  have e1 : ∀ P : Tab, (∀ u v, u ≤ s → v ≤ s → (x < u ∨ u = x ∧ y < v) → P u v = bT true s f u v) → behP P x y 1 face = bT true s f x (y + face) ∧ behP P x y 0 face = bT true s f (x + face) y := fun P hP => ⟨hP _ _ (by omega) hy (by omega), hP _ _ hx (by omega) (by omega)⟩
  have ep := e1 (partT (bT true s f) s x y) (fun u v hu hv h => by unfold partT; rw [if_pos ⟨hu, hv, h⟩])
  have ea := e1 (allT (bT true s f) s) (fun u v hu hv h => by unfold allT; rw [if_pos ⟨hu, hv⟩])
  unfold lessB at h'
  rw [ep.1, ep.2] at h h'
  refine ⟨c, ?_, ?_⟩
  · rw [ea.1, ea.2]; exact h
  · unfold lessB; rw [ea.1, ea.2]; exact h'
theorem allT_small {T : Tab} {s : Nat} (h : ∀ u v, (T u v).1 ≤ 10000000 ∧ (T u v).2 ≤ 10000000) (u v : Nat) : (allT T s u v).1 ≤ 10000000 ∧ (allT T s u v).2 ≤ 10000000 := by
  unfold allT
  split
  · exact h u v
  · exact ⟨by simp, by simp⟩
theorem movP_part {T : Tab} {s x y face : Nat} (h1 : 1 ≤ face) : movP chShort (partS T s (x + y) x) s x y face = movP chShort (allT T s) s x y face := by
  unfold movP
  by_cases hx : x + face ≤ s
  · by_cases hy : y + face ≤ s
    · rw [if_pos hx, if_pos hy, if_pos hx, if_pos hy]
      have p1 : behP (partS T s (x + y) x) x y 1 face = T x (y + face) := by unfold behP partS; rw [if_neg (by decide), if_pos (by omega)]
      have p0 : behP (partS T s (x + y) x) x y 0 face = T (x + face) y := by unfold behP partS; rw [if_pos rfl, if_pos (by omega)]
      have a1 : behP (allT T s) x y 1 face = T x (y + face) := by unfold behP allT; rw [if_neg (by decide), if_pos (by omega)]
      have a0 : behP (allT T s) x y 0 face = T (x + face) y := by unfold behP allT; rw [if_pos rfl, if_pos (by omega)]
      unfold chShort lessB
      rw [p1, p0, a1, a0]
    · rw [if_pos hx, if_neg hy, if_pos hx, if_neg hy]
  · rw [if_neg hx, if_neg hx]
end Go.Proofs.Ytmiefdjbhcpnbaa

namespace Go.Proofs.Ytmiefdjbhcpnbaa
open Go.RowKit

/-- Who moves, told as the functions do. -/
def moveR (s f a b face : Int) : Int × Bool :=
  if pairOk s f a b && inB face 1 f then
    match movP chShort (allT (bT true s.toNat f.toNat) s.toNat) s.toNat a.toNat b.toNat face.toNat with
    | some tok => ((tok : Int), true)
    | none => (0, false)
  else (0, false)
def PlainBack (w : World) (r : Int × Bool) (e : Ending) (w' : World) : Prop := e = .returned (.tuple #[.int .i64 r.1, .bool r.2]) ∧ Below w.heap.size w w'


theorem WhoS.at_ {w : World} {gw n f base : Nat} {D : Nat → Bool} {F : Nat → Nat → Int} (h : WhoS w gw n f base D F) {i k : Nat} (hi : i < n) (hd : D i = true) (hk : k < f) :
    ∃ b c, w.cell? ⟨gw, i, none⟩ = some (.slice (some ⟨b, 0, none⟩) f c) ∧ w.cell? ⟨b, k, none⟩ = some (.int .i64 (F i k)) := by
  obtain ⟨cs, V, h1, h2, h3, h4⟩ := h
  obtain ⟨b, c, e, hb', hr⟩ := h4 i hi hd
  exact ⟨b, c, by rw [← e]; exact (cell_of_row _ _ _ _ _ _ h1).trans (h3 i hi), hr.cell hk⟩
end Go.Proofs.Ytmiefdjbhcpnbaa

namespace Go.Proofs.Ytmiefdjbhcpnbaa

/-- The squares of both behind a face. -/
def stepO (m : Option Nat) (x y face : Nat) : Nat × Nat := match m with
  | some tok => if tok = 0 then (x + face, y) else (x, y + face)
  | none => (x, y)
def nextP (T : Tab) (s : Nat) (q : Nat × Nat) (face : Nat) : Nat × Nat := stepO (movP chShort T s q.1 q.2 face) q.1 q.2 face
/-- The squares of both, at first and behind each throw. -/
def pathP (T : Tab) (s : Nat) (q : Nat × Nat) : List Nat → List (Nat × Nat)
  | [] => [q]
  | face :: l => q :: pathP T s (nextP T s q face) l
def endP (T : Tab) (s : Nat) (q : Nat × Nat) (l : List Nat) : Nat × Nat := l.foldl (nextP T s) q
theorem nextP_le {T : Tab} {s : Nat} {q : Nat × Nat} {face : Nat} (h1 : q.1 ≤ s) (h2 : q.2 ≤ s) : (nextP T s q face).1 ≤ s ∧ (nextP T s q face).2 ≤ s := by
  unfold nextP stepO
  cases hm : movP chShort T s q.1 q.2 face with
  | none => exact ⟨h1, h2⟩
  | some tok =>
    unfold movP at hm
    simp only
    by_cases hx : q.1 + face ≤ s <;> by_cases hy : q.2 + face ≤ s
    · split <;> exact ⟨by simp; omega, by simp; omega⟩
    · rw [if_pos hx, if_neg hy] at hm; cases hm; exact ⟨hx, h2⟩
    · rw [if_neg hx, if_pos hy] at hm; cases hm; exact ⟨h1, hy⟩
    · rw [if_neg hx, if_neg hy] at hm; cases hm
theorem endP_snoc (T : Tab) (s : Nat) (q : Nat × Nat) (l : List Nat) (face : Nat) : endP T s q (l ++ [face]) = nextP T s (endP T s q l) face := by unfold endP; rw [List.foldl_append]; rfl
theorem pathP_snoc (T : Tab) (s : Nat) : ∀ (l : List Nat) (q : Nat × Nat) (face : Nat), pathP T s q (l ++ [face]) = pathP T s q l ++ [endP T s q (l ++ [face])]
  | [], _, _ => rfl
  | a :: l, q, face => by
    show q :: pathP T s (nextP T s q a) (l ++ [face]) = q :: (pathP T s (nextP T s q a) l ++ [endP T s (nextP T s q a) (l ++ [face])])
    rw [pathP_snoc T s l]
theorem pathP_len (T : Tab) (s : Nat) : ∀ (l : List Nat) (q : Nat × Nat), (pathP T s q l).length = l.length + 1
  | [], _ => rfl
  | a :: l, q => by show (pathP T s (nextP T s q a) l).length + 1 = _; rw [pathP_len T s l]; rfl
theorem endP_le {T : Tab} {s : Nat} : ∀ (l : List Nat) (q : Nat × Nat), q.1 ≤ s → q.2 ≤ s → (endP T s q l).1 ≤ s ∧ (endP T s q l).2 ≤ s
  | [], _, h1, h2 => ⟨h1, h2⟩
  | a :: l, q, h1, h2 => endP_le l (nextP T s q a) (nextP_le h1 h2).1 (nextP_le h1 h2).2
end Go.Proofs.Ytmiefdjbhcpnbaa

namespace Go.Proofs.Ytmiefdjbhcpnbaa
open Go.RowKit

set_option maxRecDepth 100000 in
set_option maxHeartbeats 2000000 in
theorem behindP_any (g s f x y face : Nat) (T : Tab) (w : World) (hP : PA w g 82 s f shortV T) (hT : ∀ u v, (T u v).1 ≤ 10000000 ∧ (T u v).2 ≤ 10000000) (hs : s ≤ 6) (hx : x ≤ s) (hy : y ≤ s) (hf1 : 1 ≤ face) (hf : face ≤ 4) (hG : x + face ≤ s → y + face ≤ s → shG T x y face) :
    Calls Try.prog 43 #[.pointer (some ⟨g, 0, none⟩), .agg #[.int .i64 x, .int .i64 y], .int .i64 face] w fun e w' => e = .returned (.agg #[.int .i64 ((nextP T s (x, y) face).1 : Nat), .int .i64 ((nextP T s (x, y) face).2 : Nat)]) ∧ Below w.heap.size w w' := by
  have hgl := hP.lt
  obtain ⟨m, hm⟩ : ∃ m, m = movP chShort T s x y face := ⟨_, rfl⟩
  obtain ⟨X, Y, hXY⟩ : ∃ X Y, (X, Y) = nextP T s (x, y) face := ⟨_, _, rfl⟩
  have hXY2 : (X, Y) = stepO m x y face := by rw [hXY, hm]; rfl
  rw [← hXY]
  show Calls _ _ _ w fun e w' => e = .returned (.agg #[.int .i64 (X : Nat), .int .i64 (Y : Nat)]) ∧ Below w.heap.size w w'
  have HM := Lib.hid (fun W h => mover_any g s f x y face _ chShort shG T W h short_rule short_enters hT hs hx hy hf1 (by omega) hG)
  rw [← hm] at HM
  have hB1 := below2 w (.cells #[.int .i64 (x : Int), .int .i64 (y : Int)] 56) (.cells #[.int .i64 0, .int .i64 0] 56)
  have kb1 : ((w.alloc (.cells #[.int .i64 (x : Int), .int .i64 (y : Int)] 56)).alloc (.cells #[.int .i64 0, .int .i64 0] 56)).heap[w.heap.size]? = some (.cells #[.int .i64 (x : Int), .int .i64 (y : Int)] 56 (0, 0)) := (Below.heap_alloc _ _ _ (by simp)).trans (heap_alloc_at _ _ _ rfl)
  have kr1 : ((w.alloc (.cells #[.int .i64 (x : Int), .int .i64 (y : Int)] 56)).alloc (.cells #[.int .i64 0, .int .i64 0] 56)).heap[w.heap.size + 1]? = some (.cells #[.int .i64 0, .int .i64 0] 56 (0, 0)) := heap_alloc_at _ _ _ (by simp)
  have P1 := (hP.alloc (.cells #[.int .i64 (x : Int), .int .i64 (y : Int)] 56)).alloc (.cells #[.int .i64 0, .int .i64 0] 56)
  obtain ⟨W1, hW1⟩ : ∃ W1, W1 = (w.alloc (.cells #[.int .i64 (x : Int), .int .i64 (y : Int)] 56)).alloc (.cells #[.int .i64 0, .int .i64 0] 56) := ⟨_, rfl⟩
  rw [← hW1] at hB1 kb1 kr1 P1
  have HW := Lib.hid hW1
  have HX := Lib.hid hXY2
  have hcase : m = none ∨ m = some 0 ∧ x + face ≤ s ∨ m = some 1 ∧ y + face ≤ s := by
    cases hmm : m with
    | none => exact .inl rfl
    | some tok =>
      rcases movP_cases (T := T) (ch := chShort) (fun x y face => short_le T x y face) (hm.symm.trans hmm) with ⟨rfl, h⟩ | ⟨rfl, h⟩
      · exact .inr (.inl ⟨rfl, h⟩)
      · exact .inr (.inr ⟨rfl, h⟩)
  have HMV0 := Lib.hid (fun W => moved0_any x y face W (by omega) (by omega))
  have HMV1 := Lib.hid (fun W => moved1_any x y face W (by omega) (by omega))
  clear hXY hXY2 hm hG hT hW1 hP
  have q1 := fun i => cell_of_row W1 w.heap.size i _ _ _ kb1
  rcases hcase with rfl | ⟨rfl, hc⟩ | ⟨rfl, hc⟩
  · have hv : (X, Y) = (x, y) := HX.out
    injection hv with e1 e2
    subst e1; subst e2
    go_enter Try.func43, Try.ntmps43
    go_wp2_with fail
    rw [← HW.out]
    refine (HM.out _ P1).mono ?_
    rintro e w3 ⟨rfl, hx3⟩
    have hB3 : Below w.heap.size w w3 := hB1.trans (hx3.mono hB1.size)
    have kb3 := (hx3.block _ (heap_lt kb1)).trans kb1
    have kr3 := (hx3.block _ (heap_lt kr1)).trans kr1
    have q3 := fun i => cell_of_row w3 w.heap.size i _ _ _ kb3
    have qr := fun i => cell_of_row w3 (w.heap.size + 1) i _ _ _ kr3
    have fr := fun i => frozen_row (i := i) kr3
    go_wp2
    exact bodyPost_ret (v := .agg #[.int .i64 (X : Nat), .int .i64 (Y : Nat)]) (by simp [results, Try.results43, go_sem, qr]) rfl ⟨rfl, (hB3.setCell (by simp) _).setCell (by simp) _⟩
  · have hv : (X, Y) = (x + face, y) := HX.out
    injection hv with e1 e2
    rw [← e1] at HMV0
    subst e2
    go_enter Try.func43, Try.ntmps43
    go_wp2_with fail
    rw [← HW.out]
    refine (HM.out _ P1).mono ?_
    rintro e w3 ⟨rfl, hx3⟩
    have hB3 : Below w.heap.size w w3 := hB1.trans (hx3.mono hB1.size)
    have kb3 := (hx3.block _ (heap_lt kb1)).trans kb1
    have kr3 := (hx3.block _ (heap_lt kr1)).trans kr1
    have q3 := fun i => cell_of_row w3 w.heap.size i _ _ _ kb3
    go_wp2_with (go_at_call 58; refine (HMV0.out _).mono ?_; rintro e w4 ⟨rfl, hx4⟩; have hB4 : Below w.heap.size w w4 := hB3.trans (hx4.mono hB3.size); have kr4 := (hx4.block _ (heap_lt kr3)).trans kr3; have qr := fun i => cell_of_row w4 (w.heap.size + 1) i _ _ _ kr4; have fr := fun i => frozen_row (i := i) kr4)
    exact bodyPost_ret (v := .agg #[.int .i64 (X : Nat), .int .i64 (Y : Nat)]) (by simp [results, Try.results43, go_sem, qr]; omega) rfl ⟨rfl, (hB4.setCell (by simp) _).setCell (by simp) _⟩
  · have hv : (X, Y) = (x, y + face) := HX.out
    injection hv with e1 e2
    rw [← e2] at HMV1
    subst e1
    go_enter Try.func43, Try.ntmps43
    go_wp2_with fail
    rw [← HW.out]
    refine (HM.out _ P1).mono ?_
    rintro e w3 ⟨rfl, hx3⟩
    have hB3 : Below w.heap.size w w3 := hB1.trans (hx3.mono hB1.size)
    have kb3 := (hx3.block _ (heap_lt kb1)).trans kb1
    have kr3 := (hx3.block _ (heap_lt kr1)).trans kr1
    have q3 := fun i => cell_of_row w3 w.heap.size i _ _ _ kb3
    go_wp2_with (go_at_call 58; refine (HMV1.out _).mono ?_; rintro e w4 ⟨rfl, hx4⟩; have hB4 : Below w.heap.size w w4 := hB3.trans (hx4.mono hB3.size); have kr4 := (hx4.block _ (heap_lt kr3)).trans kr3; have qr := fun i => cell_of_row w4 (w.heap.size + 1) i _ _ _ kr4; have fr := fun i => frozen_row (i := i) kr4)
    exact bodyPost_ret (v := .agg #[.int .i64 (X : Nat), .int .i64 (Y : Nat)]) (by simp [results, Try.results43, go_sem, qr]; omega) rfl ⟨rfl, (hB4.setCell (by simp) _).setCell (by simp) _⟩
end Go.Proofs.Ytmiefdjbhcpnbaa

namespace Go.Proofs.Ytmiefdjbhcpnbaa
open Go.RowKit

def throwsOkP (f : Int) (xs : List Int) : Bool := decide (xs.length ≤ 200) && xs.all (fun x => inB x 1 f)
set_option maxHeartbeats 400000 in
theorem l1All_pair (A : Option Addr) (c : Nat) (xs : List Int) (lo hi : Int) (w : World) (hj : RI w w.heap.size A xs) :
    Calls Try.prog 38 #[.slice A xs.length c, .int .i64 lo, .int .i64 hi] w fun e w' => e = .returned (.bool (xs.all (fun x => inB x lo hi))) ∧ w = w' := by
  have hl := hj.1
  go_enter Try.func38, Try.ntmps38
  go_wp2
  go_loop [11] (fun i => ∃ k : Nat, k ≤ xs.length ∧ i = .int .i64 k ∧ Hid (xs.all (fun x => inB x lo hi) = (xs.drop k).all (fun x => inB x lo hi))) (fun i => xs.length - (intOf i).toNat)
  case atStart => exact ⟨0, Nat.zero_le _, rfl, Lib.hid rfl⟩
  case round =>
    obtain ⟨k, hk, rfl, Hd⟩ := hrel
    by_cases hlt : k < xs.length
    · obtain ⟨b, off, rfl, hB, h1⟩ := hj.at_ (Below.refl _ _) hlt
      cases hp : inB xs[k] lo hi
      · have HP := Lib.hid hp
        go_wp2_with (go_at_call 33; refine (l1In_p _ _ _ _).mono ?_; rintro e w' ⟨rfl, rfl⟩)
        go_ret
        exact ⟨ret_bool (by rw [Hd.out, drop_step _ _ hlt, List.all_cons, HP.out, Bool.false_and]), rfl⟩
      · have HP := Lib.hid hp
        go_wp2_with (go_at_call 33; refine (l1In_p _ _ _ _).mono ?_; rintro e w' ⟨rfl, rfl⟩)
        go_round
        case rel => exact ⟨k + 1, by omega, by go_num, Lib.hid (by rw [Hd.out, drop_step _ _ hlt, List.all_cons, HP.out, Bool.true_and])⟩
        case measure => simp [intOf]; omega
    · go_wp2
      go_ret
      exact ⟨ret_bool (by rw [Hd.out, List.drop_eq_nil_of_le (by omega)]; rfl), rfl⟩

set_option maxHeartbeats 400000 in
theorem hasThrows_pair (g : Nat) (s f o : Int) (G : Nat → Int) (A : Option Addr) (c : Nat) (xs : List Int) (w : World) (hC : CV w g s f o G) (hx : RI w w.heap.size A xs) :
    Calls Try.prog 42 #[.pointer (some ⟨g, 0, none⟩), .slice A xs.length c] w fun e w' => e = .returned (.bool (throwsOkP f xs)) ∧ w = w' := by
  have hl := hx.1
  by_cases hn : xs.length ≤ 200
  · have hn' : ¬ (200 : Int) < xs.length := by omega
    have e : throwsOkP f xs = xs.all (fun x => inB x 1 f) := by simp [throwsOkP, hn]
    rw [e]
    go_enter Try.func42, Try.ntmps42
    go_wp2
    go_loop [12] (fun i => ∃ k : Nat, k ≤ xs.length ∧ i = .int .i64 k ∧ Hid (xs.all (fun x => inB x 1 f) = (xs.drop k).all (fun x => inB x 1 f))) (fun i => xs.length - (intOf i).toNat)
    case atStart => exact ⟨0, Nat.zero_le _, rfl, Lib.hid rfl⟩
    case round =>
      obtain ⟨k, hk, rfl, Hd⟩ := hrel
      by_cases hlt : k < xs.length
      · obtain ⟨b, off, rfl, hB, h1⟩ := hx.at_ (Below.refl _ _) hlt
        cases hp : inB xs[k] 1 f
        · have HP := Lib.hid hp
          go_wp2_with (go_at_call 56; refine (hasFace_any _ _ _ _ _ _ _ hC).mono ?_; rintro e w' ⟨rfl, rfl⟩)
          go_ret
          exact ⟨ret_bool (by rw [Hd.out, drop_step _ _ hlt, List.all_cons, HP.out, Bool.false_and]), rfl⟩
        · have HP := Lib.hid hp
          go_wp2_with (go_at_call 56; refine (hasFace_any _ _ _ _ _ _ _ hC).mono ?_; rintro e w' ⟨rfl, rfl⟩)
          go_round
          case rel => exact ⟨k + 1, by omega, by go_num, Lib.hid (by rw [Hd.out, drop_step _ _ hlt, List.all_cons, HP.out, Bool.true_and])⟩
          case measure => simp [intOf]; omega
      · go_wp2
        go_ret
        exact ⟨ret_bool (by rw [Hd.out, List.drop_eq_nil_of_le (by omega)]; rfl), rfl⟩
  · have hn' : (200 : Int) < xs.length := by omega
    have e : throwsOkP f xs = false := by simp [throwsOkP, hn]
    rw [e]
    go_enter Try.func42, Try.ntmps42
    go_wp2
    go_ret
    exact ⟨rfl, rfl⟩
/-- A pair, and throws of it. -/
def playOk (s f a b : Int) (xs : List Int) : Bool := pairOk s f a b && decide (xs.length ≤ 60) && xs.all (fun x => inB x 1 f)
set_option maxHeartbeats 400000 in
theorem oiThrows_any (s f a b : Int) (A : Option Addr) (c : Nat) (xs : List Int) (w : World) (hx : RI w w.heap.size A xs) :
    Calls Try.prog 27 #[.int .i64 s, .int .i64 f, .int .i64 a, .int .i64 b, .slice A xs.length c] w fun e w' => e = .returned (.bool (playOk s f a b xs)) ∧ w = w' := by
  obtain ⟨v, hv⟩ : ∃ v, v = playOk s f a b xs := ⟨_, rfl⟩
  rw [← hv]
  unfold playOk at hv
  obtain ⟨q, hq⟩ : ∃ q, q = xs.all (fun x => inB x 1 f) := ⟨_, rfl⟩
  have HALL := Lib.hid (fun (W : World) (h : RI W W.heap.size A xs) => l1All_pair A c xs 1 f W h)
  rw [← hq] at hv HALL
  have hl := hx.1
  cases h1 : pairOk s f a b
  · have HP := Lib.hid h1
    rw [h1] at hv
    have HV := Lib.hid hv
    clear h1 hv hq
    go_enter Try.func27, Try.ntmps27
    go_wp2_with (go_at_call 22; refine (oiGood_any _ _ _ _ _).mono ?_; rintro e w1 ⟨rfl, rfl⟩; rw [HP.out])
    go_ret
    exact ⟨ret_bool (by rw [HV.out]; simp), rfl⟩
  · have HP := Lib.hid h1
    rw [h1] at hv
    by_cases h2 : xs.length ≤ 60
    · have h2' : (xs.length : Int) ≤ 60 := by omega
      rw [decide_eq_true h2] at hv
      have HV := Lib.hid hv
      clear h1 hv hq
      go_enter Try.func27, Try.ntmps27
      go_wp2_with (first | (go_at_call 22; refine (oiGood_any _ _ _ _ _).mono ?_; rintro e w1 ⟨rfl, rfl⟩; rw [HP.out]) | (go_at_call 38; refine (HALL.out _ hx).mono ?_; rintro e w1 ⟨rfl, rfl⟩))
      go_ret
      exact ⟨ret_bool (by rw [HV.out]; simp), rfl⟩
    · have h2' : ¬ (xs.length : Int) ≤ 60 := by omega
      rw [decide_eq_false h2] at hv
      have HV := Lib.hid hv
      clear h1 hv hq
      go_enter Try.func27, Try.ntmps27
      go_wp2_with (go_at_call 22; refine (oiGood_any _ _ _ _ _).mono ?_; rintro e w1 ⟨rfl, rfl⟩; rw [HP.out])
      go_ret
      exact ⟨ret_bool (by rw [HV.out]; simp), rfl⟩
end Go.Proofs.Ytmiefdjbhcpnbaa

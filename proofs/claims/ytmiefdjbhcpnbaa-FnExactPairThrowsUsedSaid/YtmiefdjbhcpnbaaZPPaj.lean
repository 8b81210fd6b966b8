/- Several texts, one behind the other: M34 WPlan C5q. -/
import Derived.StillTailTactics
import Derived.BigRegion
import Derived.Test.YtmiefdjbhcpnbaaZPPac
import Derived.Test.YtmiefdjbhcpnbaaZPPaf
import Derived.Test.YtmiefdjbhcpnbaaZPPab
import Derived.Test.YtmiefdjbhcpnbaaZPPai
import Derived.Test.YtmiefdjbhcpnbaaZPPae

namespace Go.Proofs.Ytmiefdjbhcpnbaa

abbrev Tab := Nat → Nat → Fr
/-- The token that moves by a face; ch: who moves where both can. -/
def movP (ch : Tab → Nat → Nat → Nat → Nat) (T : Tab) (s x y face : Nat) : Option Nat :=
  if x + face ≤ s then (if y + face ≤ s then some (ch T x y face) else some 0) else if y + face ≤ s then some 1 else none
def behP (T : Tab) (x y tok face : Nat) : Fr := if tok = 0 then T (x + face) y else T x (y + face)
/-- The means behind the first k faces by which one moves. -/
def behL (ch : Tab → Nat → Nat → Nat → Nat) (T : Tab) (s x y : Nat) : Nat → List Fr
  | 0 => []
  | k + 1 => match movP ch T s x y (k + 1) with
    | some tok => behL ch T s x y k ++ [behP T x y tok (k + 1)]
    | none => behL ch T s x y k
theorem behL_len (ch : Tab → Nat → Nat → Nat → Nat) (T : Tab) (s x y : Nat) : ∀ k, (behL ch T s x y k).length ≤ k
  | 0 => by simp [behL]
  | k + 1 => by
    have := behL_len ch T s x y k
    unfold behL
    cases movP ch T s x y (k + 1) with
    | none => simp only; omega
    | some tok => simp only [List.length_append, List.length_singleton]; omega
/-- The sum that a mean is made of. -/
def totP (ch : Tab → Nat → Nat → Nat → Nat) (T : Tab) (s f x y : Nat) : Fr := sumF (redF f 1) (behL ch T s x y f)
def meanP (ch : Tab → Nat → Nat → Nat → Nat) (T : Tab) (s f x y : Nat) : Fr :=
  if x = s ∧ y = s then redF 0 1 else redF (totP ch T s f x y).1 ((totP ch T s f x y).2 * (behL ch T s x y f).length)
def okMean (ch : Tab → Nat → Nat → Nat → Nat) (T : Tab) (s f x y : Nat) : Bool :=
  if x = s ∧ y = s then true else okSum (redF f 1) (behL ch T s x y f) && decide ((totP ch T s f x y).1 ≤ 1000000000000000) && decide (1 ≤ (totP ch T s f x y).2 * (behL ch T s x y f).length) && decide ((totP ch T s f x y).2 * (behL ch T s x y f).length ≤ 1000000000000000)
/-- A table as far as it is made, the squares (x, y) next. -/
def partT (T : Tab) (s x y : Nat) : Tab := fun u v => if u ≤ s ∧ v ≤ s ∧ (x < u ∨ u = x ∧ y < v) then T u v else (0, 0)
/-- A whole table. -/
def allT (T : Tab) (s : Nat) : Tab := fun u v => if u ≤ s ∧ v ≤ s then T u v else (0, 0)
def setT (T : Tab) (x y : Nat) (p : Fr) : Tab := fun u v => if u = x ∧ v = y then p else T u v
theorem partT_start (T : Tab) (s : Nat) : partT T s s s = fun _ _ => (0, 0) := by
  funext u v
  unfold partT
  rw [if_neg (by omega)]
theorem partT_next (T : Tab) {s x y : Nat} (hx : x ≤ s) (hy : y + 1 ≤ s) : setT (partT T s x (y + 1)) x (y + 1) (T x (y + 1)) = partT T s x y := by
  funext u v
  unfold setT partT
  by_cases h : u = x ∧ v = y + 1
  · obtain ⟨rfl, rfl⟩ := h
    rw [if_pos ⟨rfl, rfl⟩, if_pos (by omega)]
  · rw [if_neg h]
    by_cases h2 : u ≤ s ∧ v ≤ s ∧ (x < u ∨ u = x ∧ y + 1 < v)
    · rw [if_pos h2, if_pos (by omega)]
    · rw [if_neg h2, if_neg (by omega)]
theorem partT_row (T : Tab) {s x : Nat} (hx : x + 1 ≤ s) : setT (partT T s (x + 1) 0) (x + 1) 0 (T (x + 1) 0) = partT T s x s := by
  funext u v
  unfold setT partT
  by_cases h : u = x + 1 ∧ v = 0
  · obtain ⟨rfl, rfl⟩ := h
    rw [if_pos ⟨rfl, rfl⟩, if_pos (by omega)]
  · rw [if_neg h]
    by_cases h2 : u ≤ s ∧ v ≤ s ∧ (x + 1 < u ∨ u = x + 1 ∧ 0 < v)
    · rw [if_pos h2, if_pos (by omega)]
    · rw [if_neg h2, if_neg (by omega)]
theorem partT_end (T : Tab) (s : Nat) : setT (partT T s 0 0) 0 0 (T 0 0) = allT T s := by
  funext u v
  unfold setT partT allT
  by_cases h : u = 0 ∧ v = 0
  · obtain ⟨rfl, rfl⟩ := h
    rw [if_pos ⟨rfl, rfl⟩, if_pos (by omega)]
  · rw [if_neg h]
    by_cases h2 : u ≤ s ∧ v ≤ s
    · rw [if_pos h2, if_pos (by omega)]
    · rw [if_neg h2, if_neg (by omega)]
/-- The table when k rows are made and j of the next one. -/
def tabAt (T : Tab) (s k j : Nat) : Tab := if s < k then allT T s else if j ≤ s then partT T s (s - k) (s - j) else if k < s then partT T s (s - k - 1) s else allT T s
theorem tabAt_start (T : Tab) (s : Nat) : tabAt T s 0 0 = fun _ _ => (0, 0) := by
  unfold tabAt
  rw [if_neg (by omega), if_pos (by omega)]
  exact partT_start T s
theorem tabAt_in (T : Tab) {s k j : Nat} (hk : k ≤ s) (hj : j ≤ s) : tabAt T s k j = partT T s (s - k) (s - j) := by
  unfold tabAt
  rw [if_neg (by omega), if_pos hj]
theorem tabAt_row (T : Tab) {s k : Nat} (hk : k ≤ s) : tabAt T s k (s + 1) = tabAt T s (k + 1) 0 := by
  unfold tabAt
  rw [if_neg (by omega), if_neg (by omega)]
  by_cases h : k < s
  · rw [if_pos h, if_neg (by omega), if_pos (by omega), Nat.sub_sub, Nat.sub_zero]
  · rw [if_neg h, if_pos (by omega)]
theorem tabAt_end (T : Tab) (s : Nat) : tabAt T s (s + 1) 0 = allT T s := by
  unfold tabAt
  rw [if_pos (by omega)]
theorem tabAt_step (T : Tab) {s k j : Nat} (hk : k ≤ s) (hj : j ≤ s) : setT (partT T s (s - k) (s - j)) (s - k) (s - j) (T (s - k) (s - j)) = tabAt T s k (j + 1) := by
  unfold tabAt
  rw [if_neg (by omega)]
  by_cases h1 : j + 1 ≤ s
  · rw [if_pos h1]
    have e := partT_next T (s := s) (x := s - k) (y := s - (j + 1)) (by omega) (by omega)
    rw [show s - (j + 1) + 1 = s - j by omega] at e
    exact e
  · rw [if_neg h1, show s - j = 0 by omega]
    by_cases h2 : k < s
    · rw [if_pos h2]
      have e := partT_row T (s := s) (x := s - k - 1) (by omega)
      rw [show s - k - 1 + 1 = s - k by omega] at e
      exact e
    · rw [if_neg h2, show s - k = 0 by omega]
      exact partT_end T s
theorem partT_small {T : Tab} {s : Nat} (h : ∀ u v, u ≤ s → v ≤ s → (T u v).1 ≤ 10000000 ∧ (T u v).2 ≤ 10000000) (x y : Nat) : ∀ u v, (partT T s x y u v).1 ≤ 10000000 ∧ (partT T s x y u v).2 ≤ 10000000 := by
  intro u v
  unfold partT
  split
  next hc => exact h u v hc.1 hc.2.1
  next => exact ⟨by simp, by simp⟩
end Go.Proofs.Ytmiefdjbhcpnbaa

namespace Go.Proofs.Ytmiefdjbhcpnbaa
open Go.RowKit

def meanV (T : Tab) (i : Nat) : Value := if i % 2 = 0 then .int .i64 ((T (i / 14) (i / 2 % 7)).1 : Nat) else .int .i64 ((T (i / 14) (i / 2 % 7)).2 : Nat)
def meanC (T : Tab) : Array Value := ((List.range 98).map (meanV T)).toArray
def planC (s f : Nat) (R : Value) (T : Tab) : Array Value := crsCells s f 0 (fun i => jumpOf [] i) ++ (#[R] ++ meanC T)
theorem meanC_size (T : Tab) : (meanC T).size = 98 := by simp [meanC]
theorem meanC_idx (T : Tab) {i : Nat} (hi : i < 98) : (meanC T)[i]? = some (meanV T i) := by simp [meanC, hi]
theorem planC_size (s f : Nat) (R : Value) (T : Tab) : (planC s f R T).size = 203 := by simp [planC, crs_size, meanC_size]
theorem planC_lt (s f : Nat) (R : Value) (T : Tab) {i : Nat} (hi : i < 104) : (planC s f R T)[i]? = (crsCells s f 0 (fun i => jumpOf [] i))[i]? := by
  unfold planC
  rw [Array.getElem?_append_left (by rw [crs_size]; exact hi)]
theorem planC_104 (s f : Nat) (R : Value) (T : Tab) : (planC s f R T)[104]? = some R := by
  unfold planC
  rw [Array.getElem?_append_right (by rw [crs_size]; omega), crs_size, Array.getElem?_append_left (by simp)]
  rfl
theorem planC_ge (s f : Nat) (R : Value) (T : Tab) {i : Nat} (hi : i < 98) : (planC s f R T)[105 + i]? = some (meanV T i) := by
  unfold planC
  rw [Array.getElem?_append_right (by rw [crs_size]; omega), crs_size, Array.getElem?_append_right (by simp; omega)]
  have e : 105 + i - 104 - (#[R] : Array Value).size = i := by simp; omega
  rw [e, meanC_idx T hi]
theorem planC_1 (s f : Nat) (R : Value) (T : Tab) {x y : Nat} (hx : x < 7) (hy : y < 7) : (planC s f R T)[105 + x * 14 + y * 2]? = some (.int .i64 ((T x y).1 : Nat)) := by
  rw [Nat.add_assoc, planC_ge s f R T (by omega)]
  unfold meanV
  rw [if_pos (by omega), show (x * 14 + y * 2) / 14 = x by omega, show (x * 14 + y * 2) / 2 % 7 = y by omega]
theorem planC_2 (s f : Nat) (R : Value) (T : Tab) {x y : Nat} (hx : x < 7) (hy : y < 7) : (planC s f R T)[105 + x * 14 + y * 2 + 1]? = some (.int .i64 ((T x y).2 : Nat)) := by
  rw [show 105 + x * 14 + y * 2 + 1 = 105 + (x * 14 + y * 2 + 1) by omega, planC_ge s f R T (by omega)]
  unfold meanV
  rw [if_neg (by omega), show (x * 14 + y * 2 + 1) / 14 = x by omega, show (x * 14 + y * 2 + 1) / 2 % 7 = y by omega]
theorem planC_one (s f : Nat) (R : Value) (T : Tab) (hR : R.oneCell' = true) : ∀ u ∈ (planC s f R T).toList, u.oneCell' = true := by
  intro u hu
  simp only [planC, Array.toList_append, List.mem_append] at hu
  rcases hu with hu | hu | hu
  · exact crs_one _ _ _ _ u hu
  · simp at hu; subst hu; exact hR
  · simp only [meanC, List.mem_map] at hu
    obtain ⟨i, _, rfl⟩ := hu
    unfold meanV
    split <;> rfl
theorem planC_set (s f : Nat) (R : Value) (T : Tab) {x y : Nat} (hx : x < 7) (hy : y < 7) (p : Fr) : ((planC s f R T).setIfInBounds (105 + x * 14 + y * 2) (.int .i64 (p.1 : Nat))).setIfInBounds (105 + x * 14 + y * 2 + 1) (.int .i64 (p.2 : Nat)) = planC s f R (setT T x y p) := by
  apply Array.ext_getElem?
  intro i
  rw [Array.getElem?_setIfInBounds, Array.getElem?_setIfInBounds, Array.size_setIfInBounds, planC_size]
  by_cases h2 : 105 + x * 14 + y * 2 + 1 = i
  · subst h2
    rw [if_pos rfl, if_pos (by omega), planC_2 _ _ _ _ hx hy]
    simp [setT]
  · rw [if_neg h2]
    by_cases h1 : 105 + x * 14 + y * 2 = i
    · subst h1
      rw [if_pos rfl, if_pos (by omega), planC_1 _ _ _ _ hx hy]
      simp [setT]
    · rw [if_neg h1]
      by_cases hi : i < 104
      · rw [planC_lt _ _ _ _ hi, planC_lt _ _ _ _ hi]
      · by_cases hi2 : i = 104
        · subst hi2; rw [planC_104, planC_104]
        · by_cases hi3 : i < 203
          · obtain ⟨j, rfl⟩ : ∃ j, i = 105 + j := ⟨i - 105, by omega⟩
            rw [planC_ge _ _ _ _ (by omega), planC_ge _ _ _ _ (by omega)]
            have hn : ¬ (j / 14 = x ∧ j / 2 % 7 = y) := by omega
            unfold meanV setT
            simp only [if_neg hn]
          · rw [Array.getElem?_eq_none (by rw [planC_size]; omega), Array.getElem?_eq_none (by rw [planC_size]; omega)]
/-- Block g is a plan. -/
def PA (w : World) (g : Nat) (t : TypeId) (s f : Nat) (R : Value) (T : Tab) : Prop := w.heap[g]? = some (.cells (planC s f R T) t (0, 0))
section
variable {w w' : World} {g B : Nat} {t : TypeId} {s f : Nat} {R : Value} {T : Tab}
theorem PA.lt (h : PA w g t s f R T) : g < w.heap.size := heap_lt h
theorem PA.below (h : PA w g t s f R T) (hb : Below B w w') (hg : g < B) : PA w' g t s f R T := (hb.block g hg).trans h
theorem PA.alloc (h : PA w g t s f R T) (o : Obj) : PA (w.alloc o) g t s f R T := (Below.heap_alloc w o g h.lt).trans h
theorem PA.grown {row : Option Nat} (h : PA w g t s f R T) (hg : w.grownBy w' row) (hne : some g ≠ row) : PA w' g t s f R T := (hg.block g h.lt hne).trans h
theorem PA.free (h : PA w g t s f R T) (i : Nat) : w.frozen? ⟨g, i, none⟩ = false := frozen_row h
theorem PA.sq (h : PA w g t s f R T) : w.cell? ⟨g, 0, none⟩ = some (.int .i64 s) := (cell_of_row _ _ _ _ _ _ h).trans ((planC_lt _ _ _ _ (by omega)).trans (crs_0 _ _ _ _))
theorem PA.fa (h : PA w g t s f R T) : w.cell? ⟨g, 1, none⟩ = some (.int .i64 f) := (cell_of_row _ _ _ _ _ _ h).trans ((planC_lt _ _ _ _ (by omega)).trans (crs_1 _ _ _ _))
theorem PA.rule (h : PA w g t s f R T) : w.cell? ⟨g, 104, none⟩ = some R := (cell_of_row _ _ _ _ _ _ h).trans (planC_104 _ _ _ _)
theorem PA.at1 (h : PA w g t s f R T) {x y : Nat} (hx : x < 7) (hy : y < 7) : w.cell? ⟨g, 105 + x * 14 + y * 2, none⟩ = some (.int .i64 ((T x y).1 : Nat)) := (cell_of_row _ _ _ _ _ _ h).trans (planC_1 _ _ _ _ hx hy)
theorem PA.at2 (h : PA w g t s f R T) {x y : Nat} (hx : x < 7) (hy : y < 7) : w.cell? ⟨g, 105 + x * 14 + y * 2 + 1, none⟩ = some (.int .i64 ((T x y).2 : Nat)) := (cell_of_row _ _ _ _ _ _ h).trans (planC_2 _ _ _ _ hx hy)
theorem PA.set (h : PA w g t s f R T) {x y : Nat} (hx : x < 7) (hy : y < 7) (p : Fr) : PA ((w.setCell ⟨g, 105 + x * 14 + y * 2, none⟩ (.int .i64 (p.1 : Nat))).setCell ⟨g, 105 + x * 14 + y * 2 + 1, none⟩ (.int .i64 (p.2 : Nat))) g t s f R (setT T x y p) := by
  have h1 := heap_set _ g (105 + x * 14 + y * 2 + 1) _ t (.int .i64 (p.2 : Nat)) (heap_set w g (105 + x * 14 + y * 2) _ t (.int .i64 (p.1 : Nat)) h)
  rw [planC_set s f R T hx hy p] at h1
  exact h1
end
end Go.Proofs.Ytmiefdjbhcpnbaa

namespace Go.Proofs.Ytmiefdjbhcpnbaa
open Go.RowKit

def chLead (_ : Tab) (x y _ : Nat) : Nat := if x < y then 1 else 0
def chFoll (_ : Tab) (x y _ : Nat) : Nat := if x < y then 0 else 1
/-- A rule's function tells who moves. -/
def RuleIs (F : FuncId) (ch : Tab → Nat → Nat → Nat → Nat) (G : Tab → Nat → Nat → Nat → Prop) : Prop :=
  ∀ (g s f x y face : Nat) (T : Tab) (W : World), PA W g 82 s f (.func (.func F) #[] #[]) T → s ≤ 6 → x + face ≤ s → y + face ≤ s → 1 ≤ face → (∀ u v, (T u v).1 ≤ 10000000 ∧ (T u v).2 ≤ 10000000) → G T x y face →
    Calls Try.prog F #[.pointer (some ⟨g, 0, none⟩), .agg #[.int .i64 x, .int .i64 y], .int .i64 face] W fun e w' => e = .returned (.int .i64 (ch T x y face : Nat)) ∧ Below W.heap.size W w'

def noG : Tab → Nat → Nat → Nat → Prop := fun _ _ _ _ => True

set_option maxRecDepth 100000 in
set_option maxHeartbeats 1000000 in
theorem meanBehind_any (g s f x y tok face : Nat) (R : Value) (T : Tab) (w : World) (hP : PA w g 82 s f R T) (hs : s ≤ 6) (hf : face ≤ 8) (ht : (tok = 0 ∧ x + face ≤ s ∧ y ≤ s) ∨ (tok = 1 ∧ y + face ≤ s ∧ x ≤ s)) :
    Calls Try.prog 63 #[.pointer (some ⟨g, 0, none⟩), .agg #[.int .i64 x, .int .i64 y], .int .i64 tok, .int .i64 face] w (FrBack w (behP T x y tok face)) := by
  have hgl := hP.lt
  obtain ⟨X, Y, hX, hY, hv, hmv⟩ : ∃ X Y : Nat, X ≤ s ∧ Y ≤ s ∧ behP T x y tok face = T X Y ∧ ∀ w, Calls Try.prog 58 #[.agg #[.int .i64 x, .int .i64 y], .int .i64 tok, .int .i64 face] w fun e w' => e = .returned (.agg #[.int .i64 X, .int .i64 Y]) ∧ Below w.heap.size w w' := by
    rcases ht with ⟨rfl, h1, h2⟩ | ⟨rfl, h1, h2⟩
    · exact ⟨x + face, y, h1, h2, rfl, fun w => moved0_any x y face w (by omega) hf⟩
    · exact ⟨x, y + face, h2, h1, rfl, fun w => moved1_any x y face w (by omega) hf⟩
  rw [hv]
  have HMV := Lib.hid hmv
  clear ht hv hmv
  go_enter Try.func63, Try.ntmps63
  go_wp2_with fail
  refine (HMV.out _).mono ?_
  rintro e w2 ⟨rfl, hx⟩
  have hb : Below w.heap.size w w2 := (below2 _ _ _).trans (hx.mono (by simp; omega))
  have kr : w2.heap[w.heap.size + 1]? = some (.cells #[.int .i64 0, .int .i64 0] 78 (0, 0)) := (hx.block _ (by simp)).trans (heap_alloc_at _ _ _ (by simp))
  have P2 := hP.below hb hgl
  have hzs : w.heap.size + 1 < w2.heap.size := heap_lt kr
  go_wp2_with fail
  obtain ⟨W, hW⟩ : ∃ W, W = w2.alloc (.cells #[.int .i64 (X : Int), .int .i64 (Y : Int)] 56) := ⟨_, rfl⟩
  have k9 : W.heap[w2.heap.size]? = some (.cells #[.int .i64 (X : Int), .int .i64 (Y : Int)] 56 (0, 0)) := by rw [hW]; exact heap_alloc_at _ _ _ rfl
  have kr3 : W.heap[w.heap.size + 1]? = some (.cells #[.int .i64 0, .int .i64 0] 78 (0, 0)) := by rw [hW]; exact (Below.heap_alloc _ _ _ hzs).trans kr
  have P3 : PA W g 82 s f R T := by rw [hW]; exact P2.alloc _
  have hB3 : Below w.heap.size w W := by rw [hW]; exact hb.alloc hb.size _
  rw [← hW]
  clear hW kr P2 hb hx
  have c1 := P3.at1 (show X < 7 by omega) (show Y < 7 by omega)
  have c2 := P3.at2 (show X < 7 by omega) (show Y < 7 by omega)
  have q9 := fun i => cell_of_row W w2.heap.size i _ _ _ k9
  have qr := fun i => cell_of_row W (w.heap.size + 1) i _ _ _ kr3
  have fr := fun i => frozen_row (i := i) kr3
  have b1 : (X : Int) < 7 := by omega
  have b2 : (Y : Int) < 7 := by omega
  have kend := heap2 W (w.heap.size + 1) _ _ (.int .i64 ((T X Y).1 : Nat)) (.int .i64 ((T X Y).2 : Nat)) _ kr3
  have qe := fun i => cell_of_row _ (w.heap.size + 1) i _ _ _ kend
  have HQE := Lib.hid qe
  clear kend qe
  go_region
  all_goals
    go_wp2
    have qe := HQE.out
    exact bodyPost_ret (v := .agg #[.int .i64 ((T X Y).1 : Nat), .int .i64 ((T X Y).2 : Nat)]) (by simp [results, Try.results63, go_sem, qr]) rfl ⟨rfl, ((hB3.setCell (by simp) _).setCell (by simp) _).drew⟩
end Go.Proofs.Ytmiefdjbhcpnbaa

/-
  Pairs: rules of a plan, who moves, the mean behind a move.
-/
import Derived.Test.YtblpfjjnlfjloaaC5n
import Derived.Test.YtblpfjjnlfjloaaC5p
import Derived.Test.YtblpfjjnlfjloaaWPlan
import Derived.StillTailTactics
import Derived.BigRegion
namespace Go.Proofs.Ytblpfjjnlfjloaa
open Go.RowKit

def chLead (_ : Tab) (x y _ : Nat) : Nat := if x < y then 1 else 0
def chFoll (_ : Tab) (x y _ : Nat) : Nat := if x < y then 0 else 1
/-- A rule's function tells who moves. -/
def RuleIs (F : FuncId) (ch : Tab → Nat → Nat → Nat → Nat) (G : Tab → Nat → Nat → Nat → Prop) : Prop :=
  ∀ (g s f x y face : Nat) (T : Tab) (W : World), PA W g 65 s f (.func (.func F) #[] #[]) T → s ≤ 6 → x + face ≤ s → y + face ≤ s → 1 ≤ face → (∀ u v, (T u v).1 ≤ 10000000 ∧ (T u v).2 ≤ 10000000) → G T x y face →
    Calls Try.prog F #[.pointer (some ⟨g, 0, none⟩), .agg #[.int .i64 x, .int .i64 y], .int .i64 face] W fun e w' => e = .returned (.int .i64 (ch T x y face : Nat)) ∧ Below W.heap.size W w'

theorem leader_any (p : Value) (x y face : Nat) (w : World) : Calls Try.prog 46 #[p, .agg #[.int .i64 x, .int .i64 y], .int .i64 face] w fun e w' => e = .returned (.int .i64 (if x < y then 1 else 0 : Nat)) ∧ Below w.heap.size w w' := by
  by_cases h : x < y
  · have h1 : (x : Int) < (y : Int) := by omega
    rw [if_pos h]
    go_enter Try.func46, Try.ntmps46
    go_wp2
    go_ret
    exact ⟨rfl, below1 _ _⟩
  · have h1 : ¬ (x : Int) < (y : Int) := by omega
    rw [if_neg h]
    go_enter Try.func46, Try.ntmps46
    go_wp2
    go_ret
    exact ⟨rfl, below1 _ _⟩
theorem follower_any (p : Value) (x y face : Nat) (w : World) : Calls Try.prog 47 #[p, .agg #[.int .i64 x, .int .i64 y], .int .i64 face] w fun e w' => e = .returned (.int .i64 (if x < y then 0 else 1 : Nat)) ∧ Below w.heap.size w w' := by
  by_cases h : x < y
  all_goals
    obtain ⟨n, hn⟩ : ∃ n : Nat, n = if x < y then 1 else 0 := ⟨_, rfl⟩
    obtain ⟨m, hm⟩ : ∃ m : Nat, m = if x < y then 0 else 1 := ⟨_, rfl⟩
    have hnm : IntKind.i64.wrap (1 - (n : Int)) = (m : Int) := by rw [hn, hm]; simp [h]; try rfl
    have hl := fun w => leader_any p x y face w
    rw [← hn] at hl
    rw [← hm]
    have HL := Lib.hid hl
    clear hn hm hl h
    go_enter Try.func47, Try.ntmps47
    go_wp2_with fail
    refine (HL.out _).mono ?_
    rintro e w2 ⟨rfl, hx⟩
    go_wp2
    go_ret
    exact ⟨rfl, (below1 _ _).trans (hx.mono (by simp))⟩
def noG : Tab → Nat → Nat → Nat → Prop := fun _ _ _ _ => True
theorem lead_rule : RuleIs 46 chLead noG := fun _ _ _ x y face _ W _ _ _ _ _ _ _ => leader_any _ x y face W
theorem foll_rule : RuleIs 47 chFoll noG := fun _ _ _ x y face _ W _ _ _ _ _ _ _ => follower_any _ x y face W

set_option maxRecDepth 100000 in
set_option maxHeartbeats 1000000 in
theorem meanBehind_any (g s f x y tok face : Nat) (R : Value) (T : Tab) (w : World) (hP : PA w g 65 s f R T) (hs : s ≤ 6) (hf : face ≤ 8) (ht : (tok = 0 ∧ x + face ≤ s ∧ y ≤ s) ∨ (tok = 1 ∧ y + face ≤ s ∧ x ≤ s)) :
    Calls Try.prog 54 #[.pointer (some ⟨g, 0, none⟩), .agg #[.int .i64 x, .int .i64 y], .int .i64 tok, .int .i64 face] w (FrBack w (behP T x y tok face)) := by
  have hgl := hP.lt
  obtain ⟨X, Y, hX, hY, hv, hmv⟩ : ∃ X Y : Nat, X ≤ s ∧ Y ≤ s ∧ behP T x y tok face = T X Y ∧ ∀ w, Calls Try.prog 70 #[.agg #[.int .i64 x, .int .i64 y], .int .i64 tok, .int .i64 face] w fun e w' => e = .returned (.agg #[.int .i64 X, .int .i64 Y]) ∧ Below w.heap.size w w' := by
    rcases ht with ⟨rfl, h1, h2⟩ | ⟨rfl, h1, h2⟩
    · exact ⟨x + face, y, h1, h2, rfl, fun w => moved0_any x y face w (by omega) hf⟩
    · exact ⟨x, y + face, h2, h1, rfl, fun w => moved1_any x y face w (by omega) hf⟩
  rw [hv]
  have HMV := Lib.hid hmv
  clear ht hv hmv
  go_enter Try.func54, Try.ntmps54
  go_wp2_with fail
  refine (HMV.out _).mono ?_
  rintro e w2 ⟨rfl, hx⟩
  have hb : Below w.heap.size w w2 := (below2 _ _ _).trans (hx.mono (by simp; omega))
  have kr : w2.heap[w.heap.size + 1]? = some (.cells #[.int .i64 0, .int .i64 0] 61 (0, 0)) := (hx.block _ (by simp)).trans (heap_alloc_at _ _ _ (by simp))
  have P2 := hP.below hb hgl
  have hzs : w.heap.size + 1 < w2.heap.size := heap_lt kr
  go_wp2_with fail
  obtain ⟨W, hW⟩ : ∃ W, W = w2.alloc (.cells #[.int .i64 (X : Int), .int .i64 (Y : Int)] 71) := ⟨_, rfl⟩
  have k9 : W.heap[w2.heap.size]? = some (.cells #[.int .i64 (X : Int), .int .i64 (Y : Int)] 71 (0, 0)) := by rw [hW]; exact heap_alloc_at _ _ _ rfl
  have kr3 : W.heap[w.heap.size + 1]? = some (.cells #[.int .i64 0, .int .i64 0] 61 (0, 0)) := by rw [hW]; exact (Below.heap_alloc _ _ _ hzs).trans kr
  have P3 : PA W g 65 s f R T := by rw [hW]; exact P2.alloc _
  have hB3 : Below w.heap.size w W := by rw [hW]; exact hb.alloc hb.size _
  rw [← hW]
  clear hW kr P2 hb hx
  have c1 := P3.at1 (show X < 7 by omega) (show Y < 7 by omega)
  have c2 := P3.at2 (show X < 7 by omega) (show Y < 7 by omega)
  have q9 := fun i => cell_of_row W w2.heap.size i _ _ _ k9
  have qr := fun i => cell_of_row W (w.heap.size + 1) i _ _ _ kr3
  have fr := fun i => frozen_row (i := i) kr3
  have b1 : (X : Int) < 7 := by omega
  have b2 : (Y : Int) < 7 := by omega
  have kend := heap2 W (w.heap.size + 1) _ _ (.int .i64 ((T X Y).1 : Nat)) (.int .i64 ((T X Y).2 : Nat)) _ kr3
  have qe := fun i => cell_of_row _ (w.heap.size + 1) i _ _ _ kend
  have HQE := Lib.hid qe
  clear kend qe
  go_region
  all_goals
    go_wp2
    have qe := HQE.out
    exact bodyPost_ret (v := .agg #[.int .i64 ((T X Y).1 : Nat), .int .i64 ((T X Y).2 : Nat)]) (by simp [results, Try.results54, go_sem, qr]) rfl ⟨rfl, ((hB3.setCell (by simp) _).setCell (by simp) _).drew⟩
end Go.Proofs.Ytblpfjjnlfjloaa

/-
  Pairs: the token that moves by a face, by a plan.
-/
import Derived.Test.YtblpfjjnlfjloaaC5q
namespace Go.Proofs.Ytblpfjjnlfjloaa
open Go.RowKit

theorem movK_nat (s x y face : Nat) : movK (s : Int) (x : Int) (y : Int) (face : Int) 2 = (if x + face ≤ s then [0] else []) ++ (if y + face ≤ s then [1] else []) := by
  have e1 : ((x : Int) + (face : Int) ≤ (s : Int)) ↔ x + face ≤ s := by omega
  have e2 : ((y : Int) + (face : Int) ≤ (s : Int)) ↔ y + face ≤ s := by omega
  simp [movK, e1, e2]
theorem PA.cv {w : World} {g : Nat} {t : TypeId} {s f : Nat} {R : Value} {T : Tab} (h : PA w g t s f R T) : CV w g s f 0 (fun i => jumpOf [] i) :=
  ⟨(cell_of_row _ _ _ _ _ _ h).trans ((planC_lt _ _ _ _ (by omega)).trans (crs_0 _ _ _ _)), (cell_of_row _ _ _ _ _ _ h).trans ((planC_lt _ _ _ _ (by omega)).trans (crs_1 _ _ _ _)), (cell_of_row _ _ _ _ _ _ h).trans ((planC_lt _ _ _ _ (by omega)).trans (crs_2 _ _ _ _)), fun hi => (cell_of_row _ _ _ _ _ _ h).trans ((planC_lt _ _ _ _ (by omega)).trans (crs_at _ _ _ _ _ hi))⟩
/-- A rule's function is entered by its value. -/
def EntersF (F : FuncId) : Prop := ∀ args w, (callFunc F args).run Try.prog w = .ok (.enter F args) w

set_option maxRecDepth 100000 in
set_option maxHeartbeats 2000000 in
theorem mover_any (g s f x y face : Nat) (F : FuncId) (ch : Tab → Nat → Nat → Nat → Nat) (G : Tab → Nat → Nat → Nat → Prop) (T : Tab) (w : World) (hP : PA w g 65 s f (.func (.func F) #[] #[]) T) (hR : RuleIs F ch G) (hE : EntersF F) (hT : ∀ u v, (T u v).1 ≤ 10000000 ∧ (T u v).2 ≤ 10000000) (hs : s ≤ 6) (hx : x ≤ s) (hy : y ≤ s) (hf1 : 1 ≤ face) (hf : face ≤ 8) (hG : x + face ≤ s → y + face ≤ s → G T x y face) :
    Calls Try.prog 45 #[.pointer (some ⟨g, 0, none⟩), .agg #[.int .i64 x, .int .i64 y], .int .i64 face] w fun e w' => e = .returned (.tuple #[.int .i64 ((movP ch T s x y face).getD 0 : Nat), .bool (movP ch T s x y face).isSome]) ∧ Below w.heap.size w w' := by
  have hgl := hP.lt
  have hB1 := below1 w (.cells #[.int .i64 (x : Int), .int .i64 (y : Int)] 71)
  have kb1 : (w.alloc (.cells #[.int .i64 (x : Int), .int .i64 (y : Int)] 71)).heap[w.heap.size]? = some (.cells #[.int .i64 (x : Int), .int .i64 (y : Int)] 71 (0, 0)) := heap_alloc_at _ _ _ rfl
  have P1 := hP.alloc (.cells #[.int .i64 (x : Int), .int .i64 (y : Int)] 71)
  have HE := hE
  unfold EntersF at HE
  have HR := Lib.hid hR
  obtain ⟨L, hL⟩ : ∃ L, L = movK (s : Int) (x : Int) (y : Int) (face : Int) 2 := ⟨_, rfl⟩
  have hLn := movK_nat s x y face
  rw [← hL] at hLn
  have HLN := Lib.hid hLn
  have HL := Lib.hid hL
  have hlen2 : L.length ≤ 2 := by rw [hL]; exact movK_len _ _ _ _ _
  obtain ⟨m, hm0⟩ : ∃ m, m = movP ch T s x y face := ⟨_, rfl⟩
  rw [← hm0]
  have HM0 := Lib.hid hm0
  have HG := Lib.hid hG
  clear hE hR hL hLn hm0 hG
  go_enter Try.func45, Try.ntmps45
  go_wp2_with fail
  obtain ⟨W1, hW1⟩ : ∃ W1, W1 = w.alloc (.cells #[.int .i64 (x : Int), .int .i64 (y : Int)] 71) := ⟨_, rfl⟩
  rw [← hW1] at hB1 kb1 P1 ⊢
  have q1 := fun i => cell_of_row W1 w.heap.size i _ _ _ kb1
  clear hW1
  go_still_tail 5, (by kernel_rfl)
  change wpList _ _ _ _ _ W1.drew
  obtain ⟨W2, hW2⟩ : ∃ W2, W2 = W1.drew := ⟨_, rfl⟩
  have hB2 : Below w.heap.size w W2 := by rw [hW2]; exact hB1.drew
  have kb2 : W2.heap[w.heap.size]? = some (.cells #[.int .i64 (x : Int), .int .i64 (y : Int)] 71 (0, 0)) := by rw [hW2]; exact kb1
  have P2 : PA W2 g 65 s f (.func (.func F) #[] #[]) T := by rw [hW2]; exact P1
  rw [← hW2]
  clear hW2 q1 kb1 P1 hB1
  go_wp2_with fail
  refine (movers_any g s f 0 _ x y face _ P2.cv (by omega) (by omega) (by omega) (by omega) (by omega) (by omega)).mono ?_
  rintro e w3 ⟨A, c, rfl, ho, hx3⟩
  rw [← HL.out] at ho ⊢
  have hB3 := hB2.trans (hx3.mono hB2.size)
  have kb3 := (hx3.block _ (heap_lt kb2)).trans kb2
  have P3 := P2.below hx3 P2.lt
  have q3 := fun i => cell_of_row w3 w.heap.size i _ _ _ kb3
  clear hx3 kb2 P2 hB2
  by_cases h1 : x + face ≤ s
  · by_cases h2 : y + face ≤ s
    · have hm : movP ch T s x y face = some (ch T x y face) := by unfold movP; rw [if_pos h1, if_pos h2]
      have HM := Lib.hid hm
      have hLe : L = [0, 1] := by rw [HLN.out, if_pos h1, if_pos h2]; rfl
      clear hm
      subst hLe
      have cr := P3.rule
      have hrun := fun W hW => HR.out g s f x y face T W hW hs h1 h2 hf1 hT (HG.out h1 h2)
      have HRUN := Lib.hid hrun
      clear hrun h1 h2
      go_wp2_with fail
      go_still_tail 7, (by kernel_rfl)
      change wpList _ _ _ _ _ w3.drew
      obtain ⟨W4, hW4⟩ : ∃ W4, W4 = w3.drew := ⟨_, rfl⟩
      have hB4 : Below w.heap.size w W4 := by rw [hW4]; exact hB3.drew
      have P4 : PA W4 g 65 s f (.func (.func F) #[] #[]) T := by rw [hW4]; exact P3
      rw [← hW4]
      clear hW4 q3 kb3 P3 hB3 cr
      go_wp2_with fail
      refine (HRUN.out _ P4).mono ?_
      rintro e w5 ⟨rfl, hx5⟩
      go_wp2
      go_ret2
      exact ⟨by rw [HM0.out, HM.out]; rfl, hB4.trans (hx5.mono hB4.size)⟩
    · have hm : movP ch T s x y face = some 0 := by unfold movP; rw [if_pos h1, if_neg h2]
      have HM := Lib.hid hm
      have hLe : L = [0] := by rw [HLN.out, if_pos h1, if_neg h2]; rfl
      clear hm
      subst hLe
      obtain ⟨gt, rfl, hlo, hr⟩ := ho.get (show 0 < ([0] : List Int).length by simp)
      have ct : w3.cell? ⟨gt, 0, none⟩ = some (.int .i64 0) := hr.cell (by simp)
      clear h1 h2
      go_wp2
      go_ret2
      exact ⟨by rw [HM0.out, HM.out]; rfl, hB3⟩
  · by_cases h2 : y + face ≤ s
    · have hm : movP ch T s x y face = some 1 := by unfold movP; rw [if_neg h1, if_pos h2]
      have HM := Lib.hid hm
      have hLe : L = [1] := by rw [HLN.out, if_neg h1, if_pos h2]; rfl
      clear hm
      subst hLe
      obtain ⟨gt, rfl, hlo, hr⟩ := ho.get (show 0 < ([1] : List Int).length by simp)
      have ct : w3.cell? ⟨gt, 0, none⟩ = some (.int .i64 1) := hr.cell (by simp)
      clear h1 h2
      go_wp2
      go_ret2
      exact ⟨by rw [HM0.out, HM.out]; rfl, hB3⟩
    · have hm : movP ch T s x y face = none := by unfold movP; rw [if_neg h1, if_neg h2]
      have HM := Lib.hid hm
      have hLe : L = [] := by rw [HLN.out, if_neg h1, if_neg h2]; rfl
      clear hm
      subst hLe
      clear h1 h2
      go_wp2
      go_ret2
      exact ⟨by rw [HM0.out, HM.out]; rfl, hB3⟩
end Go.Proofs.Ytblpfjjnlfjloaa

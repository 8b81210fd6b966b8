/-
  Dice: the sum of kept dice, and what sums tells.
-/
import Derived.Test.YtblpfjjnlfjloabC6b
import Derived.StillTailTactics
namespace Go.Proofs.Ytblpfjjnlfjloab
open Go.RowKit

theorem grown_drewD {w w' : World} {row : Option Nat} (h : w.grownBy w' row) : w.grownBy w'.drew row := ⟨h.os, h.tape, h.output, h.size, h.block⟩
theorem keptSum_succ (t : List Nat) (k : Nat) : (t.take (k + 1)).sum = (t.take k).sum + gt t k := by
  rcases Nat.lt_or_ge k t.length with h | h
  · rw [gt_take t k h]; simp
  · rw [List.take_of_length_le (by omega), List.take_of_length_le h, gt_over t k h]; omega

set_option maxRecDepth 100000 in
theorem sumClo_any (g kept f : Nat) (t : List Nat) (w : World) (hk : kept ≤ 8) (hf : f ≤ 12) (hg : ∀ i, gt t i ≤ f) (hc : ∀ i, i < kept → w.cell? ⟨g, i, none⟩ = some (.int .i64 (gt t i))) :
    Calls Try.prog 56 #[.slice (some ⟨g, 0, none⟩) kept kept] w fun e w' => e = .returned (.int .i64 ((t.take kept).sum : Nat)) ∧ w = w' := by
  have HC := Lib.hid hc; have HG := Lib.hid hg
  clear hc hg
  go_enter Try.func56, Try.ntmps56
  go_wp2_with fail
  go_loop [3, 5, 8] (fun v _ i => ∃ k S : Nat, k ≤ kept ∧ i = .int .i64 k ∧ v = .int .i64 S ∧ S = (t.take k).sum ∧ S ≤ k * 12) (fun _ _ i => kept - (intOf i).toNat)
  case atStart => exact ⟨0, 0, Nat.zero_le _, rfl, rfl, by simp, by omega⟩
  case round =>
    obtain ⟨k, S, hk2, rfl, rfl, hS, hS2⟩ := hrel
    by_cases hlt : k < kept
    · have c1 := HC.out k hlt
      have g1 := HG.out k
      have hs := keptSum_succ t k
      rw [← hS] at hs
      obtain ⟨a, ha⟩ : ∃ a, a = gt t k := ⟨_, rfl⟩
      rw [← ha] at c1 g1 hs
      have HS := Lib.hid hs
      have hS3 : S ≤ 96 := by omega
      clear hS hs ha
      go_wp2
      go_round
      case rel => exact ⟨k + 1, S + a, by omega, by go_num, by go_num, HS.out.symm, by omega⟩
      case measure => simp [intOf]; omega
    · obtain rfl : k = kept := by omega
      have HS := Lib.hid hS
      clear hS
      go_wp2
      go_ret
      exact ⟨ret_int (by rw [HS.out]), rfl⟩

set_option maxRecDepth 100000 in
set_option maxHeartbeats 1000000 in
theorem sumsTell_any (gs gf gk gr d f kept n o : Nat) (t : List Nat) (F : Nat → Int) (w : World) (hk : kept ≤ d) (hd : d ≤ 8) (hf : f ≤ 12) (ht : t ∈ ups d f) (hn : kept * f + 1 = n) (ho : o ≤ 40320)
    (cs : w.cell? ⟨gs, 0, none⟩ = some (.slice (some ⟨gr, 0, none⟩) n n)) (cf : w.cell? ⟨gf, 0, none⟩ = some (.func (.func 56) #[] #[])) (ck : w.cell? ⟨gk, 0, none⟩ = some (.int .i64 kept))
    (hR : RowI w gr 3 n F) (hF : ∀ i < n, 0 ≤ F i ∧ F i ≤ 1000000000) :
    Calls Try.prog 58 #[.agg (thC (gt t)), .int .i64 o, .pointer (some ⟨gs, 0, none⟩), .pointer (some ⟨gf, 0, none⟩), .pointer (some ⟨gk, 0, none⟩)] w fun e w' =>
      e = .returned (.tuple #[]) ∧ RowI w' gr 3 n (fun i => if i = (t.take kept).sum then F i + o else F i) ∧ w.grownBy w' (some gr) := by
  have hlt : (t.take kept).sum < n := by have := kept_le d f kept hk t ht; omega
  obtain ⟨s, hs⟩ : ∃ s, s = (t.take kept).sum := ⟨_, rfl⟩
  rw [← hs] at hlt ⊢
  have lgs := cell_lt cs
  have lgf := cell_lt cf
  have lgk := cell_lt ck
  have lgr := hR.lt
  have hFs := hF s hlt
  obtain ⟨W, hW⟩ : ∃ W, W = w.alloc (.cells (thC (gt t)) 57) := ⟨_, rfl⟩
  have kb : TA W w.heap.size 57 (gt t) := by rw [hW]; exact heap_alloc_at _ _ _ rfl
  have hB : Below w.heap.size w W := by rw [hW]; exact below1 _ _
  have c1 := (bcell hB lgs).trans cs
  have c2 := (bcell hB lgf).trans cf
  have c3 := (bcell hB lgk).trans ck
  have hR1 := hR.below hB lgr
  have c4 := hR1.cell hlt
  have f4 := hR1.free s
  have HW := Lib.hid hW
  have hk8 : kept ≤ 8 := by omega
  have hkk : (kept : Int) ≤ 8 := by omega
  have hsn : (s : Int) < (n : Int) := by omega
  have hs0 : (0 : Int) ≤ (s : Int) := by omega
  obtain ⟨v, hv⟩ : ∃ v, v = F s := ⟨_, rfl⟩
  rw [← hv] at c4 hFs
  have hwv : IntKind.i64.wrap (v + (o : Int)) = v + o := IntWalk.i64_in _ (by omega)
  have hsum := fun W => sumClo_any w.heap.size kept f t W hk8 hf (gt_le ht)
  rw [← hs] at hsum
  have HSUM := Lib.hid hsum
  have HV := Lib.hid hv
  clear hW cs cf ck hF hn hs hsum hv
  go_enter Try.func58, Try.ntmps58
  go_wp2_with fail
  rw [← HW.out]
  have c5 : ∀ i, i < kept → W.cell? ⟨w.heap.size, i, none⟩ = some (.int .i64 (gt t i)) := fun i hi => kb.at_ (by omega)
  have C5 := Lib.hid c5
  clear c5
  refine wp_region_still_tail 11 (by kernel_rfl) (by kernel_rfl) ?_
  simp only [List.take_succ_cons, List.take_zero, List.drop_succ_cons, List.drop_zero]
  still_step
  still_step
  still_step
  still_step
  still_step
  still_call ((HSUM.out W.drew C5.out).mono (fun _ _ h => ⟨h.1, h.2.symm⟩))
  still_step
  still_step
  still_step
  still_step
  still_step
  refine wpStill_nil ?_
  change wpList _ _ _ _ _ W.drew
  have hz := hR1.lt
  go_wp2
  go_end0
  exact ⟨rfl, (hR1.set hlt (v + o)).drew.congr (h' := fun i => if i = s then F i + (o : Int) else F i) (fun i _ => by
    by_cases e : i = s
    · rw [if_pos e, if_pos e, e, HV.out]
    · rw [if_neg e, if_neg e]), grown_drewD (grown_setCell (below_grown hB _) _ _ rfl)⟩
end Go.Proofs.Ytblpfjjnlfjloab

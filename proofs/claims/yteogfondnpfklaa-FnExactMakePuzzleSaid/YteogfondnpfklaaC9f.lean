/-
  Puzzles: clues without one, on both sides.
-/
import Derived.Test.YteogfondnpfklaaC9a
import Derived.Test.YteogfondnpfklaaWAppQ
import Derived.Test.YteogfondnpfklaaWReg
namespace Go.Proofs.Yteogfondnpfklaa
open Go.RowKit

theorem infoClueW : (Try.prog.info? 44).map (fun i => (i.zero, i.size, i.bytes)) = some (some (.agg #[.int .i64 0, .int .i64 0, .int .i64 0, .int .i64 0]), 4, 32) := by kernel_rfl
theorem slice_iteQ (c k b x y n m : Nat) : Value.slice (if c = k then some ⟨b, x, none⟩ else some ⟨b, y, none⟩) n m = .slice (some ⟨b, if c = k then x else y, none⟩) n m := by split <;> rfl
/-- The clues but the k-th. -/
def dropQ (L : List Qd) (k : Nat) : List Qd := L.take k ++ L.drop (k + 1)
theorem dropQ_len {L : List Qd} {k : Nat} (h : k < L.length) : (dropQ L k).length = L.length - 1 := by simp [dropQ]; omega
theorem RQ.front {w : World} {B b off : Nat} {L : List Qd} (h : RQ w B (some ⟨b, off, none⟩) L) (k : Nat) (hk : k ≤ L.length) : RQ w B (some ⟨b, off, none⟩) (L.take k) := by
  have := h.part rfl 0 k (by omega)
  simpa using this
theorem RQ.behind {w : World} {B b off c : Nat} {L : List Qd} (h : RQ w B (some ⟨b, off, none⟩) L) (k : Nat) (hk : k ≤ L.length) (hc : L.length ≤ c) : RQ w B (some ⟨b, if c = k then off else off + k * 4, none⟩) (L.drop k) := by
  by_cases e : c = k
  · rw [if_pos e]
    refine ⟨by have := h.1; simp; omega, .inl (List.drop_eq_nil_of_le (by omega))⟩
  · rw [if_neg e]
    have := h.part rfl k (L.length - k) (by omega)
    rwa [List.take_of_length_le (by simp)] at this

/-- A slice of clues that the call made. -/
def QBack (E : List Qd) (w : World) (e : Ending) (w' : World) : Prop := ∃ A' c', e = .returned (.slice A' E.length c') ∧ OQ w' w.heap.size 44 A' E.length (fun i => E.getD i zeroQ) ∧ Below w.heap.size w w' ∧ E.length ≤ c'
/-- A slice of clues that reads so. -/
def QRead (E : List Qd) (w : World) (e : Ending) (w' : World) : Prop := ∃ A' c', e = .returned (.slice A' E.length c') ∧ RQ w' w'.heap.size A' E ∧ Below w.heap.size w w' ∧ E.length ≤ c'
theorem own_back {w w' : World} {v : Value} {n : Nat} {E : List Qd} (h : w'.ownsRow w.heap.size 44 4 v n (flatQ E)) (hn : E.length = n) (hb : Below w.heap.size w w') : QBack E w (.returned v) w' := by
  obtain ⟨A, c, rfl, hc⟩ := own_sliceQ h
  obtain ⟨A2, c2, e, hO⟩ := own_oq h hn
  injection e with e1 _ _
  subst e1
  exact ⟨A, c, by rw [hn], hO, hb, by omega⟩

set_option maxRecDepth 100000 in
set_option maxHeartbeats 1000000 in
theorem pzWithout_any (b off c k : Nat) (L : List Qd) (w : World) (hL : RQ w w.heap.size (some ⟨b, off, none⟩) L) (hk : k < L.length) (hc : L.length ≤ c) :
    Calls Try.prog 70 #[.slice (some ⟨b, off, none⟩) L.length c, .int .i64 (k : Int)] w (QBack (dropQ L k) w) := by
  have hl := hL.1
  obtain ⟨i0, hi, hz0, hz1, hz2⟩ := info_parts infoClueW
  have hk1 : k ≤ c := by omega
  have i2 : (k : Int) + 1 ≤ (c : Int) := by omega
  have i3 : (k : Int) + 1 ≤ (L.length : Int) := by omega
  have i4 : (k : Int) ≤ (c : Int) := by omega
  have i6 : (0 : Int) ≤ (k : Int) + 1 := by omega
  have i5 : IntKind.i64.wrap ((k : Int) + 1) = (k : Int) + 1 := IntWalk.i64_in _ (by omega)
  have hdl := dropQ_len hk
  have HDL := Lib.hid hdl
  clear hdl
  go_enter Try.func70, Try.ntmps70
  go_wp2_with fail
  refine wp_region_held_drew (S := (fun _ => True)) (by kernel_rfl) trivial (fun hS => ?_)
  refine wpAnyH_take (i := 1) (oi := ⟨some 6, _, _, _, _, _⟩) (v := ?vwa1) rfl (by kernel_rfl) (by kernel_rfl) (by kernel_rfl) (fun _ _ _ h => h) (Or.inl ⟨by rfl, ?hwa1⟩) hS ?rwa1
  case hwa1 => (intro w' hSw; (try dsimp only at hSw); go_simp; (try with_reducible rfl))
  try simp only [Act.put, List.setIfInBounds_toArray, List.set_cons_zero, List.set_cons_succ]
  refine wpAnyH_take (i := 2) (oi := ⟨some 7, _, _, _, _, _⟩) (v := ?vwa2) rfl (by kernel_rfl) (by kernel_rfl) (by kernel_rfl) (fun _ _ _ h => h) (Or.inl ⟨by rfl, ?hwa2⟩) hS ?rwa2
  case hwa2 => (intro w' hSw; (try dsimp only at hSw); go_simp; (try with_reducible rfl))
  try simp only [Act.put, List.setIfInBounds_toArray, List.set_cons_zero, List.set_cons_succ]
  refine wpAnyH_take (i := 3) (oi := ⟨some 8, _, _, _, _, _⟩) (v := ?vwa3) rfl (by kernel_rfl) (by kernel_rfl) (by kernel_rfl) (fun _ _ _ h => h) (Or.inl ⟨by rfl, ?hwa3⟩) hS ?rwa3
  case hwa3 => (intro w' hSw; (try dsimp only at hSw); go_simp; (try with_reducible rfl))
  try simp only [Act.put, List.setIfInBounds_toArray, List.set_cons_zero, List.set_cons_succ]
  refine wpAnyH_take (i := 5) (oi := ⟨some 10, _, _, _, _, _⟩) (v := ?vwa4) rfl (by kernel_rfl) (by kernel_rfl) (by kernel_rfl) (fun _ _ _ h => h) (Or.inl ⟨by rfl, ?hwa4⟩) hS ?rwa4
  case hwa4 => (intro w' hSw; (try dsimp only at hSw); go_simp; (try with_reducible rfl))
  try simp only [Act.put, List.setIfInBounds_toArray, List.set_cons_zero, List.set_cons_succ]
  refine wpAnyH_take (i := 6) (oi := ⟨some 11, _, _, _, _, _⟩) (v := ?vwa5) rfl (by kernel_rfl) (by kernel_rfl) (by kernel_rfl) (fun _ _ _ h => h) (Or.inl ⟨by rfl, ?hwa5⟩) hS ?rwa5
  case hwa5 => (intro w' hSw; (try dsimp only at hSw); go_simp; (try with_reducible rfl))
  try simp only [Act.put, List.setIfInBounds_toArray, List.set_cons_zero, List.set_cons_succ]
  refine wpAnyH_take (i := 7) (oi := ⟨some 12, _, _, _, _, _⟩) (v := ?vwa6) rfl (by kernel_rfl) (by kernel_rfl) (by kernel_rfl) (fun _ _ _ h => h) (Or.inl ⟨by rfl, ?hwa6⟩) hS ?rwa6
  case hwa6 => (intro w' hSw; (try dsimp only at hSw); go_simp; (try with_reducible rfl))
  try simp only [Act.put, List.setIfInBounds_toArray, List.set_cons_zero, List.set_cons_succ]
  refine wpAnyH_take (i := 8) (oi := ⟨some 13, _, _, _, _, _⟩) (v := ?vwa7) rfl (by kernel_rfl) (by kernel_rfl) (by kernel_rfl) (fun _ _ _ h => h) (Or.inl ⟨by rfl, ?hwa7⟩) hS ?rwa7
  case hwa7 => (intro w' hSw; (try dsimp only at hSw); go_simp; (try with_reducible rfl))
  try simp only [Act.put, List.setIfInBounds_toArray, List.set_cons_zero, List.set_cons_succ]
  refine wpAnyH_ready (rs := [0]) (by kernel_rfl) (by simp) ?_
  refine AllReadyH.cons (o := ⟨some 5, _, _, _, _, _⟩) rfl (fun K' hK' => ?_) AllReadyH.nil
  go_simp
  have hb1 : Below w.heap.size w (w.drew.alloc (.cells #[] 44)) := (Below.refl _ w).drew.alloc (Nat.le_refl _) _
  have o5 := own_made4 (N := w.heap.size) (w := w.drew) (Nat.le_refl _) 44 w.heap.size rfl
  refine hK'.out _ _ trivial (fun _ => ?_)
  clear hK' K'
  try simp only [Act.put, List.setIfInBounds_toArray, List.set_cons_zero, List.set_cons_succ]
  refine wpAnyH_ready (rs := [4]) (by kernel_rfl) (by simp) ?_
  refine AllReadyH.cons (o := ⟨some 9, _, _, _, _, _⟩) rfl (fun K' hK' => ?_) AllReadyH.nil
  rw [if_pos (wanted_plain rfl)]
  refine wp_appendQ _ _ 26 rfl w.heap.size 44 i0 (.agg #[.int .i64 0, .int .i64 0, .int .i64 0, .int .i64 0]) Try.underlying26 hi hz0 hz1 hz2 rfl _ 0 [] rfl o5 w.heap.size (some ⟨b, off, none⟩) k c (L.take k) (by simp; omega) rfl ((hL.front k (by omega)).below hb1) (by simp; omega) hb1.size ?_
  intro v6 w6 o6 g6
  have hb6 : Below w.heap.size w w6 := hb1.grown g6 hb1.size (own_from o5)
  refine hK'.out _ _ trivial (fun _ => ?_)
  clear hK' K'
  try simp only [Act.put, List.setIfInBounds_toArray, List.set_cons_zero, List.set_cons_succ]
  refine wpAnyH_ready (rs := [9]) (by kernel_rfl) (by simp) ?_
  refine AllReadyH.cons (o := ⟨some 14, _, _, _, _, _⟩) rfl (fun K' hK' => ?_) AllReadyH.nil
  rw [if_pos (wanted_plain rfl)]
  refine wp_appendQ _ _ 26 rfl w.heap.size 44 i0 (.agg #[.int .i64 0, .int .i64 0, .int .i64 0, .int .i64 0]) Try.underlying26 hi hz0 hz1 hz2 rfl _ _ _ rfl o6 w.heap.size (some ⟨b, if c = k + 1 then off else off + (k + 1) * 4, none⟩) (L.length - (k + 1)) (c - (k + 1)) (L.drop (k + 1)) (by simp) (slice_iteQ c (k + 1) b off _ _ _) ((hL.behind (k + 1) (by omega) hc).below hb6) (by simp; omega) hb6.size ?_
  intro v7 w7 o7 g7
  have hb7 : Below w.heap.size w w7 := hb6.grown g7 hb6.size (own_from o6)
  refine hK'.out _ _ trivial (fun _ => ?_)
  clear hK' K'
  try simp only [Act.put, List.setIfInBounds_toArray, List.set_cons_zero, List.set_cons_succ]
  refine wpAnyH_ready (rs := [10]) (by kernel_rfl) (by simp) ?_
  refine AllReadyH.cons (o := ⟨some 4, _, _, _, _, _⟩) rfl (fun K' hK' => ?_) AllReadyH.nil
  go_simp
  refine hK'.out _ _ trivial (fun _ => ?_)
  clear hK' K'
  try simp only [Act.put, List.setIfInBounds_toArray, List.set_cons_zero, List.set_cons_succ]
  refine wpAnyH_done (by kernel_rfl) ?_ _
  have o8 : w7.ownsRow w.heap.size 44 4 v7 (dropQ L k).length (flatQ (dropQ L k)) := by
    have e : 0 + (L.take k).length + (L.drop (k + 1)).length = (dropQ L k).length := by simp [dropQ]
    rw [← e]
    exact o7
  have hR := own_back o8 rfl hb7
  clear o7 g7 o6 g6 o5 o8
  go_wp2
  all_goals go_ret
  all_goals exact hR

set_option maxRecDepth 100000 in
set_option maxHeartbeats 1000000 in
theorem without_any (b off c k : Nat) (L : List Qd) (w : World) (hL : RQ w w.heap.size (some ⟨b, off, none⟩) L) (hk : k < L.length) (hc : L.length ≤ c) :
    Calls Try.prog 75 #[.slice (some ⟨b, off, none⟩) L.length c, .int .i64 (k : Int)] w (QRead (dropQ L k) w) := by
  have hl := hL.1
  obtain ⟨i0, hi, hz0, hz1, hz2⟩ := info_parts infoClueW
  have hk1 : k ≤ c := by omega
  have i2 : (k : Int) + 1 ≤ (c : Int) := by omega
  have i3 : (k : Int) + 1 ≤ (L.length : Int) := by omega
  have i4 : (k : Int) ≤ (c : Int) := by omega
  have i6 : (0 : Int) ≤ (k : Int) + 1 := by omega
  have i5 : IntKind.i64.wrap ((k : Int) + 1) = (k : Int) + 1 := IntWalk.i64_in _ (by omega)
  have s1 : ∃ b' off', (if c = k + 1 then some (⟨b, off, none⟩ : Addr) else some ⟨b, off + (k + 1) * 4, none⟩) = some ⟨b', off', none⟩ ∧ RQ w w.heap.size (some ⟨b', off', none⟩) (L.drop (k + 1)) := by
    have := hL.behind (k + 1) (by omega) hc
    by_cases e : c = k + 1
    · rw [if_pos e] at this ⊢; exact ⟨b, off, rfl, this⟩
    · rw [if_neg e] at this ⊢; exact ⟨b, off + (k + 1) * 4, rfl, this⟩
  obtain ⟨b', off', hs1, hL2⟩ := s1
  have HS1 := Lib.hid hs1
  clear hs1
  go_enter Try.func75, Try.ntmps75
  go_wp2_with fail
  refine wp_region_held_drew (S := (fun _ => True)) (by kernel_rfl) trivial (fun hS => ?_)
  refine wpAnyH_take (i := 0) (oi := ⟨some 5, _, _, _, _, _⟩) (v := ?vwb1) rfl (by kernel_rfl) (by kernel_rfl) (by kernel_rfl) (fun _ _ _ h => h) (Or.inl ⟨by rfl, ?hwb1⟩) hS ?rwb1
  case hwb1 => (intro w' hSw; (try dsimp only at hSw); go_simp; (try with_reducible rfl))
  try simp only [Act.put, List.setIfInBounds_toArray, List.set_cons_zero, List.set_cons_succ]
  refine wpAnyH_take (i := 1) (oi := ⟨some 6, _, _, _, _, _⟩) (v := ?vwb2) rfl (by kernel_rfl) (by kernel_rfl) (by kernel_rfl) (fun _ _ _ h => h) (Or.inl ⟨by rfl, ?hwb2⟩) hS ?rwb2
  case hwb2 => (intro w' hSw; (try dsimp only at hSw); go_simp; (try with_reducible rfl))
  try simp only [Act.put, List.setIfInBounds_toArray, List.set_cons_zero, List.set_cons_succ]
  refine wpAnyH_take (i := 2) (oi := ⟨some 7, _, _, _, _, _⟩) (v := ?vwb3) rfl (by kernel_rfl) (by kernel_rfl) (by kernel_rfl) (fun _ _ _ h => h) (Or.inl ⟨by rfl, ?hwb3⟩) hS ?rwb3
  case hwb3 => (intro w' hSw; (try dsimp only at hSw); go_simp; (try with_reducible rfl))
  try simp only [Act.put, List.setIfInBounds_toArray, List.set_cons_zero, List.set_cons_succ]
  refine wpAnyH_take (i := 3) (oi := ⟨some 8, _, _, _, _, _⟩) (v := ?vwb4) rfl (by kernel_rfl) (by kernel_rfl) (by kernel_rfl) (fun _ _ _ h => h) (Or.inl ⟨by rfl, ?hwb4⟩) hS ?rwb4
  case hwb4 => (intro w' hSw; (try dsimp only at hSw); go_simp; (try with_reducible rfl))
  try simp only [Act.put, List.setIfInBounds_toArray, List.set_cons_zero, List.set_cons_succ]
  refine wpAnyH_take (i := 4) (oi := ⟨some 9, _, _, _, _, _⟩) (v := ?vwb5) rfl (by kernel_rfl) (by kernel_rfl) (by kernel_rfl) (fun _ _ _ h => h) (Or.inl ⟨by rfl, ?hwb5⟩) hS ?rwb5
  case hwb5 => (intro w' hSw; (try dsimp only at hSw); go_simp; (try with_reducible rfl))
  try simp only [Act.put, List.setIfInBounds_toArray, List.set_cons_zero, List.set_cons_succ]
  refine wpAnyH_take (i := 5) (oi := ⟨some 10, _, _, _, _, _⟩) (v := ?vwb6) rfl (by kernel_rfl) (by kernel_rfl) (by kernel_rfl) (fun _ _ _ h => h) (Or.inl ⟨by rfl, ?hwb6⟩) hS ?rwb6
  case hwb6 => (intro w' hSw; (try dsimp only at hSw); go_simp; (try with_reducible rfl))
  try simp only [Act.put, List.setIfInBounds_toArray, List.set_cons_zero, List.set_cons_succ]
  refine wpAnyH_take (i := 6) (oi := ⟨some 11, _, _, _, _, _⟩) (v := ?vwb7) rfl (by kernel_rfl) (by kernel_rfl) (by kernel_rfl) (fun _ _ _ h => h) (Or.inl ⟨by rfl, ?hwb7⟩) hS ?rwb7
  case hwb7 => (intro w' hSw; (try dsimp only at hSw); go_simp; (try with_reducible rfl))
  try simp only [Act.put, List.setIfInBounds_toArray, List.set_cons_zero, List.set_cons_succ]
  refine wpAnyH_take (i := 7) (oi := ⟨some 12, _, _, _, _, _⟩) (v := ?vwb8) rfl (by kernel_rfl) (by kernel_rfl) (by kernel_rfl) (fun _ _ _ h => h) (Or.inl ⟨by rfl, ?hwb8⟩) hS ?rwb8
  case hwb8 => (intro w' hSw; (try dsimp only at hSw); go_simp; (try with_reducible rfl))
  try simp only [Act.put, List.setIfInBounds_toArray, List.set_cons_zero, List.set_cons_succ]
  refine wpAnyH_ready (rs := [8]) (by kernel_rfl) (by simp) ?_
  refine AllReadyH.cons (o := ⟨some 13, _, _, _, _, _⟩) rfl (fun K' hK' => ?_) AllReadyH.nil
  rw [if_pos (wanted_plain rfl)]
  have hbd : Below w.heap.size w w.drew := (Below.refl _ w).drew
  refine wp_appendQ_full _ _ 26 rfl 44 i0 (.agg #[.int .i64 0, .int .i64 0, .int .i64 0, .int .i64 0]) Try.underlying26 hi hz0 hz1 hz2 rfl ⟨b, off, none⟩ k (L.take k) (by simp; omega) rfl ((hL.front k (by omega)).below hbd) w.heap.size ⟨b', off', none⟩ (L.length - (k + 1)) (c - (k + 1)) (L.drop (k + 1)) (by simp) (congrArg (fun z => Value.slice z (L.length - (k + 1)) (c - (k + 1))) HS1.out) (hL2.below hbd) (by simp; omega) ?_
  intro A7 c7 w7 o7 hx7 hc7
  refine hK'.out _ _ trivial (fun _ => ?_)
  clear hK' K'
  try simp only [Act.put, List.setIfInBounds_toArray, List.set_cons_zero, List.set_cons_succ]
  refine wpAnyH_ready (rs := [9]) (by kernel_rfl) (by simp) ?_
  refine AllReadyH.cons (o := ⟨some 4, _, _, _, _, _⟩) rfl (fun K' hK' => ?_) AllReadyH.nil
  go_simp
  refine hK'.out _ _ trivial (fun _ => ?_)
  clear hK' K'
  try simp only [Act.put, List.setIfInBounds_toArray, List.set_cons_zero, List.set_cons_succ]
  refine wpAnyH_done (by kernel_rfl) ?_ _
  have hlq : (dropQ L k).length = min k L.length + (L.length - (k + 1)) := by simp [dropQ]
  have hR : QRead (dropQ L k) w (.returned (.slice A7 (min k L.length + (L.length - (k + 1))) c7)) w7 := ⟨A7, c7, by rw [hlq], o7, (Below.refl _ w).drew.trans hx7, hc7⟩
  clear o7 hx7 hc7 hlq
  go_wp2
  all_goals go_ret
  all_goals exact hR
end Go.Proofs.Yteogfondnpfklaa

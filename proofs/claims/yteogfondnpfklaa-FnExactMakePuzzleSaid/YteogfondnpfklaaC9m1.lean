/-
  Puzzles: slices.Repeat of one number; what a clue tells, the program's toldBy.
-/
import Derived.Test.YteogfondnpfklaaC9k
import Derived.Test.YteogfondnpfklaaWReg
import Derived.Shelf.Bits.Mul64
import Derived.Shelf.Lay
import Derived.Ground.NamesProg
import Derived.Laws.CopyOwn
import Derived.Deep.RegionLaw
import Derived.Test.YteogfondnpfklaaC1t
namespace Go.Proofs
open Go.Shelf
set_option maxRecDepth 100000
shelf_lay Lays.n212 Nm 212 at Try as Try.laysMul
end Go.Proofs
namespace Go.Proofs.Yteogfondnpfklaa
open Go.RowKit

theorem mul_any (n : Nat) (hn : n ≤ 20) (w : World) : Calls Try.prog 142 #[.int .u64 1, .int .u64 (n : Int)] w fun e w' => e = .returned (.tuple #[.int .u64 0, .int .u64 (n : Int)]) ∧ w' = w := by
  refine (Any.bits_Mul Try.laysMul 1 n (by omega) (by omega) w).mono ?_
  rintro e w' ⟨rfl, hw⟩
  refine ⟨?_, hw⟩
  have e1 : 1 * n / 18446744073709551616 = 0 := by omega
  have e2 : 1 * n % 18446744073709551616 = n := by omega
  rw [e1, e2]
  rfl
/-- n cells, the first m are b, the others 0. -/
def repC (n m : Nat) (b : Int) : List Value := List.replicate m (.int .i64 b) ++ List.replicate (n - m) (.int .i64 0)
theorem repC_len {n m : Nat} {b : Int} (h : m ≤ n) : (repC n m b).length = n := by simp [repC]; omega
theorem repC_splice {n m j : Nat} {b : Int} (h : m + j ≤ n) : splice (repC n m b) m (List.replicate j (.int .i64 b)) = repC n (m + j) b := by
  unfold splice repC
  apply List.ext_getElem?
  intro i
  simp only [List.getElem?_append, List.getElem?_take, List.getElem?_drop, List.getElem?_replicate, List.length_append, List.length_take, List.length_replicate]
  repeat' split
  all_goals (try rfl)
  all_goals (exfalso; omega)
theorem repC_at {n m : Nat} {b : Int} {j : Nat} (h : j < m) : (repC n m b)[j]? = some (.int .i64 b) := by
  unfold repC
  rw [List.getElem?_append_left (by simpa using h), List.getElem?_replicate, if_pos h]
theorem made_rep {w : World} {base n : Nat} {t : TypeId} {g : Nat} (b : Int) (h : w.ownsRow base t 1 (.slice (some ⟨g, 0, none⟩) n n) n (madeCells #[.int .i64 0] (n * 1)).toList) : w.heap[g]? = some (.cells (repC n 0 b).toArray t (0, 0)) := by
  obtain ⟨h0, ⟨hv, _⟩ | ⟨g', cap, cs, hv, _, hh, hn, _, hsz, htk⟩⟩ := h
  · injection hv with hv; cases hv
  · injection hv with hv _ hcap
    injection hv with hv; injection hv with hv _ _
    subst hv hcap
    rw [hh]
    congr 2
    apply Array.ext'
    have hl : cs.toList.length = n * 1 := by simpa using hsz
    rw [← List.take_of_length_le (Nat.le_of_eq hl), htk]
    apply List.ext_getElem?
    intro i
    unfold repC
    by_cases hi : i < n
    · simp [madeCells, hi, Nat.mod_one]
    · simp [madeCells, hi]
theorem rep_ri {w : World} {n : Nat} {b : Int} {t : TypeId} {g : Nat} (h : w.heap[g]? = some (.cells (repC n n b).toArray t (0, 0))) (hn : n ≤ 20) : RI w w.heap.size (some ⟨g, 0, none⟩) (List.replicate n b) := by
  refine ⟨by simp; omega, .inr ⟨g, 0, rfl, heap_lt h, fun k hk => ?_⟩⟩
  have hk' : k < n := by simpa using hk
  rw [Nat.zero_add, cell_of_row w g k _ _ _ h]
  simp [repC_at hk']

set_option maxRecDepth 100000 in
set_option maxHeartbeats 400000 in
theorem repeatI_any (gb : Nat) (b : Int) (n : Nat) (hn : n ≤ 20) (w : World) (hb : w.cell? ⟨gb, 0, none⟩ = some (.int .i64 b)) :
    Calls Try.prog 123 #[.slice (some ⟨gb, 0, none⟩) 1 1, .int .i64 (n : Int)] w fun e w' => ∃ A, e = .returned (.slice A n n) ∧ RI w' w'.heap.size A (List.replicate n b) ∧ Below w.heap.size w w' := by
  obtain ⟨j0, hji, hjz0, hjz1, hjz2⟩ := info_parts infoInt1
  have n0 : ¬ (n : Int) < 0 := by omega
  have u1 : IntKind.u64.wrap (1 : Int) = 1 := by decide
  have u2 : IntKind.u64.wrap (n : Int) = (n : Int) := by rw [IntKind.wrap_u64]; omega
  have u3 : IntKind.i64.wrap (n : Int) = (n : Int) := IntWalk.i64_in _ (by omega)
  have u4 : ¬ (9223372036854775807 : Int) < (n : Int) := by omega
  by_cases hn0 : n = 0
  · subst hn0
    go_enter Try.func123, Try.ntmps123
    go_wp2_with (first | (refine wpList_copy_nothing rfl (.tmp 31) (.tmp 32) 54 54 rfl 3 Try.underlying54 (show (Try.prog.info? 3).map (·.size) = some 1 by kernel_rfl) _ _ _ _ _ _ rfl rfl rfl ?_) | (go_at_call 142; refine (mul_any 0 (by omega) _).mono ?_; rintro e w' ⟨rfl, hw⟩; rw [hw]) | (at_make; go_loud (refine wpList_make_full _ rfl _ _ 54 rfl w.heap.size 3 j0 _ 1 Try.underlying54 hji hjz0 hjz1 _ _ _ _ 0 rfl rfl rfl rfl (by rw [hjz2]; omega) (by unfold maxLen; omega) (by omega) ?_; intro w1 hown hgrow; have hm := made_rep b hown; have hb1 := grown_below hgrow (Nat.le_refl _) (fun k e => by cases e))))
    go_loopw [8] (fun q wr => q = .int .i64 0 ∧ wr = w1) (fun _ _ => 0)
    case atStart => exact ⟨rfl, rfl⟩
    case round =>
      obtain ⟨rfl, rfl⟩ := hrel
      go_wp2
      go_ret
      exact ⟨_, rfl, ⟨by simp, .inl rfl⟩, hb1⟩
  · have hn1 : 1 ≤ n := by omega
    have hmin : Nat.min 1 n = 1 := Nat.min_eq_left hn1
    have HMIN := Lib.hid hmin; clear hmin
    go_enter Try.func123, Try.ntmps123
    go_wp2_with (first | (refine wpList_copy_splice rfl (.tmp 31) (.tmp 32) 54 54 rfl 3 Try.underlying54 (show (Try.prog.info? 3).map (·.size) = some 1 by kernel_rfl) (some ⟨w.heap.size, 0, none⟩) (some ⟨gb, 0, none⟩) n n 1 1 rfl rfl w.heap.size 0 (repC n 0 b) 3 hm (List.replicate 1 (.int .i64 b)) HMIN.out.symm (fun _ => ⟨rfl, ⟨gb, 0, none⟩, rfl, fun j v hj => by obtain rfl : j = 0 := (by have := (List.getElem?_eq_some_iff.1 hj).1; simpa using this); injection hj with hj; subst hj; exact (bcell hb1 (cell_lt hb)).trans hb⟩) (by rw [repC_len (by omega)]; simp; omega) (fun v hv => by obtain rfl := List.eq_of_mem_replicate hv; rfl) w.heap.size w hb1 (Nat.le_refl _) ?_; intro w2 hg2 hb2; rw [repC_splice (by omega)] at hg2) | (go_at_call 142; refine (mul_any n hn _).mono ?_; rintro e w' ⟨rfl, hw⟩; rw [hw]) | (at_make; go_loud (refine wpList_make_full _ rfl _ _ 54 rfl w.heap.size 3 j0 _ 1 Try.underlying54 hji hjz0 hjz1 _ _ _ _ n rfl rfl rfl rfl (by rw [hjz2]; omega) (by unfold maxLen; omega) (by omega) ?_; intro w1 hown hgrow; have hm := made_rep b hown; have hb1 := grown_below hgrow (Nat.le_refl _) (fun k e => by cases e))))
    have hg2' := hg2.out
    have HN := Lib.hid hn0
    clear hm hown hgrow n0 u1 u2 u3 u4 hg2 hn0 hb1
    go_loopw [8] (fun q wr => ∃ m : Nat, 1 ≤ m ∧ m ≤ n ∧ q = .int .i64 (m : Int) ∧ Hid (wr.heap[w.heap.size]? = some (.cells (repC n m b).toArray 3 (0, 0))) ∧ Below w.heap.size w wr) (fun q _ => n - (intOf q).toNat)
    case atStart => exact ⟨1, by omega, hn1, rfl, hg2', hb2⟩
    case round =>
      obtain ⟨m, hm1, hm2, rfl, HG, hbr⟩ := hrel
      by_cases hlt : m < n
      · have h1 : (m : Int) < (n : Int) := by omega
        have h2 : (0 : Int) ≤ (m : Int) := by omega
        have h3 : (m : Int) ≤ (n : Int) := by omega
        have h4 : m ≤ n := hm2
        have h5 : ¬ n = m := by omega
        obtain ⟨j, hj⟩ : ∃ j, j = Nat.min m (n - m) := ⟨_, rfl⟩
        have hj2 : j ≤ m ∧ j ≤ n - m ∧ 1 ≤ j := by rw [hj]; exact ⟨Nat.min_le_left _ _, Nat.min_le_right _ _, Nat.le_min.2 ⟨hm1, by omega⟩⟩
        have HJ := Lib.hid hj; clear hj
        have h6 : IntKind.i64.wrap ((m : Int) + (j : Int)) = (m : Int) + (j : Int) := IntWalk.i64_in _ (by omega)
        have hsrc : ∀ i v, (List.replicate j (Value.int .i64 b))[i]? = some v → wr.drew.cell? ((⟨w.heap.size, 0, none⟩ : Addr).add i) = some v := by
          intro i v hi
          have hij : i < j := by have := (List.getElem?_eq_some_iff.1 hi).1; simpa using this
          rw [List.getElem?_replicate, if_pos hij] at hi
          rw [Addr.add_lit, Nat.zero_add, ← hi]
          exact (cell_of_row wr w.heap.size i _ _ _ HG.out).trans (by simp [repC_at (show i < m by omega)])
        have HSRC := Lib.hid hsrc; clear hsrc
        go_wp2_with fail
        refine wp_region_held_drew (S := (fun _ => True)) (by kernel_rfl) trivial (fun hS => ?_)
        refine wpAnyH_take (i := 0) (oi := ⟨some 38, _, _, _, _, _⟩) (v := ?vrp1) rfl (by kernel_rfl) (by kernel_rfl) (by kernel_rfl) (fun _ _ _ h => h) (Or.inl ⟨by rfl, ?hrp1⟩) hS ?rrp1
        case hrp1 => (intro w' hSw; (try dsimp only at hSw); go_simp; (try with_reducible rfl))
        try simp only [Act.put, List.setIfInBounds_toArray, List.set_cons_zero, List.set_cons_succ]
        refine wpAnyH_take (i := 1) (oi := ⟨some 39, _, _, _, _, _⟩) (v := ?vrp2) rfl (by kernel_rfl) (by kernel_rfl) (by kernel_rfl) (fun _ _ _ h => h) (Or.inl ⟨by rfl, ?hrp2⟩) hS ?rrp2
        case hrp2 => (intro w' hSw; (try dsimp only at hSw); go_simp; (try with_reducible rfl))
        try simp only [Act.put, List.setIfInBounds_toArray, List.set_cons_zero, List.set_cons_succ]
        refine wpAnyH_take (i := 2) (oi := ⟨some 40, _, _, _, _, _⟩) (v := ?vrp3) rfl (by kernel_rfl) (by kernel_rfl) (by kernel_rfl) (fun _ _ _ h => h) (Or.inl ⟨by rfl, ?hrp3⟩) hS ?rrp3
        case hrp3 => (intro w' hSw; (try dsimp only at hSw); go_simp; (try with_reducible rfl))
        try simp only [Act.put, List.setIfInBounds_toArray, List.set_cons_zero, List.set_cons_succ]
        refine wpAnyH_take (i := 3) (oi := ⟨some 41, _, _, _, _, _⟩) (v := ?vrp4) rfl (by kernel_rfl) (by kernel_rfl) (by kernel_rfl) (fun _ _ _ h => h) (Or.inl ⟨by rfl, ?hrp4⟩) hS ?rrp4
        case hrp4 => (intro w' hSw; (try dsimp only at hSw); go_simp; (try with_reducible rfl))
        try simp only [Act.put, List.setIfInBounds_toArray, List.set_cons_zero, List.set_cons_succ]
        refine wpAnyH_take (i := 4) (oi := ⟨some 42, _, _, _, _, _⟩) (v := ?vrp5) rfl (by kernel_rfl) (by kernel_rfl) (by kernel_rfl) (fun _ _ _ h => h) (Or.inl ⟨by rfl, ?hrp5⟩) hS ?rrp5
        case hrp5 => (intro w' hSw; (try dsimp only at hSw); go_simp; (try with_reducible rfl))
        try simp only [Act.put, List.setIfInBounds_toArray, List.set_cons_zero, List.set_cons_succ]
        refine wpAnyH_take (i := 5) (oi := ⟨some 43, _, _, _, _, _⟩) (v := ?vrp6) rfl (by kernel_rfl) (by kernel_rfl) (by kernel_rfl) (fun _ _ _ h => h) (Or.inl ⟨by rfl, ?hrp6⟩) hS ?rrp6
        case hrp6 => (intro w' hSw; (try dsimp only at hSw); go_simp; (try with_reducible rfl))
        try simp only [Act.put, List.setIfInBounds_toArray, List.set_cons_zero, List.set_cons_succ]
        refine wpAnyH_take (i := 6) (oi := ⟨some 44, _, _, _, _, _⟩) (v := ?vrp7) rfl (by kernel_rfl) (by kernel_rfl) (by kernel_rfl) (fun _ _ _ h => h) (Or.inl ⟨by rfl, ?hrp7⟩) hS ?rrp7
        case hrp7 => (intro w' hSw; (try dsimp only at hSw); go_simp; (try with_reducible rfl))
        try simp only [Act.put, List.setIfInBounds_toArray, List.set_cons_zero, List.set_cons_succ]
        refine wpAnyH_ready (rs := [7]) (by kernel_rfl) (by simp) ?_
        refine AllReadyH.cons (o := ⟨some 45, _, _, _, _, _⟩) rfl (fun K' hK' => ?_) AllReadyH.nil
        refine step_copy_splice rfl (.tmp 41) (.tmp 44) 54 54 rfl 3 Try.underlying54 (show (Try.prog.info? 3).map (·.size) = some 1 by kernel_rfl) (some ⟨w.heap.size, m, none⟩) (some ⟨w.heap.size, 0, none⟩) (n - m) (n - m) m n rfl rfl w.heap.size m (repC n m b) 3 HG.out (List.replicate j (.int .i64 b)) (by rw [List.length_replicate]; exact HJ.out) (fun _ => ⟨rfl, ⟨w.heap.size, 0, none⟩, rfl, HSRC.out⟩) (by rw [repC_len hm2, List.length_replicate]; omega) (fun v hv => by obtain rfl := List.eq_of_mem_replicate hv; rfl) w.heap.size w hbr.drew (Nat.le_refl _) ?_
        intro w4 hg4 hb4
        simp only [List.length_replicate]
        refine hK'.out _ _ trivial (fun _ => ?_)
        clear hK' K'
        try simp only [Act.put, List.setIfInBounds_toArray, List.set_cons_zero, List.set_cons_succ]
        refine wpAnyH_take (i := 8) (oi := ⟨some 46, _, _, _, _, _⟩) (v := ?vrp8) rfl (by kernel_rfl) (by kernel_rfl) (by kernel_rfl) (fun _ _ _ h => h) (Or.inl ⟨by rfl, ?hrp8⟩) trivial ?rrp8
        case hrp8 => (intro w' hSw; (try dsimp only at hSw); go_simp; (try with_reducible rfl))
        try simp only [Act.put, List.setIfInBounds_toArray, List.set_cons_zero, List.set_cons_succ]
        refine wpAnyH_ready (rs := [9]) (by kernel_rfl) (by simp) ?_
        refine AllReadyH.cons (o := ⟨some 8, _, _, _, _, _⟩) rfl (fun K' hK' => ?_) AllReadyH.nil
        go_simp
        refine hK'.out _ _ trivial (fun _ => ?_)
        clear hK' K'
        try simp only [Act.put, List.setIfInBounds_toArray, List.set_cons_zero, List.set_cons_succ]
        refine wpAnyH_done (by kernel_rfl) ?_ _
        go_wp2
        go_roundw
        case rel => exact ⟨m + j, by omega, by omega, by go_num, by rw [← repC_splice (by omega)]; exact hg4, hb4⟩
        case measure => simp [intOf]; omega
      · obtain rfl : m = n := by omega
        have h1 : ¬ (m : Int) < (m : Int) := by omega
        go_wp2
        go_ret
        exact ⟨_, rfl, rep_ri HG.out hn, hbr⟩
end Go.Proofs.Yteogfondnpfklaa

namespace Go.Proofs.Yteogfondnpfklaa
open Go.RowKit

theorem sizeBoard9 : (Try.prog.info? 33).map (·.size) = some 4 := by kernel_rfl
theorem playRep_any (s f o : Int) (A : Option Addr) (c : Nat) (js : List (Int × Int)) (b : Int) (n : Nat) (A' : Option Addr) (w : World) (hj : RJ w w.heap.size A js) (hx : RI w w.heap.size A' (List.replicate n b)) :
    Calls Try.prog 122 #[.agg #[.int .i64 s, .int .i64 f, .int .i64 o, .slice A js.length c], .int .i64 0, .slice A' n n] w fun e w' => e = .returned (.tuple #[.int .i64 (playR s f o js 0 (List.replicate n b)).1, .bool (playR s f o js 0 (List.replicate n b)).2]) ∧ Below w.heap.size w w' := by
  have h := implPlayThrows_any s f o A A' c n 0 (List.replicate n b) js w hj hx
  rwa [List.length_replicate] at h
theorem playRep {s f o b : Int} {js : List (Int × Int)} {n : Nat} (hg : good ⟨s, f, o, js⟩ = true) (hn : n ≤ 20) (hb : 1 ≤ b ∧ b ≤ f) : playR s f o js 0 (List.replicate n b) = (walkTo s o js 0 (List.replicate n b) n, true) := by
  have h : throwsOk f (List.replicate n b) = true := by
    rw [throwsOk, Bool.and_eq_true, decide_eq_true_eq, List.length_replicate, List.all_eq_true]
    exact ⟨by omega, fun x hx => by rw [List.eq_of_mem_replicate hx]; exact inB_iff.2 hb⟩
  rw [playR, asked_zero hg, h, List.length_replicate]
  rfl

set_option maxRecDepth 100000 in
set_option maxHeartbeats 400000 in
theorem toldBy5 (s f o : Int) (A : Option Addr) (c : Nat) (js : List (Int × Int)) (b d : Int) (n : Nat) (w : World) (hj : RJ w w.heap.size A js) (hn : n ≤ 20) : Calls Try.prog 91 #[.agg #[.int .i64 s, .int .i64 f, .int .i64 o, .slice A js.length c], .agg #[.int .i64 5, .int .i64 (n : Int), .int .i64 b, .int .i64 d]] w fun e w' => e = .returned (.tuple #[.int .i64 (playR s f o js 0 (List.replicate n b)).1, .bool (playR s f o js 0 (List.replicate n b)).2]) ∧ Below w.heap.size w w' := by
  have hl := hj.1
  obtain ⟨R, hR⟩ : ∃ R, R = playR s f o js 0 (List.replicate n b) := ⟨_, rfl⟩
  rw [← hR]
  have HR := Lib.hid hR; clear hR
  go_enter Try.func91, Try.ntmps91
  go_wp2_with fail
  obtain ⟨W0, hW0⟩ : ∃ W0, W0 = (w.alloc (.cells #[.int .i64 s, .int .i64 f, .int .i64 o, .slice A js.length c] 33)).alloc (.cells #[.int .i64 5, .int .i64 (n : Int), .int .i64 b, .int .i64 d] 44) := ⟨_, rfl⟩
  have z0 : w.heap.size + 2 ≤ W0.heap.size := by rw [hW0]; simp
  have h0 : Below w.heap.size w W0 := by rw [hW0]; exact below2 _ _ _
  have k1 : W0.heap[w.heap.size]? = some (.cells #[.int .i64 s, .int .i64 f, .int .i64 o, .slice A js.length c] 33 (0, 0)) := by rw [hW0]; exact (Below.heap_alloc _ _ _ (by simp)).trans (heap_alloc_at _ _ _ rfl)
  have k2 : W0.heap[w.heap.size + 1]? = some (.cells #[.int .i64 5, .int .i64 (n : Int), .int .i64 b, .int .i64 d] 44 (0, 0)) := by rw [hW0]; exact heap_alloc_at _ _ _ (by simp)
  rw [← hW0]
  have HW0 := Lib.hid hW0; clear hW0
  have hSo : ∀ B, w.heap.size + 2 ≤ B → ∀ w', Below B W0 w' → (Below (w.heap.size + 2) W0 w' ∧ w'.heap[w.heap.size]? = some (.cells #[.int .i64 s, .int .i64 f, .int .i64 o, .slice A js.length c] 33 (0, 0)) ∧ (∀ i, w'.cell? ⟨w.heap.size, i, none⟩ = #[.int .i64 s, .int .i64 f, .int .i64 o, .slice A js.length c][i]?) ∧ (∀ i, w'.cell? ⟨w.heap.size + 1, i, none⟩ = #[.int .i64 5, .int .i64 (n : Int), .int .i64 b, .int .i64 d][i]?)) :=
    fun B hB w' hb => ⟨hb.mono hB, (hb.block _ (by omega)).trans k1, fun i => cell_of_row w' w.heap.size i _ _ _ ((hb.block _ (by omega)).trans k1), fun i => cell_of_row w' (w.heap.size + 1) i _ _ _ ((hb.block _ (by omega)).trans k2)⟩
  have HSO := Lib.hid hSo; clear hSo
  have HJ := Lib.hid hj; clear hj
  have hbD : Below W0.heap.size W0 W0.drew := (Below.refl _ W0).drew
  refine wp_region_held_drew (S := (fun w' => Below (w.heap.size + 2) W0 w' ∧ w'.heap[w.heap.size]? = some (.cells #[.int .i64 s, .int .i64 f, .int .i64 o, .slice A js.length c] 33 (0, 0)) ∧ (∀ i, w'.cell? ⟨w.heap.size, i, none⟩ = #[.int .i64 s, .int .i64 f, .int .i64 o, .slice A js.length c][i]?) ∧ (∀ i, w'.cell? ⟨w.heap.size + 1, i, none⟩ = #[.int .i64 5, .int .i64 (n : Int), .int .i64 b, .int .i64 d][i]?))) (by kernel_rfl) (HSO.out _ (by omega) _ hbD) (fun hS => ?_)
  refine wpAnyH_take (i := 0) (oi := ⟨some 52, _, _, _, _, _⟩) rfl (by kernel_rfl) (by kernel_rfl) (by kernel_rfl) (fun _ _ _ h => h) (yields_load_row rfl 33 (.tmp 2) rfl w.heap.size rfl _ _ _ _ (fun _ h => h.2.1) Try.underlying33 rfl sizeBoard9) hS ?_
  try simp only [Act.put, List.setIfInBounds_toArray, List.set_cons_zero, List.set_cons_succ]
  refine wpAnyH_take (i := 1) (oi := ⟨some 53, _, _, _, _, _⟩) (v := ?vtb1) rfl (by kernel_rfl) (by kernel_rfl) (by kernel_rfl) (fun _ _ _ h => h) (Or.inl ⟨by rfl, ?htb1⟩) hS ?rtb1
  case htb1 => (intro w' hSw; (try dsimp only at hSw); go_simp; (try with_reducible rfl))
  try simp only [Act.put, List.setIfInBounds_toArray, List.set_cons_zero, List.set_cons_succ]
  refine wpAnyH_take (i := 2) (oi := ⟨some 54, _, _, _, _, _⟩) (v := ?vtb2) rfl (by kernel_rfl) (by kernel_rfl) (by kernel_rfl) (fun _ _ _ h => h) (Or.inl ⟨by rfl, ?htb2⟩) hS ?rtb2
  case htb2 => (intro w' hSw; (try dsimp only at hSw); go_simp; (try with_reducible rfl))
  try simp only [Act.put, List.setIfInBounds_toArray, List.set_cons_zero, List.set_cons_succ]
  refine wpAnyH_take (i := 4) (oi := ⟨some 56, _, _, _, _, _⟩) (v := ?vtb3) rfl (by kernel_rfl) (by kernel_rfl) (by kernel_rfl) (fun _ _ _ h => h) (Or.inl ⟨by rfl, ?htb3⟩) hS ?rtb3
  case htb3 => (intro w' hSw; (try dsimp only at hSw); go_simp; (try with_reducible rfl))
  try simp only [Act.put, List.setIfInBounds_toArray, List.set_cons_zero, List.set_cons_succ]
  refine wpAnyH_take (i := 5) (oi := ⟨some 57, _, _, _, _, _⟩) (v := ?vtb4) rfl (by kernel_rfl) (by kernel_rfl) (by kernel_rfl) (fun _ _ _ h => h) (Or.inl ⟨by rfl, ?htb4⟩) hS ?rtb4
  case htb4 => (intro w' hSw; (try dsimp only at hSw); go_simp; (try with_reducible rfl))
  try simp only [Act.put, List.setIfInBounds_toArray, List.set_cons_zero, List.set_cons_succ]
  refine wpAnyH_ready (rs := [3]) (by kernel_rfl) (by simp) ?_
  refine AllReadyH.cons (o := ⟨some 55, _, _, _, _, _⟩) rfl (fun K' hK' => ?_) AllReadyH.nil
  go_simp
  have hb4 : Below W0.heap.size W0 (W0.drew.alloc (.cells #[.int .i64 b] 3)) := hbD.alloc (Nat.le_refl _) _
  have c4 : (W0.drew.alloc (.cells #[.int .i64 b] 3)).cell? ⟨W0.heap.size, 0, none⟩ = some (.int .i64 b) := cell_of_row _ W0.heap.size 0 #[.int .i64 b] 3 _ (heap_alloc_at _ _ _ rfl)
  refine hK'.out _ _ (HSO.out _ (by omega) _ hb4) (fun _ => ?_)
  clear hK' K'
  try simp only [Act.put, List.setIfInBounds_toArray, List.set_cons_zero, List.set_cons_succ]
  refine wpAnyH_ready (rs := [6]) (by kernel_rfl) (by simp) ?_
  refine AllReadyH.cons (o := ⟨some 58, _, _, _, _, _⟩) rfl (fun K' hK' => ?_) AllReadyH.nil
  go_simp
  go_at_call 123
  refine (repeatI_any W0.heap.size b n hn _ c4).mono ?_
  rintro e w5 ⟨A5, rfl, hR5, hx5⟩
  have hb5 : Below W0.heap.size W0 w5 := hb4.trans (hx5.mono hb4.size)
  refine hK'.out _ _ (HSO.out _ (by omega) _ hb5) (fun _ => ?_)
  clear hK' K'
  try simp only [Act.put, List.setIfInBounds_toArray, List.set_cons_zero, List.set_cons_succ]
  refine wpAnyH_ready (rs := [7]) (by kernel_rfl) (by simp) ?_
  refine AllReadyH.cons (o := ⟨some 59, _, _, _, _, _⟩) rfl (fun K' hK' => ?_) AllReadyH.nil
  go_simp
  go_at_call 122
  refine (playRep_any s f o A c js b n A5 w5 (HJ.out.go (h0.trans (hb5.mono (by omega)))) hR5).mono ?_
  rintro e w6 ⟨rfl, hx6⟩
  have hb6 : Below W0.heap.size W0 w6 := hb5.trans (hx6.mono hb5.size)
  rw [← HR.out]
  refine hK'.out _ _ (HSO.out _ (by omega) _ hb6) (fun _ => ?_)
  clear hK' K'
  try simp only [Act.put, List.setIfInBounds_toArray, List.set_cons_zero, List.set_cons_succ]
  refine wpAnyH_take (i := 8) (oi := ⟨some 60, _, _, _, _, _⟩) (v := ?vtb5) rfl (by kernel_rfl) (by kernel_rfl) (by kernel_rfl) (fun _ _ _ h => h) (Or.inl ⟨by rfl, ?htb5⟩) (HSO.out _ (by omega) _ hb6) ?rtb5
  case htb5 => (intro w' hSw; (try dsimp only at hSw); go_simp; (try with_reducible rfl))
  try simp only [Act.put, List.setIfInBounds_toArray, List.set_cons_zero, List.set_cons_succ]
  refine wpAnyH_take (i := 9) (oi := ⟨some 61, _, _, _, _, _⟩) (v := ?vtb6) rfl (by kernel_rfl) (by kernel_rfl) (by kernel_rfl) (fun _ _ _ h => h) (Or.inl ⟨by rfl, ?htb6⟩) (HSO.out _ (by omega) _ hb6) ?rtb6
  case htb6 => (intro w' hSw; (try dsimp only at hSw); go_simp; (try with_reducible rfl))
  try simp only [Act.put, List.setIfInBounds_toArray, List.set_cons_zero, List.set_cons_succ]
  refine wpAnyH_ready (rs := [10]) (by kernel_rfl) (by simp) ?_
  refine AllReadyH.cons (o := ⟨some 4, _, _, _, _, _⟩) rfl (fun K' hK' => ?_) AllReadyH.nil
  go_simp
  refine hK'.out _ _ (HSO.out _ (by omega) _ hb6) (fun _ => ?_)
  clear hK' K'
  try simp only [Act.put, List.setIfInBounds_toArray, List.set_cons_zero, List.set_cons_succ]
  refine wpAnyH_ready (rs := [11]) (by kernel_rfl) (by simp) ?_
  refine AllReadyH.cons (o := ⟨some 5, _, _, _, _, _⟩) rfl (fun K' hK' => ?_) AllReadyH.nil
  go_simp
  refine hK'.out _ _ (HSO.out _ (by omega) _ hb6) (fun _ => ?_)
  clear hK' K'
  try simp only [Act.put, List.setIfInBounds_toArray, List.set_cons_zero, List.set_cons_succ]
  refine wpAnyH_done (by kernel_rfl) ?_ _
  go_wp2
  go_ret2
  exact ⟨rfl, h0.trans (hb6.mono (by omega))⟩

/-- What a clue tells of a board, the clue being one of its puzzles. -/
theorem toldBy_any (s f o : Int) (A : Option Addr) (c : Nat) (js : List (Int × Int)) (k a b d : Int) (R : Int × Bool) (P : Nat → Bool) (V : Int × Bool) (w : World) (hj : RJ w w.heap.size A js) (hg : good ⟨s, f, o, js⟩ = true) (hR : FewR s f o js 0 R) (hP : HopeIs s f o js P) (hc : clB s f k a b d = true) (hV : V = toldV s o js R.1 (selL P (s.toNat + 1)).length k a b) :
    Calls Try.prog 91 #[.agg #[.int .i64 s, .int .i64 f, .int .i64 o, .slice A js.length c], .agg #[.int .i64 k, .int .i64 a, .int .i64 b, .int .i64 d]] w fun e w' => e = .returned (.tuple #[.int .i64 V.1, .bool V.2]) ∧ Below w.heap.size w w' := by
  subst hV
  have hk := clB_k hc
  rcases (show k = 0 ∨ k = 1 ∨ k = 2 ∨ k = 3 ∨ k = 4 ∨ k = 5 by omega) with rfl | rfl | rfl | rfl | rfl | rfl
  · exact toldBy0 s f o A c js a b d w hj
  · have h := clB_1 hc
    have e : toldV s o js R.1 (selL P (s.toNat + 1)).length 1 a b = throwTo s f o js a b := by
      rw [throwTo, asked, hg, Bool.true_and, inB_iff.2 h.2, Bool.and_true]; rfl
    rw [e]
    exact toldBy1 s f o A c js a b d w hj
  · exact toldBy2 s f o A c js a b d w hj R hg hR
  · exact toldBy3 s f o A c js a b d w hj P hg hP
  · exact toldBy4 s f o A c js a b d w hj
  · have h := clB_5 hc
    obtain ⟨n, rfl⟩ := Int.eq_ofNat_of_zero_le h.1.1
    have e : toldV s o js R.1 (selL P (s.toNat + 1)).length 5 (n : Int) b = playR s f o js 0 (List.replicate n b) := by
      rw [playRep hg (by omega) h.2]; rfl
    rw [e]
    exact toldBy5 s f o A c js b d n w hj (by omega)
theorem hidB_parts {s f o : Int} {js : List (Int × Int)} (h : hidB s f o js = true) : good ⟨s, f, o, js⟩ = true ∧ s ≤ 10 ∧ js.length ≤ 1 := by
  rw [hidB, Bool.and_eq_true, Bool.and_eq_true, decide_eq_true_eq, decide_eq_true_eq] at h
  exact ⟨h.1.1, h.1.2, h.2⟩
end Go.Proofs.Yteogfondnpfklaa

/-
  AddJump, the program's.
-/
import Derived.Test.YtndodohngeaklaaC1ag
import Derived.Test.YtndodohngeaklaaC1ah
import Derived.Test.YtndodohngeaklaaM13
namespace Go.Proofs.Ytndodohngeaklaa
open Go.RowKit

theorem OJ.farlo {w : World} {lo n : Nat} {t : TypeId} {A : Option Addr} {F : Nat → Int × Int} (h : OJ w lo t A n F) {p : Addr} (hp : p.block < lo) (u : Value) : OJ (w.setCell p u) lo t A n F := by
  rcases h with h | ⟨g, e, hl, hr⟩
  · exact .inl h
  · exact .inr ⟨g, e, hl, hr.far (by omega) u⟩
theorem OJ.lo {w : World} {lo lo' n : Nat} {t : TypeId} {A : Option Addr} {F : Nat → Int × Int} (h : OJ w lo t A n F) (hl : lo' ≤ lo) : OJ w lo' t A n F := by
  rcases h with h | ⟨g, e, h1, hr⟩
  · exact .inl h
  · exact .inr ⟨g, e, by omega, hr⟩
set_option maxRecDepth 100000 in
set_option maxHeartbeats 1000000 in
theorem implAddJump_any (s f o a b : Int) (A : Option Addr) (c : Nat) (js : List (Int × Int)) (w : World) (hj : RJ w w.heap.size A js) (ha : wfi a = true) (hb : wfi b = true) :
    Calls Try.prog 16 #[.agg #[.int .i64 s, .int .i64 f, .int .i64 o, .slice A js.length c], .agg #[.int .i64 a, .int .i64 b]] w (BdBack w.heap.size w (addR s f o js (a, b))) := by
  have hl := hj.1
  obtain ⟨ti, hi, hz0, hz1, hz2⟩ := info_parts infoJumpW
  obtain ⟨W0, hW0⟩ : ∃ W0, W0 = ((w.alloc (.cells #[.int .i64 s, .int .i64 f, .int .i64 o, .slice A js.length c] 30)).alloc (.cells #[.int .i64 a, .int .i64 b] 38)).alloc (.cells #[.int .i64 0, .int .i64 0, .int .i64 0, .slice none 0 0] 30) := ⟨_, rfl⟩
  have z0 : W0.heap.size = w.heap.size + 3 := by rw [hW0]; simp
  have h0 : Below w.heap.size w W0 := by rw [hW0]; exact below3 _ _ _ _
  have k1 : W0.heap[w.heap.size]? = some (.cells #[.int .i64 s, .int .i64 f, .int .i64 o, .slice A js.length c] 30 (0, 0)) := by rw [hW0]; exact (Below.heap_alloc _ _ _ (by simp; omega)).trans ((Below.heap_alloc _ _ _ (by simp)).trans (heap_alloc_at _ _ _ rfl))
  have k2 : W0.heap[w.heap.size + 1]? = some (.cells #[.int .i64 a, .int .i64 b] 38 (0, 0)) := by rw [hW0]; exact (Below.heap_alloc _ _ _ (by simp)).trans (heap_alloc_at _ _ _ (by simp))
  have k3 : W0.heap[w.heap.size + 1 + 1]? = some (.cells #[.int .i64 0, .int .i64 0, .int .i64 0, .slice none 0 0] 30 (0, 0)) := by rw [hW0]; exact heap_alloc_at _ _ _ (by simp)
  cases hg : good ⟨s, f, o, js⟩
  · have ht : addR s f o js (a, b) = noBd := by rw [addR, hg, Bool.false_and]; rfl
    rw [ht]
    have HG := Lib.hid hg; clear hg ht
    go_enter Try.func16, Try.ntmps16
    go_wp2_with fail
    rw [← hW0]
    refine (implIsBoard_any _ _ _ _ _ _ _ (hj.later h0 h0.size)).mono ?_
    rintro e w1 ⟨rfl, hx⟩
    rw [HG.out]
    rw [z0] at hx
    have q3 := cell_at hx (by omega) k3
    have f3 := free_at hx (by omega) k3
    have hb1 := h0.trans (hx.mono (by omega))
    clear hW0
    go_wp2
    exact bodyPost_ret (v := .tuple #[.agg #[.int .i64 0, .int .i64 0, .int .i64 0, .slice none 0 0], .bool false]) (by simp [results, Try.results16, go_sem, q3]) rfl
      ⟨none, 0, rfl, .inl rfl, (((hb1.setCell (by dsimp only; omega) _).setCell (by dsimp only; omega) _).setCell (by dsimp only; omega) _).setCell (by dsimp only; omega) _⟩
  · have hz := good_sizes hg
    obtain ⟨⟨⟨r1, r2, r3, rl⟩, rb⟩, hR⟩ : ∃ R, R = addR s f o js (a, b) := ⟨_, rfl⟩
    rw [← hR]
    have hw1 : wfJ (js ++ [(a, b)]) := fun j hjm => by
      rcases List.mem_append.1 hjm with h | h
      · exact hj.2.1 j h
      · obtain rfl : j = (a, b) := by simpa using h
        exact ⟨ha, hb⟩
    have HG := Lib.hid hg; have HR := Lib.hid hR; clear hg hR
    go_enter Try.func16, Try.ntmps16
    go_wp2_with fail
    rw [← hW0]
    refine (implIsBoard_any _ _ _ _ _ _ _ (hj.later h0 h0.size)).mono ?_
    rintro e w1 ⟨rfl, hx⟩
    rw [HG.out]
    rw [z0] at hx
    have q1 := cell_at hx (by omega) k1
    have hb1 := h0.trans (hx.mono (by omega))
    have hs1 := hx.size
    have HW := Lib.hid hW0
    clear hW0
    go_wp2_with fail
    refine (thatAll_any s f o A c js w1 (hj.later hb1 hb1.size)).mono ?_
    rintro e w2 ⟨v, rfl, ho, hx2⟩
    rw [filter_allJ] at ho
    obtain ⟨A2, c2, rfl⟩ := own_sl ho
    have hs2 := hx2.size
    have hx02 : Below (w.heap.size + 3) W0 w2 := hx.trans (hx2.mono (by omega))
    have hSo : ∀ w', Below (w.heap.size + 2) W0 w' → (Below (w.heap.size + 2) W0 w' ∧ (∀ i, w'.cell? ⟨w.heap.size, i, none⟩ = #[.int .i64 s, .int .i64 f, .int .i64 o, .slice A js.length c][i]?) ∧ (∀ i, w'.cell? ⟨w.heap.size + 1, i, none⟩ = #[.int .i64 a, .int .i64 b][i]?)) :=
      fun w' hb => ⟨hb, cell_at hb (by omega) k1, cell_at hb (by omega) k2⟩
    have HSO := Lib.hid hSo; clear hSo q1
    go_wp2_with fail
    have hbd := hx02.drew
    have hod : World.ownsRow w2.drew (w1.heap.size + 1) 38 2 (.slice A2 js.length c2) js.length (flatJ js) := ho
    refine wp_region_held_drew (S := (fun w' => Below (w.heap.size + 2) W0 w' ∧ (∀ i, w'.cell? ⟨w.heap.size, i, none⟩ = #[.int .i64 s, .int .i64 f, .int .i64 o, .slice A js.length c][i]?) ∧ (∀ i, w'.cell? ⟨w.heap.size + 1, i, none⟩ = #[.int .i64 a, .int .i64 b][i]?))) (by kernel_rfl) (HSO.out _ (hbd.mono (by omega))) (fun hS => ?_)
    refine wpAnyH_take (i := 0) (oi := ⟨some 13, _, _, _, _, _⟩) (v := ?va1) rfl (by kernel_rfl) (by kernel_rfl) (by kernel_rfl) (fun _ _ _ h => h) (Or.inl ⟨by rfl, ?ha1⟩) hS ?ra1
    case ha1 => (intro w' hSw; (try dsimp only at hSw); go_simp; (try with_reducible rfl))
    try simp only [Act.put, List.setIfInBounds_toArray, List.set_cons_zero, List.set_cons_succ]
    refine wpAnyH_take (i := 1) (oi := ⟨some 14, _, _, _, _, _⟩) (v := ?va2) rfl (by kernel_rfl) (by kernel_rfl) (by kernel_rfl) (fun _ _ _ h => h) (Or.inl ⟨by rfl, ?ha2⟩) hS ?ra2
    case ha2 => (intro w' hSw; (try dsimp only at hSw); go_simp; (try with_reducible rfl))
    try simp only [Act.put, List.setIfInBounds_toArray, List.set_cons_zero, List.set_cons_succ]
    refine wpAnyH_take (i := 2) (oi := ⟨some 15, _, _, _, _, _⟩) (v := ?va3) rfl (by kernel_rfl) (by kernel_rfl) (by kernel_rfl) (fun _ _ _ h => h) (Or.inl ⟨by rfl, ?ha3⟩) hS ?ra3
    case ha3 => (intro w' hSw; (try dsimp only at hSw); go_simp; (try with_reducible rfl))
    try simp only [Act.put, List.setIfInBounds_toArray, List.set_cons_zero, List.set_cons_succ]
    refine wpAnyH_ready (rs := [3]) (by kernel_rfl) (by simp) ?_
    refine AllReadyH.cons (o := ⟨some 16, _, _, _, _, _⟩) rfl (fun K' hK' => ?_) AllReadyH.nil
    go_simp
    have hb3 := hbd.alloc (Nat.le_trans (Nat.le_of_eq z0.symm) hbd.size) (.cells #[.int .i64 a, .int .i64 b] 38)
    have ho3 := hod.alloc (.cells #[.int .i64 a, .int .i64 b] 38)
    have e3 := One2.made hbd 38 a b
    have hs3 : w1.heap.size + 1 ≤ (w2.drew.alloc (.cells #[.int .i64 a, .int .i64 b] 38)).heap.size := by simp; omega
    refine hK'.out _ _ (HSO.out _ (hb3.mono (by omega))) (fun _ => ?_)
    clear hK' K'
    try simp only [Act.put, List.setIfInBounds_toArray, List.set_cons_zero, List.set_cons_succ]
    refine wpAnyH_ready (rs := [4]) (by kernel_rfl) (by simp) ?_
    refine AllReadyH.cons (o := ⟨some 17, _, _, _, _, _⟩) rfl (fun K' hK' => ?_) AllReadyH.nil
    rw [if_pos (wanted_plain rfl)]
    refine wp_append_own _ _ _ 28 rfl (w1.heap.size + 1) 38 ti (.agg #[.int .i64 0, .int .i64 0]) 2 16 Try.underlying28 hi hz0 hz1 hz2 rfl (by decide) _ _ _ rfl ho3 ⟨_, 0, none⟩ 1 1 [.int .i64 a, .int .i64 b] rfl rfl (e3 _ (by simp)).cells (two_int _ _) (by unfold maxLen; omega) (by omega) hs3 ?_
    intro v4 w4 ho4 hg4 _
    have hb4 := hb3.grown hg4 (Nat.le_trans (Nat.le_of_eq z0.symm) hb3.size) (fun g hg => by have := own_from ho3 g hg; omega)
    have hf4 : flatJ js ++ [.int .i64 a, .int .i64 b] = flatJ (js ++ [(a, b)]) := by rw [flatJ_app]; rfl
    rw [hf4] at ho4
    obtain ⟨A4, c4, rfl⟩ := own_sl ho4
    have hs4 := hb4.size
    refine hK'.out _ _ (HSO.out _ (hb4.mono (by omega))) (fun _ => ?_)
    clear hK' K'
    try simp only [Act.put, List.setIfInBounds_toArray, List.set_cons_zero, List.set_cons_succ]
    refine wpAnyH_ready (rs := [5]) (by kernel_rfl) (by simp) ?_
    refine AllReadyH.cons (o := ⟨some 18, _, _, _, _, _⟩) rfl (fun K' hK' => ?_) AllReadyH.nil
    go_simp
    go_at_call 42
    refine (withJumps_any s f o A A4 js.length c c4 (w1.heap.size + 1) (js.length + 1) (js ++ [(a, b)]) (by simp) _ (own_row ho4 (by simp)) (by omega) hw1 (Nat.le_trans hs3 hg4.size)).mono ?_
    rintro e w5 ⟨L', hp, hu, hback⟩
    rw [addR_sorted HG.out hp hu, ← HR.out] at hback
    obtain ⟨A5, c5, rfl, ho5, hx5⟩ := hback
    dsimp only at ho5
    have hb5 : Below (w.heap.size + 3) W0 w5 := hb4.trans (hx5.mono (by omega))
    have q3 := cell_at hb5 (by omega) k3
    have f3 := free_at hb5 (by omega) k3
    refine hK'.out _ _ (HSO.out _ (hb5.mono (by omega))) (fun _ => ?_)
    clear hK' K'
    try simp only 
    refine wpAnyH_take (i := 6) (oi := ⟨some 19, _, _, _, _, _⟩) (v := ?va4) rfl (by kernel_rfl) (by kernel_rfl) (by kernel_rfl) (fun _ _ _ h => h) (Or.inl ⟨by rfl, ?ha4⟩) (HSO.out _ (hb5.mono (by omega))) ?ra4
    case ha4 => (intro w' hSw; (try dsimp only at hSw); go_simp; (try with_reducible rfl))
    try simp only [Act.put, List.setIfInBounds_toArray, List.set_cons_zero, List.set_cons_succ]
    refine wpAnyH_take (i := 7) (oi := ⟨some 20, _, _, _, _, _⟩) (v := ?va5) rfl (by kernel_rfl) (by kernel_rfl) (by kernel_rfl) (fun _ _ _ h => h) (Or.inl ⟨by rfl, ?ha5⟩) (HSO.out _ (hb5.mono (by omega))) ?ra5
    case ha5 => (intro w' hSw; (try dsimp only at hSw); go_simp; (try with_reducible rfl))
    try simp only [Act.put, List.setIfInBounds_toArray, List.set_cons_zero, List.set_cons_succ]
    refine wpAnyH_ready (rs := [8]) (by kernel_rfl) (by simp) ?_
    refine AllReadyH.cons (o := ⟨none, _, _, _, _, _⟩) rfl (fun K' hK' => ?_) AllReadyH.nil
    go_simp
    have hb6 := ((((hb5.mono (show w.heap.size + 2 ≤ w.heap.size + 3 by omega)).setCell (p := ⟨w.heap.size + 1 + 1, 0, none⟩) (by dsimp only; omega) (.int .i64 r1)).setCell (p := ⟨w.heap.size + 1 + 1, 1, none⟩) (by dsimp only; omega) (.int .i64 r2)).setCell (p := ⟨w.heap.size + 1 + 1, 2, none⟩) (by dsimp only; omega) (.int .i64 r3)).setCell (p := ⟨w.heap.size + 1 + 1, 3, none⟩) (by dsimp only; omega) (.slice A5 rl.length c5)
    refine hK'.out _ _ (HSO.out _ hb6) (fun _ => ?_)
    clear hK' K'
    try simp only [Act.put, List.setIfInBounds_toArray, List.set_cons_zero, List.set_cons_succ]
    refine wpAnyH_ready (rs := [9]) (by kernel_rfl) (by simp) ?_
    refine AllReadyH.cons (o := ⟨some 5, _, _, _, _, _⟩) rfl (fun K' hK' => ?_) AllReadyH.nil
    go_simp
    refine hK'.out _ _ (HSO.out _ hb6) (fun _ => ?_)
    clear hK' K'
    try simp only [Act.put, List.setIfInBounds_toArray, List.set_cons_zero, List.set_cons_succ]
    refine wpAnyH_done (by kernel_rfl) ?_ _
    go_wp2_with fail
    refine bodyPost_ret (v := .tuple #[.agg #[.int .i64 r1, .int .i64 r2, .int .i64 r3, .slice A5 rl.length c5], .bool rb]) (by simp [results, Try.results16, go_sem, q3]) rfl ?_
    exact ⟨A5, c5, rfl, ((((ho5.farlo (p := ⟨w.heap.size + 1 + 1, 0, none⟩) (by dsimp only; omega) (.int .i64 r1)).farlo (p := ⟨w.heap.size + 1 + 1, 1, none⟩) (by dsimp only; omega) (.int .i64 r2)).farlo (p := ⟨w.heap.size + 1 + 1, 2, none⟩) (by dsimp only; omega) (.int .i64 r3)).farlo (p := ⟨w.heap.size + 1 + 1, 3, none⟩) (by dsimp only; omega) (.slice A5 rl.length c5)).lo (by omega), h0.trans (hb6.mono (by omega))⟩
end Go.Proofs.Ytndodohngeaklaa

/-
  Plays: the program's moveOf.
-/
import Derived.Test.YtmhffdgfkgdmlaaC7dv
import Derived.Test.YtmhffdgfkgdmlaaC7zi
import Derived.Deep.RegionWith
import Derived.Deep.RegionHeld3
import Derived.Deep.CutRange
namespace Go.Proofs.Ytmhffdgfkgdmlaa
open Go.RowKit

theorem heap_three (w : World) (g : Nat) (a b c a' b' c' : Value) (t : TypeId) (h : w.heap[g]? = some (.cells #[a, b, c] t (0, 0))) : (((w.setCell ⟨g, 0, none⟩ a').setCell ⟨g, 1, none⟩ b').setCell ⟨g, 2, none⟩ c').heap[g]? = some (.cells #[a', b', c'] t (0, 0)) := by
  have h1 := heap_set _ g 2 _ t c' (heap_set _ g 1 _ t b' (heap_set w g 0 _ t a' h))
  exact h1
theorem sizeMove : (Try.prog.info? 166).map (·.size) = some 3 := by kernel_rfl

set_option maxRecDepth 100000 in
set_option maxHeartbeats 2000000 in
theorem moveOf_any (g : Nat) (q f k : Int) (A A' : Option Addr) (n c c' : Nat) (S : Nat → Bool) (xs : List Int) (w : World) (hR : RP w g 75 q f k A n c S) (hx : RI w w.heap.size A' xs) (hn : n ≤ 1048576) (hk : 0 ≤ k) (hk4 : k ≤ 4) :
    Calls Try.prog 109 #[.pointer (some ⟨g, 0, none⟩), .slice A' xs.length c'] w fun e w' => ∃ x y z : Int, e = .returned (.tuple #[.agg #[.int .i64 x, .int .i64 y, .int .i64 z], .bool (isMv f k n xs)]) ∧ (isMv f k n xs = true → x = m0 xs ∧ y = m1 xs ∧ z = m2 xs) ∧ Below w.heap.size w w' := by
  have hl := hx.1
  have hgw := hR.lt
  obtain ⟨RB, hRB⟩ : ∃ RB, RB = isMv f k n xs := ⟨_, rfl⟩
  rw [← hRB]
  by_cases h3 : xs.length = 3
  · obtain ⟨b, off, rfl, hB, c0⟩ := hx.at_ (Below.refl _ _) (k := 0) (by omega)
    obtain ⟨_, _, e1, _, c1⟩ := hx.at_ (Below.refl _ _) (k := 1) (by omega)
    simp at e1
    obtain ⟨rfl, rfl⟩ := e1
    obtain ⟨_, _, e2, _, c2⟩ := hx.at_ (Below.refl _ _) (k := 2) (by omega)
    simp at e2
    obtain ⟨rfl, rfl⟩ := e2
    have hb : RB = mvB f k n (m0 xs) (m1 xs) (m2 xs) := by rw [hRB, isMv, decide_eq_true h3, Bool.true_and]
    have e0 : xs[0]'(by omega) = m0 xs := by unfold m0; rw [List.getD_eq_getElem?_getD, List.getElem?_eq_getElem (by omega)]; rfl
    have e1 : xs[1]'(by omega) = m1 xs := by unfold m1; rw [List.getD_eq_getElem?_getD, List.getElem?_eq_getElem (by omega)]; rfl
    have e2 : xs[2]'(by omega) = m2 xs := by unfold m2; rw [List.getD_eq_getElem?_getD, List.getElem?_eq_getElem (by omega)]; rfl
    rw [e0, Nat.add_zero] at c0
    rw [e1] at c1
    rw [e2] at c2
    obtain ⟨x, hxx⟩ : ∃ x, x = m0 xs := ⟨_, rfl⟩
    obtain ⟨y, hyy⟩ : ∃ y, y = m1 xs := ⟨_, rfl⟩
    obtain ⟨z, hzz⟩ : ∃ z, z = m2 xs := ⟨_, rfl⟩
    rw [← hxx] at c0 hb
    rw [← hyy] at c1 hb
    rw [← hzz] at c2 hb
    have HX := Lib.hid hxx; have HY := Lib.hid hyy; have HZ := Lib.hid hzz; have HB := Lib.hid hb
    rw [h3]
    clear hxx hyy hzz hb hRB e0 e1 e2 hx
    go_enter Try.func109, Try.ntmps109
    go_upto_region 3 with fail
    obtain ⟨W1, hW1⟩ : ∃ W1, W1 = w.alloc (.cells #[.int .i64 0, .int .i64 0, .int .i64 0] 166) := ⟨_, rfl⟩
    have hS1 : W1.heap.size = w.heap.size + 1 := by rw [hW1]; simp
    have hb1 : Below w.heap.size w W1 := by rw [hW1]; exact below1 _ _
    have k1 : W1.heap[w.heap.size]? = some (.cells #[.int .i64 0, .int .i64 0, .int .i64 0] 166 (0, 0)) := by rw [hW1]; exact heap_alloc_at _ _ _ rfl
    rw [← hW1]
    replace c0 := (bcell hb1 hB).trans c0
    replace c1 := (bcell hb1 hB).trans c1
    replace c2 := (bcell hb1 hB).trans c2
    have HS1 := Lib.hid hS1
    have hbW : b < W1.heap.size := by omega
    clear hW1 hS1
    go_cut [6] from 11 to 21 (fun s6 wx => s6 = .pointer (some ⟨W1.heap.size, 0, none⟩) ∧ wx = (W1.alloc (.cells #[.int .i64 x, .int .i64 y, .int .i64 z] 166)).drew)
    case first =>
      go_region_held3 (fun w' => w'.cell? ⟨b, off, none⟩ = some (.int .i64 x) ∧ w'.cell? ⟨b, off + 1, none⟩ = some (.int .i64 y) ∧ w'.cell? ⟨b, off + 2, none⟩ = some (.int .i64 z)) (go_keep) (fail)
      all_goals (go_wp2_with fail; go_meet; exact ⟨rfl, rfl⟩)
    case rest =>
      obtain ⟨rfl, hwc⟩ := hcut
      have kN : wc.heap[W1.heap.size]? = some (.cells #[.int .i64 x, .int .i64 y, .int .i64 z] 166 (0, 0)) := by rw [hwc]; exact heap_alloc_at _ _ _ rfl
      have k0 : wc.heap[w.heap.size]? = some (.cells #[.int .i64 0, .int .i64 0, .int .i64 0] 166 (0, 0)) := by rw [hwc]; exact (Below.heap_alloc _ _ _ (by rw [HS1.out]; omega)).trans k1
      have hbc : Below w.heap.size w wc := by rw [hwc]; exact (hb1.alloc hb1.size _).drew
      have hRc := hR.below hbc hgw
      have hwz : w.heap.size < wc.heap.size := heap_lt k0
      have hWz : W1.heap.size < wc.heap.size := heap_lt kN
      have hne : W1.heap.size ≠ w.heap.size := by rw [HS1.out]; omega
      have qN := fun i => cell_of_row wc W1.heap.size i _ _ _ kN
      have q0 := fun i => cell_of_row wc w.heap.size i _ _ _ k0
      have f0 := fun i => frozen_row (i := i) k0
      clear hwc
      go_upto_region 4 with fail
      go_cut [5] from 22 to 25 (fun s5 wx => s5 = .bool RB ∧ Below w.heap.size w wx ∧ wx.heap[w.heap.size]? = some (.cells #[.int .i64 x, .int .i64 y, .int .i64 z] 166 (0, 0)))
      case first =>
        go_region_with (go_at_call 128; refine (hasMove_anyV g q f k A n c S _ (by first | exact hRc | exact hRc.drew | exact ((hRc.drew.far (p := ⟨w.heap.size, 0, none⟩) (by dsimp only; omega) _).far (p := ⟨w.heap.size, 1, none⟩) (by dsimp only; omega) _).far (p := ⟨w.heap.size, 2, none⟩) (by dsimp only; omega) _) x y z hn hk hk4).mono ?_; rintro e w5 ⟨rfl, hx5⟩; rw [← HB.out]; (try (have k5 := (hx5.block w.heap.size hwz).trans k0; have f5 := fun i => frozen_row (i := i) k5; have q5 := fun i => cell_of_row w5 w.heap.size i _ _ _ k5; have kN5 := (hx5.block W1.heap.size hWz).trans kN; have qN5 := fun i => cell_of_row w5 W1.heap.size i _ _ _ kN5)))
        all_goals
          go_wp2_with fail
          go_meet
          first
            | exact ⟨rfl, (((hbc.drew.trans (hx5.mono hbc.size)).setCell (p := ⟨w.heap.size, 0, none⟩) (Nat.le_refl _) _).setCell (p := ⟨w.heap.size, 1, none⟩) (Nat.le_refl _) _).setCell (p := ⟨w.heap.size, 2, none⟩) (Nat.le_refl _) _, heap_three _ _ _ _ _ _ _ _ _ k5⟩
            | exact ⟨rfl, (((hbc.drew.setCell (p := ⟨w.heap.size, 0, none⟩) (Nat.le_refl _) _).setCell (p := ⟨w.heap.size, 1, none⟩) (Nat.le_refl _) _).setCell (p := ⟨w.heap.size, 2, none⟩) (Nat.le_refl _) _).trans (hx5.mono (by simpa using hbc.size)), (hx5.block w.heap.size (by simpa using hwz)).trans (heap_three _ _ _ _ _ _ _ _ _ k0)⟩
      case rest =>
        obtain ⟨rfl, hbx, kx⟩ := hcut
        have qx := fun i => cell_of_row wc w.heap.size i _ _ _ kx
        go_wp2_with fail
        exact bodyPost_ret (v := .tuple #[.agg #[.int .i64 x, .int .i64 y, .int .i64 z], .bool RB]) (by simp [results, Try.results109, go_sem, qx]) rfl ⟨x, y, z, rfl, fun _ => ⟨HX.out, HY.out, HZ.out⟩, hbx⟩
  · have h3' : ¬ (xs.length : Int) = 3 := by omega
    have h3b : ((xs.length : Int) != 3) = true := by simpa using h3'
    have HB := Lib.hid (show false = RB by rw [hRB, isMv, decide_eq_false h3]; rfl)
    clear hRB
    go_enter Try.func109, Try.ntmps109
    have kb : (w.alloc (.cells #[.int .i64 0, .int .i64 0, .int .i64 0] 166)).heap[w.heap.size]? = some (.cells #[.int .i64 0, .int .i64 0, .int .i64 0] 166 (0, 0)) := heap_alloc_at _ _ _ rfl
    have q0 := fun i => cell_of_row _ w.heap.size i _ _ _ kb
    have f0 := fun i => frozen_row (i := i) kb
    go_wp2_with fail
    exact bodyPost_ret (v := .tuple #[.agg #[.int .i64 0, .int .i64 0, .int .i64 0], .bool false]) (by simp [results, Try.results109, go_sem, q0]) rfl ⟨0, 0, 0, by rw [HB.out], (fun e => by rw [← HB.out] at e; cases e), below1 _ _⟩
end Go.Proofs.Ytmhffdgfkgdmlaa

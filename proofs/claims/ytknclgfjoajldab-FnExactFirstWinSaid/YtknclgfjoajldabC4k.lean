/-
  Races: the program's contest, its winner and a throw.
-/
import Derived.Test.YtknclgfjoajldabC4b
import Derived.Test.YtknclgfjoajldabC4i
import Derived.Deep.RegionHeld3
namespace Go.Proofs.Ytknclgfjoajldab
open Go.RowKit

/-- A contest that lies at the start of block g. -/
structure NV (w : World) (g : Nat) (s f o : Int) (G : Nat → Int) (m : Bool) (x y : Int) : Prop where
  cv : CV w g s f o G
  me : w.cell? ⟨g, 104, none⟩ = some (.bool m)
  fi : w.cell? ⟨g, 105, none⟩ = some (.int .i64 x)
  ot : w.cell? ⟨g, 106, none⟩ = some (.int .i64 y)
theorem cts_cell (s f o : Int) (G : Nat → Int) (m : Bool) (x y : Int) : (∀ i, i < 104 → (ctsCells s f o G m x y)[i]? = (crsCells s f o G)[i]?) ∧ (ctsCells s f o G m x y)[104]? = some (.bool m) ∧ (ctsCells s f o G m x y)[105]? = some (.int .i64 x) ∧ (ctsCells s f o G m x y)[106]? = some (.int .i64 y) := by
  have h := crs_size s f o G
  unfold ctsCells
  refine ⟨fun i hi => ?_, ?_, ?_, ?_⟩
  · rw [Array.getElem?_append_left (by omega)]
  all_goals rw [Array.getElem?_append_right (by omega), h]; rfl
theorem NA.nv {w : World} {g : Nat} {s f o : Int} {G : Nat → Int} {m : Bool} {x y : Int} (h : NA w g s f o G m x y) : NV w g s f o G m x y := by
  have c := fun i => cell_of_row w g i _ _ _ h
  obtain ⟨h0, h1, h2, h3⟩ := cts_cell s f o G m x y
  exact ⟨⟨(c 0).trans ((h0 0 (by omega)).trans (crs_0 s f o _)), (c 1).trans ((h0 1 (by omega)).trans (crs_1 s f o _)), (c 2).trans ((h0 2 (by omega)).trans (crs_2 s f o _)), fun {i} hi => (c (3 + i)).trans ((h0 (3 + i) (by omega)).trans (crs_at s f o _ i hi))⟩, (c 104).trans h1, (c 105).trans h2, (c 106).trans h3⟩
theorem NV.below {w w' : World} {g B : Nat} {s f o : Int} {G : Nat → Int} {m : Bool} {x y : Int} (h : NV w g s f o G m x y) (hb : Below B w w') (hg : g < B) : NV w' g s f o G m x y := ⟨h.cv.below hb hg, (bcell hb hg).trans h.me, (bcell hb hg).trans h.fi, (bcell hb hg).trans h.ot⟩

theorem idx2_0 (x y : Int) (W : World) : (Instr.index 63 (.agg #[.int .i64 x, .int .i64 y]) (.int .i64 0)).run Try.prog W = .ok (.int .i64 x) W := by kernel_rfl
theorem idx2_1 (x y : Int) (W : World) : (Instr.index 63 (.agg #[.int .i64 x, .int .i64 y]) (.int .i64 1)).run Try.prog W = .ok (.int .i64 y) W := by kernel_rfl
set_option maxRecDepth 100000 in
theorem winner_any (g : Nat) (s f o : Int) (G : Nat → Int) (m : Bool) (u v x y : Int) (w : World) (hN : NV w g s f o G m u v) (hgw : g < w.heap.size) :
    Calls Try.prog 71 #[.pointer (some ⟨g, 0, none⟩), .agg #[.int .i64 x, .int .i64 y]] w fun e w' => e = .returned (.int .i64 (wonR s x y)) ∧ Below w.heap.size w w' := by
  have c0 := hN.cv.sq
  have x0 := idx2_0 x y
  have x1 := idx2_1 x y
  clear hN
  go_enter Try.func71, Try.ntmps71
  go_wp2_with fail
  go_loop [5, 6, 8] (fun _ _ i => i = .int .i64 0 ∨ (i = .int .i64 1 ∧ ¬ x = s) ∨ (i = .int .i64 2 ∧ ¬ x = s ∧ ¬ y = s)) (fun _ _ i => 2 - (intOf i).toNat)
  case atStart => exact .inl rfl
  case round =>
    rcases hrel with rfl | ⟨rfl, h1⟩ | ⟨rfl, h1, h2⟩
    · by_cases h1 : x = s
      · have HV := Lib.hid (show wonR s x y = 1 by unfold wonR; rw [if_pos h1])
        have e1 : (x == s) = true := by simp [h1]
        clear h1
        go_wp2_with fail
        go_ret
        exact ⟨by rw [HV.out]; rfl, below1 _ _⟩
      · have e1 : (x == s) = false := by simp [h1]
        have HX := Lib.hid h1
        clear h1
        go_wp2_with fail
        go_round
        case rel => exact .inr (.inl ⟨rfl, HX.out⟩)
        case measure => simp [intOf]
    · by_cases h2 : y = s
      · have HV := Lib.hid (show wonR s x y = 2 by unfold wonR; rw [if_neg h1, if_pos h2])
        have e1 : (y == s) = true := by simp [h2]
        clear h1 h2
        go_wp2_with fail
        go_ret
        exact ⟨by rw [HV.out]; rfl, below1 _ _⟩
      · have e1 : (y == s) = false := by simp [h2]
        have HX := Lib.hid (And.intro h1 h2)
        clear h1 h2
        go_wp2_with fail
        go_round
        case rel => exact .inr (.inr ⟨rfl, HX.out.1, HX.out.2⟩)
        case measure => simp [intOf]
    · have HV := Lib.hid (show wonR s x y = 0 by unfold wonR; rw [if_neg h1, if_neg h2])
      clear h1 h2
      go_wp2_with fail
      go_ret
      exact ⟨by rw [HV.out]; rfl, below1 _ _⟩

/-- What a throw hands back. -/
def BehBack (w : World) (R : (Int × Int) × Bool) (e : Ending) (w' : World) : Prop :=
  e = .returned (.tuple #[.agg #[.int .i64 R.1.1, .int .i64 R.1.2], .bool R.2]) ∧ Below w.heap.size w w'
theorem cell_atB {W0 w : World} {B b : Nat} {cs : Array Value} {t : TypeId} (hb : Below B W0 w) (hB : b < B) (k : W0.heap[b]? = some (.cells cs t (0, 0))) : ∀ i, w.cell? ⟨b, i, none⟩ = cs[i]? := fun i => (bcell hb hB).trans (cell_of_row W0 b i _ _ _ k)
theorem free_atB {W0 w : World} {B b : Nat} {cs : Array Value} {t : TypeId} (hb : Below B W0 w) (hB : b < B) (k : W0.heap[b]? = some (.cells cs t (0, 0))) : ∀ i, w.frozen? ⟨b, i, none⟩ = false := fun i => frozen_row (i := i) ((hb.block _ hB).trans k)
set_option maxHeartbeats 2000000 in
set_option maxRecDepth 100000 in
theorem throw_any (g : Nat) (s f o me u v x y : Int) (sec : Bool) (face : Int) (js : List (Int × Int)) (w : World) (hN : NV w g s f o (fun i => jumpOf js i) (me == 1) u v) (hgw : g < w.heap.size) (hg : good ⟨s, f, o, js⟩ = true) (hx : sqR s js x) (hy : sqR s js y) (hf0 : 1 ≤ face) (hf : face ≤ 8) :
    Calls Try.prog 83 #[.pointer (some ⟨g, 0, none⟩), .agg #[.int .i64 x, .int .i64 y], .int .i64 (if sec then 1 else 0), .int .i64 face] w (BehBack w (stepR s o js me x y sec face)) := by
  have hz := good_sizes hg
  have HEND := Lib.hid (good_end hg)
  obtain ⟨W0, hW0⟩ : ∃ W0, W0 = (w.alloc (.cells #[.int .i64 x, .int .i64 y] 63)).alloc (.cells #[.int .i64 0, .int .i64 0] 63) := ⟨_, rfl⟩
  have z0 : W0.heap.size = w.heap.size + 2 := by rw [hW0]; simp
  have h0 : Below w.heap.size w W0 := by rw [hW0]; exact below2 _ _ _
  have k0 : W0.heap[w.heap.size]? = some (.cells #[.int .i64 x, .int .i64 y] 63 (0, 0)) := by rw [hW0]; exact (Below.heap_alloc _ _ _ (by simp)).trans (heap_alloc_at _ _ _ rfl)
  have k1 : W0.heap[w.heap.size + 1]? = some (.cells #[.int .i64 0, .int .i64 0] 63 (0, 0)) := by rw [hW0]; exact heap_alloc_at _ _ _ (by simp)
  have HW := Lib.hid hW0; clear hW0
  have hN0 := hN.below h0 hgw
  have HN0 := Lib.hid hN0
  have HG := Lib.hid hg; have HX := Lib.hid hx; have HY := Lib.hid hy
  clear hg hx hy hN hN0
  have hx0 := HX.out.1; have hx1 := HX.out.2.1; have hy0 := HY.out.1; have hy1 := HY.out.2.1
  by_cases hw : wonR s x y = 0
  · have hxs : ¬ x = s := (wonR_iff.1 hw).1
    have hys : ¬ y = s := (wonR_iff.1 hw).2
    have HWON := Lib.hid hw; clear hw
    cases sec
    · obtain ⟨n, hn⟩ : ∃ n, thrown s o js x face = n := ⟨_, rfl⟩
      have hni := thrown_in (o := o) HG.out hx0 hx1 hf0
      rw [hn] at hni
      have HN := Lib.hid hn
      by_cases c1 : me = 1
      · by_cases c2 : n = y
        · by_cases c4 : n = 0
          · have HR := Lib.hid (show stepR s o js me x y false face = ((n, y), false) by rw [← hn]; exact stepR_f_no HWON.out (by rw [hn]; omega))
            have d1 : (me == 1) = true := by simp [c1]
            have d2 : (n != y) = false := by simp [c2]
            have d4 : (n == 0) = true := by simp [c4]
            clear c1 c2 c4 hn
            rw [HR.out]
            rw [d1] at HN0
            go_enter Try.func83, Try.ntmps83
            go_wp2_with fail
            rw [← HW.out]
            refine (winner_any g s f o _ _ u v x y _ HN0.out (by omega)).mono ?_
            rintro e w1 ⟨rfl, hb⟩
            rw [HWON.out]
            rw [z0] at hb
            have hb1 := hb
            have q0 := cell_atB hb (by omega) k0
            have f0 := free_atB hb (by omega) k0
            go_wp2_with fail
            refine (behind_any g s f o js x face _ ((HN0.out.below hb (by omega)).cv) hz.1.1 hz.1.2 hz.2.2.1.1 hz.2.2.1.2 HX.out.1 HX.out.2.1 HEND.out HX.out.2.2 hf0 hf).mono ?_
            rintro e w2 ⟨rfl, md, rfl⟩
            rw [HN.out]
            have hb3 := drewB hb md
            clear q0 f0
            have q0 := cell_atB hb3 (by omega) k0
            have f0 := free_atB hb3 (by omega) k0
            have q1 := cell_atB hb3 (by omega) k1
            have f1 := free_atB hb3 (by omega) k1
            have cm := (HN0.out.below hb3 (by omega)).me
            have hlt : w.heap.size + 1 < w1.heap.size := by have := hb.size; omega
            have hgne : ¬ g = w.heap.size := by omega
            have hbb := h0.trans (hb3.mono (by omega))
            go_wp2_with fail
            refine bodyPost_ret (v := .tuple #[.agg #[.int .i64 n, .int .i64 y], .bool false]) (by simp [results, Try.results83, go_sem, q1]) rfl ?_
            exact ⟨rfl, ((hbb.setCell (by dsimp only; omega) _).setCell (by dsimp only; omega) _).setCell (by dsimp only; omega) _⟩
          · by_cases c3 : n = x
            · have HR := Lib.hid (show stepR s o js me x y false face = ((n, y), false) by rw [← hn]; exact stepR_f_no HWON.out (by rw [hn]; omega))
              have d1 : (me == 1) = true := by simp [c1]
              have d2 : (n != y) = false := by simp [c2]
              have d4 : (n == 0) = false := by simp [c4]
              have d3 : (n == x) = true := by simp [c3]
              clear c1 c2 c3 c4 hn
              rw [HR.out]
              rw [d1] at HN0
              go_enter Try.func83, Try.ntmps83
              go_wp2_with fail
              rw [← HW.out]
              refine (winner_any g s f o _ _ u v x y _ HN0.out (by omega)).mono ?_
              rintro e w1 ⟨rfl, hb⟩
              rw [HWON.out]
              rw [z0] at hb
              have hb1 := hb
              have q0 := cell_atB hb (by omega) k0
              have f0 := free_atB hb (by omega) k0
              go_wp2_with fail
              refine (behind_any g s f o js x face _ ((HN0.out.below hb (by omega)).cv) hz.1.1 hz.1.2 hz.2.2.1.1 hz.2.2.1.2 HX.out.1 HX.out.2.1 HEND.out HX.out.2.2 hf0 hf).mono ?_
              rintro e w2 ⟨rfl, md, rfl⟩
              rw [HN.out]
              have hb3 := drewB hb md
              clear q0 f0
              have q0 := cell_atB hb3 (by omega) k0
              have f0 := free_atB hb3 (by omega) k0
              have q1 := cell_atB hb3 (by omega) k1
              have f1 := free_atB hb3 (by omega) k1
              have cm := (HN0.out.below hb3 (by omega)).me
              have hlt : w.heap.size + 1 < w1.heap.size := by have := hb.size; omega
              have hgne : ¬ g = w.heap.size := by omega
              have hbb := h0.trans (hb3.mono (by omega))
              go_wp2_with fail
              refine bodyPost_ret (v := .tuple #[.agg #[.int .i64 n, .int .i64 y], .bool false]) (by simp [results, Try.results83, go_sem, q1]) rfl ?_
              exact ⟨rfl, ((hbb.setCell (by dsimp only; omega) _).setCell (by dsimp only; omega) _).setCell (by dsimp only; omega) _⟩
            · have HR := Lib.hid (show stepR s o js me x y false face = ((n, 0), true) by rw [← hn]; exact stepR_f_yes HWON.out c1 (by rw [hn]; exact c2) (by rw [hn]; exact c3) (by rw [hn]; exact c4))
              have d1 : (me == 1) = true := by simp [c1]
              have d2 : (n != y) = false := by simp [c2]
              have d4 : (n == 0) = false := by simp [c4]
              have d3 : (n == x) = false := by simp [c3]
              clear c1 c2 c3 c4 hn
              rw [HR.out]
              rw [d1] at HN0
              go_enter Try.func83, Try.ntmps83
              go_wp2_with fail
              rw [← HW.out]
              refine (winner_any g s f o _ _ u v x y _ HN0.out (by omega)).mono ?_
              rintro e w1 ⟨rfl, hb⟩
              rw [HWON.out]
              rw [z0] at hb
              have hb1 := hb
              have q0 := cell_atB hb (by omega) k0
              have f0 := free_atB hb (by omega) k0
              go_wp2_with fail
              refine (behind_any g s f o js x face _ ((HN0.out.below hb (by omega)).cv) hz.1.1 hz.1.2 hz.2.2.1.1 hz.2.2.1.2 HX.out.1 HX.out.2.1 HEND.out HX.out.2.2 hf0 hf).mono ?_
              rintro e w2 ⟨rfl, md, rfl⟩
              rw [HN.out]
              have hb3 := drewB hb md
              clear q0 f0
              have q0 := cell_atB hb3 (by omega) k0
              have f0 := free_atB hb3 (by omega) k0
              have q1 := cell_atB hb3 (by omega) k1
              have f1 := free_atB hb3 (by omega) k1
              have cm := (HN0.out.below hb3 (by omega)).me
              have hlt : w.heap.size + 1 < w1.heap.size := by have := hb.size; omega
              have hgne : ¬ g = w.heap.size := by omega
              have hbb := h0.trans (hb3.mono (by omega))
              go_wp2_with fail
              refine bodyPost_ret (v := .tuple #[.agg #[.int .i64 n, .int .i64 0], .bool true]) (by simp [results, Try.results83, go_sem, q1]) rfl ?_
              exact ⟨rfl, (((hbb.setCell (by dsimp only; omega) _).setCell (by dsimp only; omega) _).setCell (by dsimp only; omega) _).setCell (by dsimp only; omega) _⟩
        · have HR := Lib.hid (show stepR s o js me x y false face = ((n, y), false) by rw [← hn]; exact stepR_f_no HWON.out (by rw [hn]; omega))
          have d1 : (me == 1) = true := by simp [c1]
          have d2 : (n != y) = true := by simp [c2]
          clear c1 c2 hn
          rw [HR.out]
          rw [d1] at HN0
          go_enter Try.func83, Try.ntmps83
          go_wp2_with fail
          rw [← HW.out]
          refine (winner_any g s f o _ _ u v x y _ HN0.out (by omega)).mono ?_
          rintro e w1 ⟨rfl, hb⟩
          rw [HWON.out]
          rw [z0] at hb
          have hb1 := hb
          have q0 := cell_atB hb (by omega) k0
          have f0 := free_atB hb (by omega) k0
          go_wp2_with fail
          refine (behind_any g s f o js x face _ ((HN0.out.below hb (by omega)).cv) hz.1.1 hz.1.2 hz.2.2.1.1 hz.2.2.1.2 HX.out.1 HX.out.2.1 HEND.out HX.out.2.2 hf0 hf).mono ?_
          rintro e w2 ⟨rfl, md, rfl⟩
          rw [HN.out]
          have hb3 := drewB hb md
          clear q0 f0
          have q0 := cell_atB hb3 (by omega) k0
          have f0 := free_atB hb3 (by omega) k0
          have q1 := cell_atB hb3 (by omega) k1
          have f1 := free_atB hb3 (by omega) k1
          have cm := (HN0.out.below hb3 (by omega)).me
          have hlt : w.heap.size + 1 < w1.heap.size := by have := hb.size; omega
          have hgne : ¬ g = w.heap.size := by omega
          have hbb := h0.trans (hb3.mono (by omega))
          go_wp2_with fail
          refine bodyPost_ret (v := .tuple #[.agg #[.int .i64 n, .int .i64 y], .bool false]) (by simp [results, Try.results83, go_sem, q1]) rfl ?_
          exact ⟨rfl, ((hbb.setCell (by dsimp only; omega) _).setCell (by dsimp only; omega) _).setCell (by dsimp only; omega) _⟩
      · have HR := Lib.hid (show stepR s o js me x y false face = ((n, y), false) by rw [← hn]; exact stepR_f_no HWON.out (by omega))
        have d1 : (me == 1) = false := by simp [c1]
        clear c1 hn
        rw [HR.out]
        rw [d1] at HN0
        go_enter Try.func83, Try.ntmps83
        go_wp2_with fail
        rw [← HW.out]
        refine (winner_any g s f o _ _ u v x y _ HN0.out (by omega)).mono ?_
        rintro e w1 ⟨rfl, hb⟩
        rw [HWON.out]
        rw [z0] at hb
        have hb1 := hb
        have q0 := cell_atB hb (by omega) k0
        have f0 := free_atB hb (by omega) k0
        go_wp2_with fail
        refine (behind_any g s f o js x face _ ((HN0.out.below hb (by omega)).cv) hz.1.1 hz.1.2 hz.2.2.1.1 hz.2.2.1.2 HX.out.1 HX.out.2.1 HEND.out HX.out.2.2 hf0 hf).mono ?_
        rintro e w2 ⟨rfl, md, rfl⟩
        rw [HN.out]
        have hb3 := drewB hb md
        clear q0 f0
        have q0 := cell_atB hb3 (by omega) k0
        have f0 := free_atB hb3 (by omega) k0
        have q1 := cell_atB hb3 (by omega) k1
        have f1 := free_atB hb3 (by omega) k1
        have cm := (HN0.out.below hb3 (by omega)).me
        have hlt : w.heap.size + 1 < w1.heap.size := by have := hb.size; omega
        have hgne : ¬ g = w.heap.size := by omega
        have hbb := h0.trans (hb3.mono (by omega))
        go_wp2_with fail
        refine bodyPost_ret (v := .tuple #[.agg #[.int .i64 n, .int .i64 y], .bool false]) (by simp [results, Try.results83, go_sem, q1]) rfl ?_
        exact ⟨rfl, ((hbb.setCell (by dsimp only; omega) _).setCell (by dsimp only; omega) _).setCell (by dsimp only; omega) _⟩
    · obtain ⟨n, hn⟩ : ∃ n, thrown s o js y face = n := ⟨_, rfl⟩
      have hni := thrown_in (o := o) HG.out hy0 hy1 hf0
      rw [hn] at hni
      have HN := Lib.hid hn
      by_cases c1 : me = 1
      · by_cases c2 : n = x
        · by_cases c4 : n = 0
          · have HR := Lib.hid (show stepR s o js me x y true face = ((x, n), false) by rw [← hn]; exact stepR_t_no HWON.out (by rw [hn]; omega))
            have d1 : (me == 1) = true := by simp [c1]
            have d2 : (n != x) = false := by simp [c2]
            have d4 : (n == 0) = true := by simp [c4]
            clear c1 c2 c4 hn
            rw [HR.out]
            rw [d1] at HN0
            go_enter Try.func83, Try.ntmps83
            go_wp2_with fail
            rw [← HW.out]
            refine (winner_any g s f o _ _ u v x y _ HN0.out (by omega)).mono ?_
            rintro e w1 ⟨rfl, hb⟩
            rw [HWON.out]
            rw [z0] at hb
            have hb1 := hb
            have q0 := cell_atB hb (by omega) k0
            have f0 := free_atB hb (by omega) k0
            go_wp2_with fail
            refine (behind_any g s f o js y face _ ((HN0.out.below hb (by omega)).cv) hz.1.1 hz.1.2 hz.2.2.1.1 hz.2.2.1.2 HY.out.1 HY.out.2.1 HEND.out HY.out.2.2 hf0 hf).mono ?_
            rintro e w2 ⟨rfl, md, rfl⟩
            rw [HN.out]
            have hb3 := drewB hb md
            clear q0 f0
            have q0 := cell_atB hb3 (by omega) k0
            have f0 := free_atB hb3 (by omega) k0
            have q1 := cell_atB hb3 (by omega) k1
            have f1 := free_atB hb3 (by omega) k1
            have cm := (HN0.out.below hb3 (by omega)).me
            have hlt : w.heap.size + 1 < w1.heap.size := by have := hb.size; omega
            have hgne : ¬ g = w.heap.size := by omega
            have hbb := h0.trans (hb3.mono (by omega))
            go_wp2_with fail
            refine bodyPost_ret (v := .tuple #[.agg #[.int .i64 x, .int .i64 n], .bool false]) (by simp [results, Try.results83, go_sem, q1]) rfl ?_
            exact ⟨rfl, ((hbb.setCell (by dsimp only; omega) _).setCell (by dsimp only; omega) _).setCell (by dsimp only; omega) _⟩
          · by_cases c3 : n = y
            · have HR := Lib.hid (show stepR s o js me x y true face = ((x, n), false) by rw [← hn]; exact stepR_t_no HWON.out (by rw [hn]; omega))
              have d1 : (me == 1) = true := by simp [c1]
              have d2 : (n != x) = false := by simp [c2]
              have d4 : (n == 0) = false := by simp [c4]
              have d3 : (n == y) = true := by simp [c3]
              clear c1 c2 c3 c4 hn
              rw [HR.out]
              rw [d1] at HN0
              go_enter Try.func83, Try.ntmps83
              go_wp2_with fail
              rw [← HW.out]
              refine (winner_any g s f o _ _ u v x y _ HN0.out (by omega)).mono ?_
              rintro e w1 ⟨rfl, hb⟩
              rw [HWON.out]
              rw [z0] at hb
              have hb1 := hb
              have q0 := cell_atB hb (by omega) k0
              have f0 := free_atB hb (by omega) k0
              go_wp2_with fail
              refine (behind_any g s f o js y face _ ((HN0.out.below hb (by omega)).cv) hz.1.1 hz.1.2 hz.2.2.1.1 hz.2.2.1.2 HY.out.1 HY.out.2.1 HEND.out HY.out.2.2 hf0 hf).mono ?_
              rintro e w2 ⟨rfl, md, rfl⟩
              rw [HN.out]
              have hb3 := drewB hb md
              clear q0 f0
              have q0 := cell_atB hb3 (by omega) k0
              have f0 := free_atB hb3 (by omega) k0
              have q1 := cell_atB hb3 (by omega) k1
              have f1 := free_atB hb3 (by omega) k1
              have cm := (HN0.out.below hb3 (by omega)).me
              have hlt : w.heap.size + 1 < w1.heap.size := by have := hb.size; omega
              have hgne : ¬ g = w.heap.size := by omega
              have hbb := h0.trans (hb3.mono (by omega))
              go_wp2_with fail
              refine bodyPost_ret (v := .tuple #[.agg #[.int .i64 x, .int .i64 n], .bool false]) (by simp [results, Try.results83, go_sem, q1]) rfl ?_
              exact ⟨rfl, ((hbb.setCell (by dsimp only; omega) _).setCell (by dsimp only; omega) _).setCell (by dsimp only; omega) _⟩
            · have HR := Lib.hid (show stepR s o js me x y true face = ((0, n), true) by rw [← hn]; exact stepR_t_yes HWON.out c1 (by rw [hn]; exact c2) (by rw [hn]; exact c3) (by rw [hn]; exact c4))
              have d1 : (me == 1) = true := by simp [c1]
              have d2 : (n != x) = false := by simp [c2]
              have d4 : (n == 0) = false := by simp [c4]
              have d3 : (n == y) = false := by simp [c3]
              clear c1 c2 c3 c4 hn
              rw [HR.out]
              rw [d1] at HN0
              go_enter Try.func83, Try.ntmps83
              go_wp2_with fail
              rw [← HW.out]
              refine (winner_any g s f o _ _ u v x y _ HN0.out (by omega)).mono ?_
              rintro e w1 ⟨rfl, hb⟩
              rw [HWON.out]
              rw [z0] at hb
              have hb1 := hb
              have q0 := cell_atB hb (by omega) k0
              have f0 := free_atB hb (by omega) k0
              go_wp2_with fail
              refine (behind_any g s f o js y face _ ((HN0.out.below hb (by omega)).cv) hz.1.1 hz.1.2 hz.2.2.1.1 hz.2.2.1.2 HY.out.1 HY.out.2.1 HEND.out HY.out.2.2 hf0 hf).mono ?_
              rintro e w2 ⟨rfl, md, rfl⟩
              rw [HN.out]
              have hb3 := drewB hb md
              clear q0 f0
              have q0 := cell_atB hb3 (by omega) k0
              have f0 := free_atB hb3 (by omega) k0
              have q1 := cell_atB hb3 (by omega) k1
              have f1 := free_atB hb3 (by omega) k1
              have cm := (HN0.out.below hb3 (by omega)).me
              have hlt : w.heap.size + 1 < w1.heap.size := by have := hb.size; omega
              have hgne : ¬ g = w.heap.size := by omega
              have hbb := h0.trans (hb3.mono (by omega))
              go_wp2_with fail
              refine bodyPost_ret (v := .tuple #[.agg #[.int .i64 0, .int .i64 n], .bool true]) (by simp [results, Try.results83, go_sem, q1]) rfl ?_
              exact ⟨rfl, (((hbb.setCell (by dsimp only; omega) _).setCell (by dsimp only; omega) _).setCell (by dsimp only; omega) _).setCell (by dsimp only; omega) _⟩
        · have HR := Lib.hid (show stepR s o js me x y true face = ((x, n), false) by rw [← hn]; exact stepR_t_no HWON.out (by rw [hn]; omega))
          have d1 : (me == 1) = true := by simp [c1]
          have d2 : (n != x) = true := by simp [c2]
          clear c1 c2 hn
          rw [HR.out]
          rw [d1] at HN0
          go_enter Try.func83, Try.ntmps83
          go_wp2_with fail
          rw [← HW.out]
          refine (winner_any g s f o _ _ u v x y _ HN0.out (by omega)).mono ?_
          rintro e w1 ⟨rfl, hb⟩
          rw [HWON.out]
          rw [z0] at hb
          have hb1 := hb
          have q0 := cell_atB hb (by omega) k0
          have f0 := free_atB hb (by omega) k0
          go_wp2_with fail
          refine (behind_any g s f o js y face _ ((HN0.out.below hb (by omega)).cv) hz.1.1 hz.1.2 hz.2.2.1.1 hz.2.2.1.2 HY.out.1 HY.out.2.1 HEND.out HY.out.2.2 hf0 hf).mono ?_
          rintro e w2 ⟨rfl, md, rfl⟩
          rw [HN.out]
          have hb3 := drewB hb md
          clear q0 f0
          have q0 := cell_atB hb3 (by omega) k0
          have f0 := free_atB hb3 (by omega) k0
          have q1 := cell_atB hb3 (by omega) k1
          have f1 := free_atB hb3 (by omega) k1
          have cm := (HN0.out.below hb3 (by omega)).me
          have hlt : w.heap.size + 1 < w1.heap.size := by have := hb.size; omega
          have hgne : ¬ g = w.heap.size := by omega
          have hbb := h0.trans (hb3.mono (by omega))
          go_wp2_with fail
          refine bodyPost_ret (v := .tuple #[.agg #[.int .i64 x, .int .i64 n], .bool false]) (by simp [results, Try.results83, go_sem, q1]) rfl ?_
          exact ⟨rfl, ((hbb.setCell (by dsimp only; omega) _).setCell (by dsimp only; omega) _).setCell (by dsimp only; omega) _⟩
      · have HR := Lib.hid (show stepR s o js me x y true face = ((x, n), false) by rw [← hn]; exact stepR_t_no HWON.out (by omega))
        have d1 : (me == 1) = false := by simp [c1]
        clear c1 hn
        rw [HR.out]
        rw [d1] at HN0
        go_enter Try.func83, Try.ntmps83
        go_wp2_with fail
        rw [← HW.out]
        refine (winner_any g s f o _ _ u v x y _ HN0.out (by omega)).mono ?_
        rintro e w1 ⟨rfl, hb⟩
        rw [HWON.out]
        rw [z0] at hb
        have hb1 := hb
        have q0 := cell_atB hb (by omega) k0
        have f0 := free_atB hb (by omega) k0
        go_wp2_with fail
        refine (behind_any g s f o js y face _ ((HN0.out.below hb (by omega)).cv) hz.1.1 hz.1.2 hz.2.2.1.1 hz.2.2.1.2 HY.out.1 HY.out.2.1 HEND.out HY.out.2.2 hf0 hf).mono ?_
        rintro e w2 ⟨rfl, md, rfl⟩
        rw [HN.out]
        have hb3 := drewB hb md
        clear q0 f0
        have q0 := cell_atB hb3 (by omega) k0
        have f0 := free_atB hb3 (by omega) k0
        have q1 := cell_atB hb3 (by omega) k1
        have f1 := free_atB hb3 (by omega) k1
        have cm := (HN0.out.below hb3 (by omega)).me
        have hlt : w.heap.size + 1 < w1.heap.size := by have := hb.size; omega
        have hgne : ¬ g = w.heap.size := by omega
        have hbb := h0.trans (hb3.mono (by omega))
        go_wp2_with fail
        refine bodyPost_ret (v := .tuple #[.agg #[.int .i64 x, .int .i64 n], .bool false]) (by simp [results, Try.results83, go_sem, q1]) rfl ?_
        exact ⟨rfl, ((hbb.setCell (by dsimp only; omega) _).setCell (by dsimp only; omega) _).setCell (by dsimp only; omega) _⟩
  · have HR := Lib.hid (fun sec => stepR_won (s := s) (o := o) (js := js) (me := me) (sec := sec) (face := face) hw)
    cases sec
    all_goals
      obtain ⟨v2, hv⟩ : ∃ v, wonR s x y = v := ⟨_, rfl⟩
      have hv0 : (v2 != 0) = true := by simp; rcases wonR_range s x y with h | h | h <;> omega
      have HV := Lib.hid hv
      clear hw hv
      rw [HR.out]
      go_enter Try.func83, Try.ntmps83
      go_wp2_with fail
      rw [← HW.out]
      refine (winner_any g s f o _ _ u v x y _ HN0.out (by omega)).mono ?_
      rintro e w1 ⟨rfl, hb⟩
      rw [HV.out]
      rw [z0] at hb
      have q0 := cell_atB hb (by omega) k0
      have q1 := cell_atB hb (by omega) k1
      have f1 := free_atB hb (by omega) k1
      have hlt : w.heap.size + 1 < w1.heap.size := by have := hb.size; omega
      have hbb := h0.trans (hb.mono (by omega))
      go_wp2_with fail
      refine bodyPost_ret (v := .tuple #[.agg #[.int .i64 x, .int .i64 y], .bool false]) (by simp [results, Try.results83, go_sem, q1]) rfl ?_
      exact ⟨rfl, (hbb.setCell (by dsimp only; omega) _).setCell (by dsimp only; omega) _⟩
end Go.Proofs.Ytknclgfjoajldab

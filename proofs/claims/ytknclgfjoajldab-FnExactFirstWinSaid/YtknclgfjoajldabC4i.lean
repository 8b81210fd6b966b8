/-
  Races: the model's raWon and raStep.
-/
import Derived.Test.YtknclgfjoajldabC4a
import Derived.Test.YtknclgfjoajldabM23
import Derived.Deep.QuietTactic
import Derived.BigQuiet
namespace Go.Proofs.Ytknclgfjoajldab
open Go.RowKit

theorem raWon_any (s f o me x y : Int) (A : Option Addr) (n c : Nat) (w : World) :
    Calls Try.prog 51 #[.agg #[.int .i64 s, .int .i64 f, .int .i64 o, .slice A n c, .int .i64 me, .int .i64 x, .int .i64 y]] w fun e w' => e = .returned (.int .i64 (wonR s x y)) ∧ Below w.heap.size w w' := by
  by_cases h1 : x = s
  · have e1 : (s == x) = true := by simp [h1]
    have HV := Lib.hid (show wonR s x y = 1 by unfold wonR; rw [if_pos h1])
    clear h1
    rw [HV.out]
    go_enter Try.func51, Try.ntmps51
    go_wp2
    go_ret
    exact ⟨rfl, below1 _ _⟩
  · have e1 : (s == x) = false := by simp; omega
    by_cases h2 : y = s
    · have e2 : (s == y) = true := by simp [h2]
      have HV := Lib.hid (show wonR s x y = 2 by unfold wonR; rw [if_neg h1, if_pos h2])
      clear h1 h2
      rw [HV.out]
      go_enter Try.func51, Try.ntmps51
      go_wp2
      go_ret
      exact ⟨rfl, below1 _ _⟩
    · have e2 : (s == y) = false := by simp; omega
      have HV := Lib.hid (show wonR s x y = 0 by unfold wonR; rw [if_neg h1, if_neg h2])
      clear h1 h2
      rw [HV.out]
      go_enter Try.func51, Try.ntmps51
      go_wp2
      go_ret
      exact ⟨rfl, below1 _ _⟩

section
variable {s o me x y face : Int} {js : List (Int × Int)}
theorem stepR_f_yes (h : wonR s x y = 0) (h1 : me = 1) (h2 : thrown s o js x face = y) (h3 : ¬ thrown s o js x face = x) (h4 : ¬ thrown s o js x face = 0) : stepR s o js me x y false face = ((thrown s o js x face, 0), true) := by
  unfold stepR; rw [if_neg (by simp [h]), if_neg (by simp), if_pos ⟨h1, h2, h3, h4⟩]
theorem stepR_f_no (h : wonR s x y = 0) (h1 : ¬ (me = 1 ∧ thrown s o js x face = y ∧ thrown s o js x face ≠ x ∧ thrown s o js x face ≠ 0)) : stepR s o js me x y false face = ((thrown s o js x face, y), false) := by
  unfold stepR; rw [if_neg (by simp [h]), if_neg (by simp), if_neg h1]
theorem stepR_t_yes (h : wonR s x y = 0) (h1 : me = 1) (h2 : thrown s o js y face = x) (h3 : ¬ thrown s o js y face = y) (h4 : ¬ thrown s o js y face = 0) : stepR s o js me x y true face = ((0, thrown s o js y face), true) := by
  unfold stepR; rw [if_neg (by simp [h]), if_pos rfl, if_pos ⟨h1, h2, h3, h4⟩]
theorem stepR_t_no (h : wonR s x y = 0) (h1 : ¬ (me = 1 ∧ thrown s o js y face = x ∧ thrown s o js y face ≠ y ∧ thrown s o js y face ≠ 0)) : stepR s o js me x y true face = ((x, thrown s o js y face), false) := by
  unfold stepR; rw [if_neg (by simp [h]), if_pos rfl, if_neg h1]
end
/-- What a step hands back. -/
def StepBack (w : World) (s f o : Int) (A : Option Addr) (n c : Nat) (me : Int) (R : (Int × Int) × Bool) (e : Ending) (w' : World) : Prop :=
  e = .returned (.tuple #[.agg #[.int .i64 s, .int .i64 f, .int .i64 o, .slice A n c, .int .i64 me, .int .i64 R.1.1, .int .i64 R.1.2], .bool R.2]) ∧ Below w.heap.size w w'

theorem cell_atS {W0 w : World} {B b : Nat} {cs : Array Value} {t : TypeId} (hb : Below B W0 w) (hB : b < B) (k : W0.heap[b]? = some (.cells cs t (0, 0))) : ∀ i, w.cell? ⟨b, i, none⟩ = cs[i]? := fun i => (bcell hb hB).trans (cell_of_row W0 b i _ _ _ k)
theorem free_atS {W0 w : World} {B b : Nat} {cs : Array Value} {t : TypeId} (hb : Below B W0 w) (hB : b < B) (k : W0.heap[b]? = some (.cells cs t (0, 0))) : ∀ i, w.frozen? ⟨b, i, none⟩ = false := fun i => frozen_row (i := i) ((hb.block _ hB).trans k)
theorem set7S {B n : Nat} {w0 w : World} (h : Below B w0 w) (hb : B ≤ n) (v0 v1 v2 v3 v4 v5 v6 : Value) : Below B w0 (((((((w.setCell ⟨n, 0, none⟩ v0).setCell ⟨n, 1, none⟩ v1).setCell ⟨n, 2, none⟩ v2).setCell ⟨n, 3, none⟩ v3).setCell ⟨n, 4, none⟩ v4).setCell ⟨n, 5, none⟩ v5).setCell ⟨n, 6, none⟩ v6) :=
  ((((((h.setCell hb _).setCell hb _).setCell hb _).setCell hb _).setCell hb _).setCell hb _).setCell hb _
set_option maxHeartbeats 4000000 in
set_option maxRecDepth 100000 in
theorem raStep_any (s f o me x y : Int) (sec : Bool) (face : Int) (A : Option Addr) (c : Nat) (js : List (Int × Int)) (w : World) (hj : RJ w w.heap.size A js) (hg : good ⟨s, f, o, js⟩ = true) (hx : sqR s js x) (hy : sqR s js y) (hf0 : 1 ≤ face) (hf : face ≤ 8) :
    Calls Try.prog 50 #[.agg #[.int .i64 s, .int .i64 f, .int .i64 o, .slice A js.length c, .int .i64 me, .int .i64 x, .int .i64 y], .bool sec, .int .i64 face] w (StepBack w s f o A js.length c me (stepR s o js me x y sec face)) := by
  have hl := hj.1
  have hz := good_sizes hg
  obtain ⟨W0, hW0⟩ : ∃ W0, W0 = (w.alloc (.cells #[.int .i64 s, .int .i64 f, .int .i64 o, .slice A js.length c, .int .i64 me, .int .i64 x, .int .i64 y] 48)).alloc (.cells #[.int .i64 0, .int .i64 0, .int .i64 0, .slice none 0 0, .int .i64 0, .int .i64 0, .int .i64 0] 48) := ⟨_, rfl⟩
  have z0 : W0.heap.size = w.heap.size + 2 := by rw [hW0]; simp
  have h0 : Below w.heap.size w W0 := by rw [hW0]; exact below2 _ _ _
  have k0 : W0.heap[w.heap.size]? = some (.cells #[.int .i64 s, .int .i64 f, .int .i64 o, .slice A js.length c, .int .i64 me, .int .i64 x, .int .i64 y] 48 (0, 0)) := by rw [hW0]; exact (Below.heap_alloc _ _ _ (by simp)).trans (heap_alloc_at _ _ _ rfl)
  have k1 : W0.heap[w.heap.size + 1]? = some (.cells #[.int .i64 0, .int .i64 0, .int .i64 0, .slice none 0 0, .int .i64 0, .int .i64 0, .int .i64 0] 48 (0, 0)) := by rw [hW0]; exact heap_alloc_at _ _ _ (by simp)
  have HW := Lib.hid hW0; clear hW0
  have HG := Lib.hid hg; have HX := Lib.hid hx; have HY := Lib.hid hy
  clear hg hx hy
  have hx0 := HX.out.1; have hx1 := HX.out.2.1; have hy0 := HY.out.1; have hy1 := HY.out.2.1
  by_cases hw : wonR s x y = 0
  · have hxs : ¬ x = s := (wonR_iff.1 hw).1
    have hys : ¬ y = s := (wonR_iff.1 hw).2
    have HWON := Lib.hid hw; clear hw
    cases sec
    · obtain ⟨n, hn⟩ : ∃ n, thrown s o js x face = n := ⟨_, rfl⟩
      have hni := thrown_in (o := o) HG.out hx0 hx1 hf0
      rw [hn] at hni
      have HN := Lib.hid hn
      by_cases c1 : me = 1
      · by_cases c2 : n = y
        · by_cases c3 : n = x
          · have HR := Lib.hid (show stepR s o js me x y false face = ((n, y), false) by rw [← hn]; exact stepR_f_no HWON.out (by rw [hn]; omega))
            have d1 : (me == 1) = true := by simp [c1]
            have d2 : (n == y) = true := by simp [c2]
            have d3 : (n != x) = false := by simp [c3]
            clear c1 c2 c3 hn
            rw [HR.out]
            go_enter Try.func50, Try.ntmps50
            go_wp2_with fail
            rw [← HW.out]
            refine (raWon_any _ _ _ _ _ _ _ _ _ _).mono ?_
            rintro e w1 ⟨rfl, hb⟩
            rw [HWON.out]
            rw [z0] at hb
            have q0 := cell_atS hb (by omega) k0
            go_wp2_with fail
            go_quiet (fail)
            go_wp2_with fail
            refine (sqThrow_any _ _ _ _ _ _ _ _ _ (hj.go (h0.trans ((drewB hb _).mono (by omega)))) hz.1.1 hz.1.2 hz.2.2.1.1 hz.2.2.1.2 (by assumption) (by assumption) hf0 hf).mono ?_
            rintro e w2 ⟨rfl, hb2⟩
            rw [HN.out]
            have hb3 := (drewB hb _).trans (hb2.mono (by have := hb.size; simp; omega))
            clear q0
            have q0 := cell_atS hb3 (by omega) k0
            have f0 := free_atS hb3 (by omega) k0
            have q1 := cell_atS hb3 (by omega) k1
            have f1 := free_atS hb3 (by omega) k1
            have hlt : w.heap.size + 1 < w2.heap.size := by have := hb3.size; omega
            have hbb := h0.trans (hb3.mono (by omega))
            go_wp2_with fail
            refine bodyPost_ret (v := .tuple #[.agg #[.int .i64 s, .int .i64 f, .int .i64 o, .slice A js.length c, .int .i64 me, .int .i64 n, .int .i64 y], .bool false]) (by simp [results, Try.results50, go_sem, q1]) rfl ?_
            exact ⟨rfl, set7S ((hbb.setCell (by dsimp only; omega) _).setCell (by dsimp only; omega) _) (by omega) _ _ _ _ _ _ _⟩
          · by_cases c4 : n = 0
            · have HR := Lib.hid (show stepR s o js me x y false face = ((n, y), false) by rw [← hn]; exact stepR_f_no HWON.out (by rw [hn]; omega))
              have d1 : (me == 1) = true := by simp [c1]
              have d2 : (n == y) = true := by simp [c2]
              have d3 : (n != x) = true := by simp [c3]
              have d4 : (n != 0) = false := by simp [c4]
              clear c1 c2 c3 c4 hn
              rw [HR.out]
              go_enter Try.func50, Try.ntmps50
              go_wp2_with fail
              rw [← HW.out]
              refine (raWon_any _ _ _ _ _ _ _ _ _ _).mono ?_
              rintro e w1 ⟨rfl, hb⟩
              rw [HWON.out]
              rw [z0] at hb
              have q0 := cell_atS hb (by omega) k0
              go_wp2_with fail
              go_quiet (fail)
              go_wp2_with fail
              refine (sqThrow_any _ _ _ _ _ _ _ _ _ (hj.go (h0.trans ((drewB hb _).mono (by omega)))) hz.1.1 hz.1.2 hz.2.2.1.1 hz.2.2.1.2 (by assumption) (by assumption) hf0 hf).mono ?_
              rintro e w2 ⟨rfl, hb2⟩
              rw [HN.out]
              have hb3 := (drewB hb _).trans (hb2.mono (by have := hb.size; simp; omega))
              clear q0
              have q0 := cell_atS hb3 (by omega) k0
              have f0 := free_atS hb3 (by omega) k0
              have q1 := cell_atS hb3 (by omega) k1
              have f1 := free_atS hb3 (by omega) k1
              have hlt : w.heap.size + 1 < w2.heap.size := by have := hb3.size; omega
              have hbb := h0.trans (hb3.mono (by omega))
              go_wp2_with fail
              refine bodyPost_ret (v := .tuple #[.agg #[.int .i64 s, .int .i64 f, .int .i64 o, .slice A js.length c, .int .i64 me, .int .i64 n, .int .i64 y], .bool false]) (by simp [results, Try.results50, go_sem, q1]) rfl ?_
              exact ⟨rfl, set7S ((hbb.setCell (by dsimp only; omega) _).setCell (by dsimp only; omega) _) (by omega) _ _ _ _ _ _ _⟩
            · have HR := Lib.hid (show stepR s o js me x y false face = ((n, 0), true) by rw [← hn]; exact stepR_f_yes HWON.out c1 (by rw [hn]; exact c2) (by rw [hn]; exact c3) (by rw [hn]; exact c4))
              have d1 : (me == 1) = true := by simp [c1]
              have d2 : (n == y) = true := by simp [c2]
              have d3 : (n != x) = true := by simp [c3]
              have d4 : (n != 0) = true := by simp [c4]
              have d5 : (n != s) = true := by simp; omega
              clear c1 c2 c3 c4 hn
              rw [HR.out]
              go_enter Try.func50, Try.ntmps50
              go_wp2_with fail
              rw [← HW.out]
              refine (raWon_any _ _ _ _ _ _ _ _ _ _).mono ?_
              rintro e w1 ⟨rfl, hb⟩
              rw [HWON.out]
              rw [z0] at hb
              have q0 := cell_atS hb (by omega) k0
              go_wp2_with fail
              go_quiet (fail)
              go_wp2_with fail
              refine (sqThrow_any _ _ _ _ _ _ _ _ _ (hj.go (h0.trans ((drewB hb _).mono (by omega)))) hz.1.1 hz.1.2 hz.2.2.1.1 hz.2.2.1.2 (by assumption) (by assumption) hf0 hf).mono ?_
              rintro e w2 ⟨rfl, hb2⟩
              rw [HN.out]
              have hb3 := (drewB hb _).trans (hb2.mono (by have := hb.size; simp; omega))
              clear q0
              have q0 := cell_atS hb3 (by omega) k0
              have f0 := free_atS hb3 (by omega) k0
              have q1 := cell_atS hb3 (by omega) k1
              have f1 := free_atS hb3 (by omega) k1
              have hlt : w.heap.size + 1 < w2.heap.size := by have := hb3.size; omega
              have hbb := h0.trans (hb3.mono (by omega))
              go_wp2_with fail
              refine bodyPost_ret (v := .tuple #[.agg #[.int .i64 s, .int .i64 f, .int .i64 o, .slice A js.length c, .int .i64 me, .int .i64 n, .int .i64 0], .bool true]) (by simp [results, Try.results50, go_sem, q1]) rfl ?_
              exact ⟨rfl, set7S ((hbb.setCell (by dsimp only; omega) _).setCell (by dsimp only; omega) _) (by omega) _ _ _ _ _ _ _⟩
        · have HR := Lib.hid (show stepR s o js me x y false face = ((n, y), false) by rw [← hn]; exact stepR_f_no HWON.out (by rw [hn]; omega))
          have d1 : (me == 1) = true := by simp [c1]
          have d2 : (n == y) = false := by simp [c2]
          clear c1 c2 hn
          rw [HR.out]
          go_enter Try.func50, Try.ntmps50
          go_wp2_with fail
          rw [← HW.out]
          refine (raWon_any _ _ _ _ _ _ _ _ _ _).mono ?_
          rintro e w1 ⟨rfl, hb⟩
          rw [HWON.out]
          rw [z0] at hb
          have q0 := cell_atS hb (by omega) k0
          go_wp2_with fail
          go_quiet (fail)
          go_wp2_with fail
          refine (sqThrow_any _ _ _ _ _ _ _ _ _ (hj.go (h0.trans ((drewB hb _).mono (by omega)))) hz.1.1 hz.1.2 hz.2.2.1.1 hz.2.2.1.2 (by assumption) (by assumption) hf0 hf).mono ?_
          rintro e w2 ⟨rfl, hb2⟩
          rw [HN.out]
          have hb3 := (drewB hb _).trans (hb2.mono (by have := hb.size; simp; omega))
          clear q0
          have q0 := cell_atS hb3 (by omega) k0
          have f0 := free_atS hb3 (by omega) k0
          have q1 := cell_atS hb3 (by omega) k1
          have f1 := free_atS hb3 (by omega) k1
          have hlt : w.heap.size + 1 < w2.heap.size := by have := hb3.size; omega
          have hbb := h0.trans (hb3.mono (by omega))
          go_wp2_with fail
          refine bodyPost_ret (v := .tuple #[.agg #[.int .i64 s, .int .i64 f, .int .i64 o, .slice A js.length c, .int .i64 me, .int .i64 n, .int .i64 y], .bool false]) (by simp [results, Try.results50, go_sem, q1]) rfl ?_
          exact ⟨rfl, set7S ((hbb.setCell (by dsimp only; omega) _).setCell (by dsimp only; omega) _) (by omega) _ _ _ _ _ _ _⟩
      · have HR := Lib.hid (show stepR s o js me x y false face = ((n, y), false) by rw [← hn]; exact stepR_f_no HWON.out (by omega))
        have d1 : (me == 1) = false := by simp [c1]
        clear c1 hn
        rw [HR.out]
        go_enter Try.func50, Try.ntmps50
        go_wp2_with fail
        rw [← HW.out]
        refine (raWon_any _ _ _ _ _ _ _ _ _ _).mono ?_
        rintro e w1 ⟨rfl, hb⟩
        rw [HWON.out]
        rw [z0] at hb
        have q0 := cell_atS hb (by omega) k0
        go_wp2_with fail
        go_quiet (fail)
        go_wp2_with fail
        refine (sqThrow_any _ _ _ _ _ _ _ _ _ (hj.go (h0.trans ((drewB hb _).mono (by omega)))) hz.1.1 hz.1.2 hz.2.2.1.1 hz.2.2.1.2 (by assumption) (by assumption) hf0 hf).mono ?_
        rintro e w2 ⟨rfl, hb2⟩
        rw [HN.out]
        have hb3 := (drewB hb _).trans (hb2.mono (by have := hb.size; simp; omega))
        clear q0
        have q0 := cell_atS hb3 (by omega) k0
        have f0 := free_atS hb3 (by omega) k0
        have q1 := cell_atS hb3 (by omega) k1
        have f1 := free_atS hb3 (by omega) k1
        have hlt : w.heap.size + 1 < w2.heap.size := by have := hb3.size; omega
        have hbb := h0.trans (hb3.mono (by omega))
        go_wp2_with fail
        refine bodyPost_ret (v := .tuple #[.agg #[.int .i64 s, .int .i64 f, .int .i64 o, .slice A js.length c, .int .i64 me, .int .i64 n, .int .i64 y], .bool false]) (by simp [results, Try.results50, go_sem, q1]) rfl ?_
        exact ⟨rfl, set7S ((hbb.setCell (by dsimp only; omega) _).setCell (by dsimp only; omega) _) (by omega) _ _ _ _ _ _ _⟩
    · obtain ⟨n, hn⟩ : ∃ n, thrown s o js y face = n := ⟨_, rfl⟩
      have hni := thrown_in (o := o) HG.out hy0 hy1 hf0
      rw [hn] at hni
      have HN := Lib.hid hn
      by_cases c1 : me = 1
      · by_cases c2 : n = x
        · by_cases c3 : n = y
          · have HR := Lib.hid (show stepR s o js me x y true face = ((x, n), false) by rw [← hn]; exact stepR_t_no HWON.out (by rw [hn]; omega))
            have d1 : (me == 1) = true := by simp [c1]
            have d2 : (n == x) = true := by simp [c2]
            have d3 : (n != y) = false := by simp [c3]
            clear c1 c2 c3 hn
            rw [HR.out]
            go_enter Try.func50, Try.ntmps50
            go_wp2_with fail
            rw [← HW.out]
            refine (raWon_any _ _ _ _ _ _ _ _ _ _).mono ?_
            rintro e w1 ⟨rfl, hb⟩
            rw [HWON.out]
            rw [z0] at hb
            have q0 := cell_atS hb (by omega) k0
            go_wp2_with fail
            go_quiet (fail)
            go_wp2_with fail
            go_quiet (fail)
            go_wp2_with fail
            refine (sqThrow_any _ _ _ _ _ _ _ _ _ (hj.go (h0.trans ((drewB hb _).mono (by omega)))) hz.1.1 hz.1.2 hz.2.2.1.1 hz.2.2.1.2 (by assumption) (by assumption) hf0 hf).mono ?_
            rintro e w2 ⟨rfl, hb2⟩
            rw [HN.out]
            have hb3 := (drewB hb _).trans (hb2.mono (by have := hb.size; simp; omega))
            clear q0
            have q0 := cell_atS hb3 (by omega) k0
            have f0 := free_atS hb3 (by omega) k0
            have q1 := cell_atS hb3 (by omega) k1
            have f1 := free_atS hb3 (by omega) k1
            have hlt : w.heap.size + 1 < w2.heap.size := by have := hb3.size; omega
            have hbb := h0.trans (hb3.mono (by omega))
            go_wp2_with fail
            refine bodyPost_ret (v := .tuple #[.agg #[.int .i64 s, .int .i64 f, .int .i64 o, .slice A js.length c, .int .i64 me, .int .i64 x, .int .i64 n], .bool false]) (by simp [results, Try.results50, go_sem, q1]) rfl ?_
            exact ⟨rfl, set7S ((hbb.setCell (by dsimp only; omega) _).setCell (by dsimp only; omega) _) (by omega) _ _ _ _ _ _ _⟩
          · by_cases c4 : n = 0
            · have HR := Lib.hid (show stepR s o js me x y true face = ((x, n), false) by rw [← hn]; exact stepR_t_no HWON.out (by rw [hn]; omega))
              have d1 : (me == 1) = true := by simp [c1]
              have d2 : (n == x) = true := by simp [c2]
              have d3 : (n != y) = true := by simp [c3]
              have d4 : (n != 0) = false := by simp [c4]
              clear c1 c2 c3 c4 hn
              rw [HR.out]
              go_enter Try.func50, Try.ntmps50
              go_wp2_with fail
              rw [← HW.out]
              refine (raWon_any _ _ _ _ _ _ _ _ _ _).mono ?_
              rintro e w1 ⟨rfl, hb⟩
              rw [HWON.out]
              rw [z0] at hb
              have q0 := cell_atS hb (by omega) k0
              go_wp2_with fail
              go_quiet (fail)
              go_wp2_with fail
              go_quiet (fail)
              go_wp2_with fail
              refine (sqThrow_any _ _ _ _ _ _ _ _ _ (hj.go (h0.trans ((drewB hb _).mono (by omega)))) hz.1.1 hz.1.2 hz.2.2.1.1 hz.2.2.1.2 (by assumption) (by assumption) hf0 hf).mono ?_
              rintro e w2 ⟨rfl, hb2⟩
              rw [HN.out]
              have hb3 := (drewB hb _).trans (hb2.mono (by have := hb.size; simp; omega))
              clear q0
              have q0 := cell_atS hb3 (by omega) k0
              have f0 := free_atS hb3 (by omega) k0
              have q1 := cell_atS hb3 (by omega) k1
              have f1 := free_atS hb3 (by omega) k1
              have hlt : w.heap.size + 1 < w2.heap.size := by have := hb3.size; omega
              have hbb := h0.trans (hb3.mono (by omega))
              go_wp2_with fail
              refine bodyPost_ret (v := .tuple #[.agg #[.int .i64 s, .int .i64 f, .int .i64 o, .slice A js.length c, .int .i64 me, .int .i64 x, .int .i64 n], .bool false]) (by simp [results, Try.results50, go_sem, q1]) rfl ?_
              exact ⟨rfl, set7S ((hbb.setCell (by dsimp only; omega) _).setCell (by dsimp only; omega) _) (by omega) _ _ _ _ _ _ _⟩
            · have HR := Lib.hid (show stepR s o js me x y true face = ((0, n), true) by rw [← hn]; exact stepR_t_yes HWON.out c1 (by rw [hn]; exact c2) (by rw [hn]; exact c3) (by rw [hn]; exact c4))
              have d1 : (me == 1) = true := by simp [c1]
              have d2 : (n == x) = true := by simp [c2]
              have d3 : (n != y) = true := by simp [c3]
              have d4 : (n != 0) = true := by simp [c4]
              have d5 : (n != s) = true := by simp; omega
              clear c1 c2 c3 c4 hn
              rw [HR.out]
              go_enter Try.func50, Try.ntmps50
              go_wp2_with fail
              rw [← HW.out]
              refine (raWon_any _ _ _ _ _ _ _ _ _ _).mono ?_
              rintro e w1 ⟨rfl, hb⟩
              rw [HWON.out]
              rw [z0] at hb
              have q0 := cell_atS hb (by omega) k0
              go_wp2_with fail
              go_quiet (fail)
              go_wp2_with fail
              go_quiet (fail)
              go_wp2_with fail
              refine (sqThrow_any _ _ _ _ _ _ _ _ _ (hj.go (h0.trans ((drewB hb _).mono (by omega)))) hz.1.1 hz.1.2 hz.2.2.1.1 hz.2.2.1.2 (by assumption) (by assumption) hf0 hf).mono ?_
              rintro e w2 ⟨rfl, hb2⟩
              rw [HN.out]
              have hb3 := (drewB hb _).trans (hb2.mono (by have := hb.size; simp; omega))
              clear q0
              have q0 := cell_atS hb3 (by omega) k0
              have f0 := free_atS hb3 (by omega) k0
              have q1 := cell_atS hb3 (by omega) k1
              have f1 := free_atS hb3 (by omega) k1
              have hlt : w.heap.size + 1 < w2.heap.size := by have := hb3.size; omega
              have hbb := h0.trans (hb3.mono (by omega))
              go_wp2_with fail
              refine bodyPost_ret (v := .tuple #[.agg #[.int .i64 s, .int .i64 f, .int .i64 o, .slice A js.length c, .int .i64 me, .int .i64 0, .int .i64 n], .bool true]) (by simp [results, Try.results50, go_sem, q1]) rfl ?_
              exact ⟨rfl, set7S ((hbb.setCell (by dsimp only; omega) _).setCell (by dsimp only; omega) _) (by omega) _ _ _ _ _ _ _⟩
        · have HR := Lib.hid (show stepR s o js me x y true face = ((x, n), false) by rw [← hn]; exact stepR_t_no HWON.out (by rw [hn]; omega))
          have d1 : (me == 1) = true := by simp [c1]
          have d2 : (n == x) = false := by simp [c2]
          clear c1 c2 hn
          rw [HR.out]
          go_enter Try.func50, Try.ntmps50
          go_wp2_with fail
          rw [← HW.out]
          refine (raWon_any _ _ _ _ _ _ _ _ _ _).mono ?_
          rintro e w1 ⟨rfl, hb⟩
          rw [HWON.out]
          rw [z0] at hb
          have q0 := cell_atS hb (by omega) k0
          go_wp2_with fail
          go_quiet (fail)
          go_wp2_with fail
          go_quiet (fail)
          go_wp2_with fail
          refine (sqThrow_any _ _ _ _ _ _ _ _ _ (hj.go (h0.trans ((drewB hb _).mono (by omega)))) hz.1.1 hz.1.2 hz.2.2.1.1 hz.2.2.1.2 (by assumption) (by assumption) hf0 hf).mono ?_
          rintro e w2 ⟨rfl, hb2⟩
          rw [HN.out]
          have hb3 := (drewB hb _).trans (hb2.mono (by have := hb.size; simp; omega))
          clear q0
          have q0 := cell_atS hb3 (by omega) k0
          have f0 := free_atS hb3 (by omega) k0
          have q1 := cell_atS hb3 (by omega) k1
          have f1 := free_atS hb3 (by omega) k1
          have hlt : w.heap.size + 1 < w2.heap.size := by have := hb3.size; omega
          have hbb := h0.trans (hb3.mono (by omega))
          go_wp2_with fail
          refine bodyPost_ret (v := .tuple #[.agg #[.int .i64 s, .int .i64 f, .int .i64 o, .slice A js.length c, .int .i64 me, .int .i64 x, .int .i64 n], .bool false]) (by simp [results, Try.results50, go_sem, q1]) rfl ?_
          exact ⟨rfl, set7S ((hbb.setCell (by dsimp only; omega) _).setCell (by dsimp only; omega) _) (by omega) _ _ _ _ _ _ _⟩
      · have HR := Lib.hid (show stepR s o js me x y true face = ((x, n), false) by rw [← hn]; exact stepR_t_no HWON.out (by omega))
        have d1 : (me == 1) = false := by simp [c1]
        clear c1 hn
        rw [HR.out]
        go_enter Try.func50, Try.ntmps50
        go_wp2_with fail
        rw [← HW.out]
        refine (raWon_any _ _ _ _ _ _ _ _ _ _).mono ?_
        rintro e w1 ⟨rfl, hb⟩
        rw [HWON.out]
        rw [z0] at hb
        have q0 := cell_atS hb (by omega) k0
        go_wp2_with fail
        go_quiet (fail)
        go_wp2_with fail
        go_quiet (fail)
        go_wp2_with fail
        refine (sqThrow_any _ _ _ _ _ _ _ _ _ (hj.go (h0.trans ((drewB hb _).mono (by omega)))) hz.1.1 hz.1.2 hz.2.2.1.1 hz.2.2.1.2 (by assumption) (by assumption) hf0 hf).mono ?_
        rintro e w2 ⟨rfl, hb2⟩
        rw [HN.out]
        have hb3 := (drewB hb _).trans (hb2.mono (by have := hb.size; simp; omega))
        clear q0
        have q0 := cell_atS hb3 (by omega) k0
        have f0 := free_atS hb3 (by omega) k0
        have q1 := cell_atS hb3 (by omega) k1
        have f1 := free_atS hb3 (by omega) k1
        have hlt : w.heap.size + 1 < w2.heap.size := by have := hb3.size; omega
        have hbb := h0.trans (hb3.mono (by omega))
        go_wp2_with fail
        refine bodyPost_ret (v := .tuple #[.agg #[.int .i64 s, .int .i64 f, .int .i64 o, .slice A js.length c, .int .i64 me, .int .i64 x, .int .i64 n], .bool false]) (by simp [results, Try.results50, go_sem, q1]) rfl ?_
        exact ⟨rfl, set7S ((hbb.setCell (by dsimp only; omega) _).setCell (by dsimp only; omega) _) (by omega) _ _ _ _ _ _ _⟩
  · have HR := Lib.hid (stepR_won (s := s) (o := o) (js := js) (me := me) (sec := sec) (face := face) hw)
    obtain ⟨v, hv⟩ : ∃ v, wonR s x y = v := ⟨_, rfl⟩
    have hv0 : 0 < v := by rcases wonR_range s x y with h | h | h <;> omega
    have HV := Lib.hid hv
    clear hw hv
    rw [HR.out]
    go_enter Try.func50, Try.ntmps50
    go_wp2_with fail
    rw [← HW.out]
    refine (raWon_any _ _ _ _ _ _ _ _ _ _).mono ?_
    rintro e w1 ⟨rfl, hb⟩
    rw [HV.out]
    rw [z0] at hb
    have q0 := cell_atS hb (by omega) k0
    have q1 := cell_atS hb (by omega) k1
    have f1 := free_atS hb (by omega) k1
    have hlt : w.heap.size + 1 < w1.heap.size := by have := hb.size; omega
    have hbb := h0.trans (hb.mono (by omega))
    go_wp2_with fail
    refine bodyPost_ret (v := .tuple #[.agg #[.int .i64 s, .int .i64 f, .int .i64 o, .slice A js.length c, .int .i64 me, .int .i64 x, .int .i64 y], .bool false]) (by simp [results, Try.results50, go_sem, q1]) rfl ?_
    exact ⟨rfl, set7S hbb (by omega) _ _ _ _ _ _ _⟩
end Go.Proofs.Ytknclgfjoajldab

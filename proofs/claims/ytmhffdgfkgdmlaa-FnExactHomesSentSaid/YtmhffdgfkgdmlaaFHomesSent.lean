/-
  The law FnExactHomesSent, walked.
-/
import Derived.Test.YtmhffdgfkgdmlaaC7zu
import Derived.Test.YtmhffdgfkgdmlaaL20
import Derived.Deep.RegionHeld3
namespace Go.Proofs.Ytmhffdgfkgdmlaa
open Go.RowKit

set_option maxRecDepth 100000 in
theorem lawHomesSent_big (q f k : Int) (A1 A2 : Option Addr) (n1 c1 n2 c2 : Nat) (A3 : Option Addr) (n3 c3 : Nat) (R : Nat → Option Addr × Nat × Nat) (w : World) (hn1 : n1 ≤ maxLen) (hn2 : n2 ≤ maxLen) (hr : RawG w A3 n3 R) (hn3 : n3 ≤ maxLen) (h : 1048576 < n1 + n2 + (n3 + cumL (fun y => (R y).2.1) n3)) :
    Calls Try.prog 6 #[.agg #[.int .i64 q, .int .i64 f, .int .i64 k, .slice A1 n1 c1, .slice A2 n2 c2], .slice A3 n3 c3] w fun e w' => e = .returned (.bool true) ∧ Below w.heap.size w w' := by
  obtain ⟨m, hm⟩ : ∃ m, m = cumL (fun y => (R y).2.1) n3 := ⟨_, rfl⟩
  rw [← hm] at h
  have HM := Lib.hid hm
  clear hm
  by_cases h1 : (1048576 : Int) < n1 + n2
  · go_enter Try.func6, Try.ntmps6
    go_wp2_with (go_at_call 13; refine (szTrack_any _ _ _ _ _ _ _ _ _ _ hn1 hn2).mono ?_; rintro e w1 ⟨rfl, hx⟩)
    go_ret
    exact ⟨rfl, (below1 _ _).trans (hx.mono (by simp))⟩
  · have h2 : ¬ (1048576 : Int) - (n1 + n2) < 0 := by omega
    have h3 : (1048576 : Int) - (n1 + n2) < (n3 : Int) + (m : Nat) := by omega
    go_enter Try.func6, Try.ntmps6
    go_wp2_with fail
    refine (szTrack_any _ _ _ _ _ _ _ _ _ _ hn1 hn2).mono ?_
    rintro e w1 ⟨rfl, hx⟩
    go_wp2_with fail
    refine (szIntSS_any _ _ _ R _ _ (rawG_on hr ((below1 _ _).trans (hx.mono (by simp)))) hn3 (by omega) (by omega)).mono ?_
    rintro e w2 ⟨rfl, rfl⟩
    rw [← HM.out]
    go_wp2_with fail
    go_ret
    exact ⟨rfl, (below1 _ _).trans (hx.mono (by simp))⟩

set_option maxHeartbeats 2000000 in
set_option maxRecDepth 100000 in
theorem lawHomesSent_small (q f k : Int) (A1 A2 : Option Addr) (c1 c2 : Nat) (st sf : List Int) (A3 : Option Addr) (c3 : Nat) (R : Nat → Option Addr × Nat × Nat) (LL : List (List Int)) (w : World) (h1 : RI w w.heap.size A1 st) (h2 : RI w w.heap.size A2 sf) (hr : RawG w A3 LL.length R) (h3 : RG w w.heap.size A3 LL) (h : st.length + sf.length + (LL.length + cumL (fun y => (R y).2.1) LL.length) ≤ 1048576) :
    Calls Try.prog 6 #[.agg #[.int .i64 q, .int .i64 f, .int .i64 k, .slice A1 st.length c1, .slice A2 sf.length c2], .slice A3 LL.length c3] w fun e w' => e = .returned (.bool true) ∧ Below w.heap.size w w' := by
  have hl := h1.1
  have hl2 := h2.1
  have hl3 := h3.1
  obtain ⟨m, hm⟩ : ∃ m, m = cumL (fun y => (R y).2.1) LL.length := ⟨_, rfl⟩
  rw [← hm] at h
  have HM := Lib.hid hm
  clear hm
  obtain ⟨y, ok, hS, hI⟩ := homesSent_both q f k st sf LL
  have hS := Lib.hid hS
  have hI := Lib.hid hI
  have hc1 : ¬ (1048576 : Int) < (st.length : Int) + sf.length := by omega
  have hc2 : ¬ (1048576 : Int) - ((st.length : Int) + sf.length) < 0 := by omega
  have hc3 : ¬ (1048576 : Int) - ((st.length : Int) + sf.length) < (LL.length : Int) + (m : Nat) := by omega
  have hc4 : ¬ (1048576 : Int) - ((st.length : Int) + sf.length) - ((LL.length : Int) + (m : Nat)) < 0 := by omega
  go_enter Try.func6, Try.ntmps6
  go_wp2_with fail
  refine (szTrack_any _ _ _ _ _ _ _ _ _ _ (by unfold maxLen; omega) (by unfold maxLen; omega)).mono ?_
  rintro e w1 ⟨rfl, hx⟩
  have hb := box_on (Below.refl _ _) hx (by simp)
  have qq := boxcells hb
  go_wp2_with fail
  refine (szIntSS_any _ _ _ R _ _ (rawG_on hr ((below1 _ _).trans (hb.mono (by omega)))) (by unfold maxLen; omega) (by omega) (by omega)).mono ?_
  rintro e w1b ⟨rfl, rfl⟩
  rw [← HM.out]
  go_wp2_with fail
  -- a copy for the model
  refine (toTrack_any _ _ _ _ _ _ _ _ _ _ (h1.go ((below1 _ _).trans (hb.mono (by omega)))) (h2.go ((below1 _ _).trans (hb.mono (by omega))))).mono ?_
  rintro e w2 ⟨g1, g2, rfl, hg1, hg2, hne, r1, r2, hx⟩
  replace hb := box_on hb hx (by have := hb.size; simpa using this)
  replace qq := boxcells hb
  go_wp2_with fail
  refine (toIntSS_any _ _ _ _ (h3.below ((below1 _ _).trans (hb.mono (by omega))) |>.more (by have := hb.size; simp at this; omega))).mono ?_
  rintro e w2b ⟨len1, F1, Bk1, rfl, G1, hF1, hx⟩
  have RG1 := G1.rg hl3 hF1
  replace hb := box_on hb hx (by have := hb.size; simpa using this)
  replace r1 := r1.below hx r1.lt
  replace r2 := r2.below hx r2.lt
  replace qq := boxcells hb
  go_wp2_with fail
  refine (hS.out _ _ _ _ _ _ _ (r1.ri rfl hl) (r2.ri rfl hl2) (Nat.le_refl _) RG1).mono ?_
  rintro e w3 ⟨rfl, hx⟩
  replace hb := box_on hb hx (by have := hb.size; simpa using this)
  replace qq := boxcells hb
  clear r1 r2 hg1 hg2 hne G1 RG1 hF1
  have s3 : w.heap.size + 1 ≤ w3.heap.size := by have := hb.size; simpa using this
  go_wp2_with fail
  -- a copy for the program
  refine (toTrack_any _ _ _ _ _ _ _ _ _ _ (h1.go ((below1 _ _).trans (hb.mono (by omega)))) (h2.go ((below1 _ _).trans (hb.mono (by omega))))).mono ?_
  rintro e w4 ⟨g3, g4, rfl, hg3, hg4, hne, r3, r4, hx⟩
  replace hb := box_on hb hx (by have := hb.size; simpa using this)
  replace qq := boxcells hb
  have d := hx
  have s4 := hx.size
  have l3 := r3.lt
  have l4 := r4.lt
  go_wp2_with fail
  have r3 := r3.alloc (.cells #[.int .i64 q, .int .i64 f, .int .i64 k, .slice (some ⟨g3, 0, none⟩) st.length st.length, .slice (some ⟨g4, 0, none⟩) sf.length sf.length] 29)
  have r4 := r4.alloc (.cells #[.int .i64 q, .int .i64 f, .int .i64 k, .slice (some ⟨g3, 0, none⟩) st.length st.length, .slice (some ⟨g4, 0, none⟩) sf.length sf.length] 29)
  have hb := hb.alloc (by have := hb.size; simpa using this) (.cells #[.int .i64 q, .int .i64 f, .int .i64 k, .slice (some ⟨g3, 0, none⟩) st.length st.length, .slice (some ⟨g4, 0, none⟩) sf.length sf.length] 29)
  have d := d.alloc d.size (.cells #[.int .i64 q, .int .i64 f, .int .i64 k, .slice (some ⟨g3, 0, none⟩) st.length st.length, .slice (some ⟨g4, 0, none⟩) sf.length sf.length] 29)
  have hb2 : Below (w4.heap.size + 1) (w4.alloc (.cells #[.int .i64 q, .int .i64 f, .int .i64 k, .slice (some ⟨g3, 0, none⟩) st.length st.length, .slice (some ⟨g4, 0, none⟩) sf.length sf.length] 29)) (w4.alloc (.cells #[.int .i64 q, .int .i64 f, .int .i64 k, .slice (some ⟨g3, 0, none⟩) st.length st.length, .slice (some ⟨g4, 0, none⟩) sf.length sf.length] 29)) := Below.refl _ _
  refine (toIntSS_any _ _ _ _ (h3.below ((below1 _ _).trans (hb.mono (by omega))) |>.more (by have := hb.size; simp at *; omega))).mono ?_
  rintro e w4b ⟨len1, F1, Bk1, rfl, G1, hF1, hx⟩
  simp only [World.size_alloc] at G1 hx
  have r3 := r3.below hx (by have := r3.lt; simpa using this)
  have r4 := r4.below hx (by have := r4.lt; simpa using this)
  have hb := box_on hb hx (by omega)
  have hb2 := box_on hb2 hx (Nat.le_refl _)
  have d := d.trans (hx.mono (by omega))
  have qq := boxcells hb
  have qq2 := boxcells hb2
  have RG1 := G1.rg hl3 hF1
  have sB : ∀ y < LL.length, w3.heap.size ≤ Bk1 y ∧ Bk1 y < w4b.heap.size := fun y hy => ⟨by have := (G1.2.1 y hy).1; omega, (G1.2.1 y hy).2.2.lt⟩
  have hl1 : ∀ y < LL.length, len1 y ≤ 1048576 := fun y hy => by rw [(hF1 y hy).1]; exact (hF1 y hy).2.1
  have HB := Lib.hid sB
  clear sB
  have s4b : w4.heap.size + 1 ≤ w4b.heap.size := by have := hx.size; simp at this; omega
  go_wp2_with fail
  refine (hI.out _ _ _ _ _ _ _ (r3.ri rfl hl) (r4.ri rfl hl2) (Nat.le_refl _) RG1).mono ?_
  rintro e w5 ⟨rfl, hx⟩
  replace hb := box_on hb hx (by have := hb.size; simpa using this)
  replace hb2 := box_on hb2 hx (by have := hb2.size; simpa using this)
  replace r3 := r3.below hx r3.lt
  replace r4 := r4.below hx r4.lt
  replace G1 := G1.below hx
  replace d := d.trans (hx.mono d.size)
  replace qq := boxcells hb
  replace qq2 := boxcells hb2
  have s5 : w4b.heap.size ≤ w5.heap.size := by have := hx.size; (try simp at this); omega
  go_wp2_with fail
  -- the program's copy reads as before
  have hb5 := hb.drew
  have hb25 := hb2.drew
  go_region_held3 (fun w' => Below (w.heap.size + 1) (w.alloc (.cells #[.int .i64 q, .int .i64 f, .int .i64 k, .slice A1 st.length c1, .slice A2 sf.length c2] 24)) w' ∧ Below (w4.heap.size + 1) (w4.alloc (.cells #[.int .i64 q, .int .i64 f, .int .i64 k, .slice (some ⟨g3, 0, none⟩) st.length st.length, .slice (some ⟨g4, 0, none⟩) sf.length sf.length] 29)) w' ∧ (∀ i, w'.cell? ⟨w.heap.size, i, none⟩ = #[.int .i64 q, .int .i64 f, .int .i64 k, .slice A1 st.length c1, .slice A2 sf.length c2][i]?) ∧ (∀ i, w'.cell? ⟨w4.heap.size, i, none⟩ = #[.int .i64 q, .int .i64 f, .int .i64 k, .slice (some ⟨g3, 0, none⟩) st.length st.length, .slice (some ⟨g4, 0, none⟩) sf.length sf.length][i]?)) (go_keep)
    (first | (go_at_call 15; refine (toTrack_any _ _ _ _ _ _ _ _ _ _ (h1.go ((below1 _ _).trans (hb5.mono (by omega)))) (h2.go ((below1 _ _).trans (hb5.mono (by omega))))).mono ?_; rintro e w6 ⟨g5, g6, rfl, hg5, hg6, hne6, r5, r6, hx⟩; have k1 := box_on hb5 hx (by have := hb5.size; simpa using this); have k2 := box_on hb25 hx (by have := hb25.size; simpa using this); have k3 := boxcells k1; have k4 := boxcells k2) | (go_at_call 18; refine (eqTrack_any _ _ _ _ _ _ _ _ _ _ _ _ _ _ ((r3.drew.below hx r3.lt).ri rfl hl) ((r4.drew.below hx r4.lt).ri rfl hl2) (r5.ri rfl hl) (r6.ri rfl hl2)).mono ?_; rintro e w7 ⟨rfl, hx7⟩; have m1 := box_on k1 hx7 (by have := k1.size; simpa using this); have m2 := box_on k2 hx7 (by have := k2.size; simpa using this); have m3 := boxcells m1; have m4 := boxcells m2))
  have e57 : Below w5.heap.size w5 w7 := (Below.refl _ w5).drew.trans (hx.trans (hx7.mono hx.size))
  clear k1 k2 k3 k4 qq qq2 hb5 hb25 r5 r6 hg5 hg6 hne6 hx hx7 m1 m2
  replace hb := box_on hb e57 (by have := hb.size; simpa using this)
  replace hb2 := box_on hb2 e57 (by have := hb2.size; simpa using this)
  replace r3 := r3.below e57 r3.lt
  replace r4 := r4.below e57 r4.lt
  replace G1 := G1.below e57
  replace d := d.trans (e57.mono d.size)
  have s5 := Nat.le_trans s5 e57.size
  have qq := m3
  have qq2 := m4
  clear m3 m4
  go_wp2_with fail
  refine (toIntSS_any _ _ _ _ (h3.below ((below1 _ _).trans (hb.mono (by omega))) |>.more (by have := hb.size; simp at this; omega))).mono ?_
  rintro e w8 ⟨len2, F2, Bk2, rfl, G2, hF2, hx⟩
  replace hb := box_on hb hx (by have := hb.size; simpa using this)
  replace hb2 := box_on hb2 hx (by have := hb2.size; simpa using this)
  replace r3 := r3.below hx r3.lt
  replace r4 := r4.below hx r4.lt
  replace G1 := G1.below hx
  replace d := d.trans (hx.mono d.size)
  replace qq := boxcells hb
  replace qq2 := boxcells hb2
  have s5 := Nat.le_trans s5 hx.size
  go_wp2_with fail
  refine (eqIntSS_any _ _ _ _ LL _ (G1.rg hl3 hF1) (G2.rg hl3 hF2)).mono ?_
  rintro e w9 ⟨rfl, hx⟩
  clear G2 hF2
  replace hb := box_on hb hx (by have := hb.size; simpa using this)
  replace hb2 := box_on hb2 hx (by have := hb2.size; simpa using this)
  replace r3 := r3.below hx r3.lt
  replace r4 := r4.below hx r4.lt
  replace G1 := G1.below hx
  replace d := d.trans (hx.mono d.size)
  replace qq := boxcells hb
  replace qq2 := boxcells hb2
  have s5 := Nat.le_trans s5 hx.size
  go_wp2_with fail
  go_ret
  exact ⟨rfl, (below1 _ _).trans (hb.mono (by omega))⟩
end Go.Proofs.Ytmhffdgfkgdmlaa

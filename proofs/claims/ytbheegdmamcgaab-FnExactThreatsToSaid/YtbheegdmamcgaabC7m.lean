/-
  Tracks: the program's ringAndStand.
-/
import Derived.Test.YtbheegdmamcgaabC7l
namespace Go.Proofs.Ytbheegdmamcgaab
open Go.RowKit

/-- Three results: two structs in blocks of their own, and a slot. -/
theorem results_cells2_slot {P : Program} {fn : Func} {p q r : Tmp} {ty ty2 : TypeId} (h : fn.results = #[.cell p ty, .cell q ty2, .tmp r]) (tmps : Array Value) (w : World) (g g2 : Nat) (t t2 : TypeId) (cs cs2 : Array Value) (fr fr2 : Nat × Nat) (d d2 : TypeDesc) (v : Value)
    (hp : tmps.getD p undef = .pointer (some ⟨g, 0, none⟩)) (hq : tmps.getD q undef = .pointer (some ⟨g2, 0, none⟩)) (hv : tmps.getD r undef = v) (hg : w.heap[g]? = some (.cells cs t fr)) (hg2 : w.heap[g2]? = some (.cells cs2 t2 fr2))
    (hu : P.underlying ty = some d) (hd : (match d with | .struct _ | .array _ _ => true | _ => false) = true) (hi : (P.info? ty).map (·.size) = some cs.size)
    (hu2 : P.underlying ty2 = some d2) (hd2 : (match d2 with | .struct _ | .array _ _ => true | _ => false) = true) (hi2 : (P.info? ty2).map (·.size) = some cs2.size) :
    (results fn tmps).run P w = .ok (.tuple #[.agg cs, .agg cs2, v]) w := by
  have hp' : tmps[p]?.getD undef = .pointer (some ⟨g, 0, none⟩) := by simpa using hp
  have hq' : tmps[q]?.getD undef = .pointer (some ⟨g2, 0, none⟩) := by simpa using hq
  have hv' : tmps[r]?.getD undef = v := by simpa using hv
  simp [results, h, hp', hq', hv', asAddr, run_loadVar_row w g t ty cs fr d hg hu hd hi, run_loadVar_row w g2 t2 ty2 cs2 fr2 d2 hg2 hu2 hd2 hi2]

set_option maxRecDepth 100000 in
set_option maxHeartbeats 2000000 in
theorem ringAndStand_out (q f k : Int) (A1 A2 A3 : Option Addr) (c1 c2 c3 : Nat) (st sf : List Int) (L : List (List Int)) (w : World) (h1 : RI w w.heap.size A1 st) (h2 : RI w w.heap.size A2 sf) (hc : st.length ≤ c1) (hz : trkOk q f k st sf = false) :
    Calls Try.prog 62 #[.agg #[.int .i64 q, .int .i64 f, .int .i64 k, .slice A1 st.length c1, .slice A2 sf.length c2], .slice A3 L.length c3] w fun e w' => e = .returned (.tuple #[.agg (ringC 0 0 0 none 0 0 (fun _ => false)), .agg (standC (fun _ _ => 0)), .bool false]) ∧ Below w.heap.size w w' := by
  have hl := h1.1
  have hl2 := h2.1
  have z0 := zeroRing
  have z1 := zeroStand
  have b0 := run_buildRing0
  have b1 := run_buildStand0
  have HZ := Lib.hid hz
  clear hz
  go_enter Try.func62, Try.ntmps62
  have hb0 := below3 w (.cells #[.int .i64 q, .int .i64 f, .int .i64 k, .slice A1 st.length c1, .slice A2 sf.length c2] 44) (.cells (ringC 0 0 0 none 0 0 (fun _ => false)) 81) (.cells (standC (fun _ _ => 0)) 84)
  have R0 : RA (((w.alloc (.cells #[.int .i64 q, .int .i64 f, .int .i64 k, .slice A1 st.length c1, .slice A2 sf.length c2] 44)).alloc (.cells (ringC 0 0 0 none 0 0 (fun _ => false)) 81)).alloc (.cells (standC (fun _ _ => 0)) 84)) (w.heap.size + 1) 81 0 0 0 none 0 0 (fun _ => false) := (Below.heap_alloc _ _ _ (by simp)).trans (heap_alloc_at _ _ _ (by simp))
  have D0 : DA (((w.alloc (.cells #[.int .i64 q, .int .i64 f, .int .i64 k, .slice A1 st.length c1, .slice A2 sf.length c2] 44)).alloc (.cells (ringC 0 0 0 none 0 0 (fun _ => false)) 81)).alloc (.cells (standC (fun _ _ => 0)) 84)) (w.heap.size + 1 + 1) 84 (fun _ _ => 0) := heap_alloc_at _ _ _ (by simp)
  go_wp2_with fail
  refine (ringOf_no _ _ _ _ _ _ _ _ _ _ (h1.go hb0) (h2.go hb0) hc HZ.out).mono ?_
  rintro e w2 ⟨rfl, hx⟩
  simp only [World.size_alloc] at hx
  have hb : Below w.heap.size w w2 := hb0.trans (hx.mono (by omega))
  have R2 := R0.below hx (by omega)
  have D2 := D0.below hx (by omega)
  have hz2 : w.heap.size + 3 ≤ w2.heap.size := by have := hx.size; simp at this; omega
  clear hx R0 D0 hb0
  go_wp2_with (first | (refine wpList_store_row rfl 81 (.tmp 7) _ rfl w2.heap.size rfl _ _ _ rfl (heap_alloc_at _ _ _ rfl) ?_ ?_ ring_one ?_; (simp only [ring_size]); (rw [ring_size]; exact sizeRing); intro w3 hC3 hg3 hs3; have R3 := (R2.alloc (.cells (ringC 0 0 0 none 0 0 (fun _ => false)) 81)).grown hg3 (by simp; omega); have D3 := (D2.alloc (.cells (ringC 0 0 0 none 0 0 (fun _ => false)) 81)).grown hg3 (by simp; omega); have hb3 : Below w.heap.size w w3 := (hb.alloc hb.size _).grown hg3 (by simp; omega) (fun k h => by cases h; omega)) | (refine wpList_store_row rfl 81 (.tmp 4) _ rfl (w.heap.size + 1) rfl _ _ _ rfl R3 ?_ ?_ ring_one ?_; (simp only [ring_size]); (rw [ring_size]; exact sizeRing); intro w4 hC4 hg4 hs4; have D4 := D3.grown hg4 (by simp)) | (refine wpList_store_row rfl 84 (.tmp 5) _ rfl (w.heap.size + 1 + 1) rfl _ _ _ rfl D4 ?_ ?_ (stand_one _) ?_; (simp only [stand_size]); (rw [stand_size]; exact sizeStand); intro w5 hC5 hg5 hs5))
  have hb5 : Below w.heap.size w w5 := (hb3.grown hg4 hb3.size (fun k h => by cases h; omega)).grown hg5 (by have := hb3.size; omega) (fun k h => by cases h; omega)
  exact bodyPost_ret (v := .tuple #[.agg (ringC 0 0 0 none 0 0 (fun _ => false)), .agg (standC (fun _ _ => 0)), .bool false]) (results_cells2_slot Try.results62 _ _ _ _ _ _ _ _ _ _ _ _ _ rfl rfl rfl ((hg5.block _ (by have := heap_lt hC4; omega) (by simp)).trans hC4) hC5 Try.underlying81 rfl (by rw [ring_size]; exact sizeRing) Try.underlying84 rfl (by rw [stand_size]; exact sizeStand)) rfl
    ⟨rfl, hb5⟩

set_option maxRecDepth 100000 in
set_option maxHeartbeats 2000000 in
theorem ringAndStand_in (q f k : Int) (A1 A2 A3 : Option Addr) (c1 c2 c3 : Nat) (st sf : List Int) (L : List (List Int)) (w : World) (h1 : RI w w.heap.size A1 st) (h2 : RI w w.heap.size A2 sf) (h3 : RG w w.heap.size A3 L) (hc : st.length ≤ c1) (hz : trkOk q f k st sf = true) :
    Calls Try.prog 62 #[.agg #[.int .i64 q, .int .i64 f, .int .i64 k, .slice A1 st.length c1, .slice A2 sf.length c2], .slice A3 L.length c3] w fun e w' => ∃ V : Nat → Nat → Int, e = .returned (.tuple #[.agg (ringC q f k A1 st.length c1 (safeB sf)), .agg (standC V), .bool (stateB q k st sf L)]) ∧ (stateB q k st sf L = true → V = stF q L) ∧ Below w.heap.size w w' := by
  have hl := h1.1
  have hl2 := h2.1
  have hl3 := h3.1
  have z0 := zeroRing
  have z1 := zeroStand
  obtain ⟨r, hr⟩ : ∃ r, stateB q k st sf L = r := ⟨_, rfl⟩
  rw [hr]
  have HR := Lib.hid hr
  have HZ := Lib.hid hz
  have HT := Lib.hid (trk_of hz)
  clear hz hr
  go_enter Try.func62, Try.ntmps62
  have hb0 := below3 w (.cells #[.int .i64 q, .int .i64 f, .int .i64 k, .slice A1 st.length c1, .slice A2 sf.length c2] 44) (.cells (ringC 0 0 0 none 0 0 (fun _ => false)) 81) (.cells (standC (fun _ _ => 0)) 84)
  have R0 : RA (((w.alloc (.cells #[.int .i64 q, .int .i64 f, .int .i64 k, .slice A1 st.length c1, .slice A2 sf.length c2] 44)).alloc (.cells (ringC 0 0 0 none 0 0 (fun _ => false)) 81)).alloc (.cells (standC (fun _ _ => 0)) 84)) (w.heap.size + 1) 81 0 0 0 none 0 0 (fun _ => false) := (Below.heap_alloc _ _ _ (by simp)).trans (heap_alloc_at _ _ _ (by simp))
  have D0 : DA (((w.alloc (.cells #[.int .i64 q, .int .i64 f, .int .i64 k, .slice A1 st.length c1, .slice A2 sf.length c2] 44)).alloc (.cells (ringC 0 0 0 none 0 0 (fun _ => false)) 81)).alloc (.cells (standC (fun _ _ => 0)) 84)) (w.heap.size + 1 + 1) 84 (fun _ _ => 0) := heap_alloc_at _ _ _ (by simp)
  go_wp2_with fail
  refine (ringOf_yes _ _ _ _ _ _ _ _ _ _ (h1.go hb0) (h2.go hb0) hc HZ.out).mono ?_
  rintro e w2 ⟨rfl, hx⟩
  simp only [World.size_alloc] at hx
  have hb : Below w.heap.size w w2 := hb0.trans (hx.mono (by omega))
  have R2 := R0.below hx (by omega)
  have D2 := D0.below hx (by omega)
  have hz2 : w.heap.size + 3 ≤ w2.heap.size := by have := hx.size; simp at this; omega
  clear hx R0 D0 hb0
  go_wp2_with (refine wpList_store_row rfl 81 (.tmp 7) _ rfl w2.heap.size rfl _ _ (ringC q f k A1 st.length c1 (safeB sf)) rfl (heap_alloc_at _ _ _ rfl) ?_ ?_ ring_one ?_; (simp only [ring_size]); (rw [ring_size]; exact sizeRing); intro w3 hC3 hg3 hs3; have R3 := (R2.alloc (.cells (ringC 0 0 0 none 0 0 (fun _ => false)) 81)).grown hg3 (by simp; omega); have D3 := (D2.alloc (.cells (ringC 0 0 0 none 0 0 (fun _ => false)) 81)).grown hg3 (by simp; omega); have hb3 : Below w.heap.size w w3 := (hb.alloc hb.size _).grown hg3 (by simp; omega) (fun k h => by cases h; omega))
  simp only [World.size_alloc] at hs3
  refine (standOf_any w2.heap.size q f k A1 A3 c1 c3 st sf L w3 hC3 (h1.go hb3) ((h3.below hb3).more hb3.size) HT.out.q4 HT.out.q60 HT.out.k1 HT.out.k4 HT.out.n4 HT.out.st0).mono ?_
  rintro e w4 ⟨V, rfl, hV, hx4⟩
  rw [HR.out] at hV ⊢
  have hb4 := hb3.trans (hx4.mono hb3.size)
  have R4 := R3.below hx4 (by omega)
  have D4 := D3.below hx4 (by omega)
  have K4 : RA w4 w2.heap.size 81 q f k A1 st.length c1 (safeB sf) := RA.below hC3 hx4 (by omega)
  have hz4 := hx4.size
  have HVV := Lib.hid hV
  clear hV hg3 hC3 R2 D2 R3 D3
  go_wp2_with (refine wpList_store_row rfl 84 (.tmp 9) _ rfl w4.heap.size rfl _ _ (standC V) rfl (heap_alloc_at _ _ _ rfl) ?_ ?_ (stand_one _) ?_; (simp only [stand_size]); (rw [stand_size]; exact sizeStand); intro w5 hC5 hg5 hs5)
  simp only [World.size_alloc] at hs5
  have hb5 : Below w.heap.size w w5 := (hb4.alloc hb4.size _).grown hg5 (by simp; omega) (fun k h => by cases h; omega)
  have R5 := (R4.alloc (.cells (standC (fun _ _ => 0)) 84)).grown hg5 (by simp; omega)
  have D5 := (D4.alloc (.cells (standC (fun _ _ => 0)) 84)).grown hg5 (by simp; omega)
  have K5 := (K4.alloc (.cells (standC (fun _ _ => 0)) 84)).grown hg5 (by simp; omega)
  have E5 : DA w5 w4.heap.size 84 V := hC5
  clear hg5 hC5 R4 D4 K4
  refine wp_region_held_drew (S := (fun w' => RA w' w2.heap.size 81 q f k A1 st.length c1 (safeB sf) ∧ DA w' w4.heap.size 84 V)) (by kernel_rfl) ⟨K5.drew, E5.drew⟩ (fun hS => ?_)
  refine wpAnyH_take (i := 0) (oi := ⟨some 24, _, _, _, _, _⟩) rfl (by kernel_rfl) (by kernel_rfl) (by kernel_rfl) (fun _ _ _ h => h) (yields_load_row rfl 81 (.tmp 7) rfl w2.heap.size rfl _ _ _ _ (fun _ h => h.1) Try.underlying81 rfl (by rw [ring_size]; exact sizeRing)) hS ?_
  try simp only [Act.put, List.setIfInBounds_toArray, List.set_cons_zero, List.set_cons_succ]
  refine wpAnyH_take (i := 1) (oi := ⟨some 25, _, _, _, _, _⟩) rfl (by kernel_rfl) (by kernel_rfl) (by kernel_rfl) (fun _ _ _ h => h) (yields_load_row rfl 84 (.tmp 9) rfl w4.heap.size rfl _ _ _ _ (fun _ h => h.2) Try.underlying84 rfl (by rw [stand_size]; exact sizeStand)) hS ?_
  try simp only [Act.put, List.setIfInBounds_toArray, List.set_cons_zero, List.set_cons_succ]
  refine wpAnyH_take (i := 2) (oi := ⟨some 26, _, _, _, _, _⟩) (v := ?vz1) rfl (by kernel_rfl) (by kernel_rfl) (by kernel_rfl) (fun _ _ _ h => h) (Or.inl ⟨by rfl, ?hz1⟩) hS ?rz1
  case hz1 => (intro w' hSw; (try dsimp only at hSw); go_simp; (try with_reducible rfl))
  try simp only [Act.put, List.setIfInBounds_toArray, List.set_cons_zero, List.set_cons_succ]
  refine wpAnyH_ready (rs := [3]) (by kernel_rfl) (by simp) ?_
  refine AllReadyH.cons (o := ⟨none, _, _, _, _, _⟩) rfl (fun K' hK' => ?_) AllReadyH.nil
  refine step_store_row rfl 81 (.tmp 4) (.tmp 24) rfl (w.heap.size + 1) rfl _ _ _ rfl R5.drew ?_ ?_ ring_one ?_
  simp only [ring_size]
  rw [ring_size]; exact sizeRing
  intro w6 h6 g6 s6
  have hS6 : RA w6 w2.heap.size 81 q f k A1 st.length c1 (safeB sf) ∧ DA w6 w4.heap.size 84 V := ⟨K5.drew.grown g6 (by simp; omega), E5.drew.grown g6 (by simp; omega)⟩
  have D6 := D5.drew.grown g6 (by simp)
  have hb6 := hb5.drew.grown g6 hb5.size (fun k h => by cases h; omega)
  refine hK'.out _ _ hS6 (fun _ => ?_)
  clear hK' K'
  try simp only [Act.put]
  refine wpAnyH_ready (rs := [4]) (by kernel_rfl) (by simp) ?_
  refine AllReadyH.cons (o := ⟨none, _, _, _, _, _⟩) rfl (fun K' hK' => ?_) AllReadyH.nil
  refine step_store_row rfl 84 (.tmp 5) (.tmp 25) rfl (w.heap.size + 1 + 1) rfl _ _ _ rfl D6 ?_ ?_ (stand_one _) ?_
  simp only [stand_size]
  rw [stand_size]; exact sizeStand
  intro w7 h7 g7 s7
  have hb7 := hb6.grown g7 hb6.size (fun k h => by cases h; omega)
  have R7 := (g7.block _ (heap_lt h6) (by simp)).trans h6
  have hS7 : RA w7 w2.heap.size 81 q f k A1 st.length c1 (safeB sf) ∧ DA w7 w4.heap.size 84 V := ⟨hS6.1.grown g7 (by simp; omega), hS6.2.grown g7 (by simp; omega)⟩
  refine hK'.out _ _ hS7 (fun _ => ?_)
  clear hK' K'
  try simp only [Act.put]
  refine wpAnyH_ready (rs := [5]) (by kernel_rfl) (by simp) ?_
  refine AllReadyH.cons (o := ⟨some 6, _, _, _, _, _⟩) rfl (fun K' hK' => ?_) AllReadyH.nil
  go_simp
  refine hK'.out _ _ hS7 (fun _ => ?_)
  clear hK' K'
  try simp only [Act.put, List.setIfInBounds_toArray, List.set_cons_zero, List.set_cons_succ]
  refine wpAnyH_done (by kernel_rfl) ?_ _
  go_wp2_with fail
  exact bodyPost_ret (v := .tuple #[.agg (ringC q f k A1 st.length c1 (safeB sf)), .agg (standC V), .bool r]) (results_cells2_slot Try.results62 _ _ _ _ _ _ _ _ _ _ _ _ _ rfl rfl rfl R7 h7 Try.underlying81 rfl (by rw [ring_size]; exact sizeRing) Try.underlying84 rfl (by rw [stand_size]; exact sizeStand)) rfl
    ⟨V, rfl, HVV.out, hb7⟩
end Go.Proofs.Ytbheegdmamcgaab

/- Several texts, one behind the other: C7c C7d. -/
import Derived.Test.YtmiefdjbhcpnbaaDoorZTTai
import Derived.Test.YtmiefdjbhcpnbaaDoorZTTag

namespace Go.Proofs.YtmiefdjbhcpnbaaDoor
open Go.RowKit

set_option maxRecDepth 100000 in
theorem zeroRing : (#[.int .i64 0, .int .i64 0, .int .i64 0, .slice none 0 0, .bool false, .bool false, .bool false, .bool false, .bool false, .bool false, .bool false, .bool false, .bool false, .bool false, .bool false, .bool false, .bool false, .bool false, .bool false, .bool false, .bool false, .bool false, .bool false, .bool false, .bool false, .bool false, .bool false, .bool false, .bool false, .bool false, .bool false, .bool false, .bool false, .bool false, .bool false, .bool false, .bool false, .bool false, .bool false, .bool false, .bool false, .bool false, .bool false, .bool false, .bool false, .bool false, .bool false, .bool false, .bool false, .bool false, .bool false, .bool false, .bool false, .bool false, .bool false, .bool false, .bool false, .bool false, .bool false, .bool false, .bool false, .bool false, .bool false, .bool false] : Array Value) = ringC 0 0 0 none 0 0 (fun _ => false) := by kernel_rfl
theorem sizeRing : (Tryd.prog.info? 81).map (·.size) = some 64 := by kernel_rfl
set_option maxRecDepth 100000 in
theorem run_buildRing (w : World) (q f k : Int) (A : Option Addr) (n c : Nat) : (Instr.build 81 #[(0, .int .i64 q), (1, .int .i64 f), (2, .int .i64 k), (3, .slice A n c)]).run Tryd.prog w = .ok (.agg (ringC q f k A n c (fun _ => false))) w := by kernel_rfl
set_option maxRecDepth 100000 in
theorem run_buildRing0 (w : World) : (Instr.build 81 #[]).run Tryd.prog w = .ok (.agg (ringC 0 0 0 none 0 0 (fun _ => false))) w := by kernel_rfl

theorem zsetRing (q f k : Int) (A : Option Addr) (n c : Nat) : ((((ringC 0 0 0 none 0 0 (fun _ => false)).setIfInBounds 0 (.int .i64 q)).setIfInBounds 1 (.int .i64 f)).setIfInBounds 2 (.int .i64 k)).setIfInBounds 3 (.slice A n c) = ringC q f k A n c (fun _ => false) := by kernel_rfl

set_option maxRecDepth 100000 in
set_option maxHeartbeats 2000000 in
theorem ringOf_any (q f k : Int) (A1 A2 : Option Addr) (c1 c2 : Nat) (st sf : List Int) (w : World) (h1 : RI w w.heap.size A1 st) (h2 : RI w w.heap.size A2 sf) (hc : st.length ≤ c1) (V : Array Value) (r : Bool)
    (hr : trkOk q f k st sf = r) (hV : V = if r = true then ringC q f k A1 st.length c1 (safeB sf) else ringC 0 0 0 none 0 0 (fun _ => false)) :
    Calls Tryd.prog 58 #[.agg #[.int .i64 q, .int .i64 f, .int .i64 k, .slice A1 st.length c1, .slice A2 sf.length c2]] w fun e w' => e = .returned (.tuple #[.agg V, .bool r]) ∧ Below w.heap.size w w' := by
  have hl := h1.1
  have hl2 := h2.1
  have z0 := zeroRing
  have b0 := run_buildRing0
  have HV := Lib.hid hV
  have HR := Lib.hid hr
  clear hV hr
  go_enter Tryd.func58, Tryd.ntmps58
  go_wp2_with (with_reducible show wpList _ _ _ ({ dst := none, op := .store 81 (.tmp 4) (.tmp 16), type := _, pos := _, after := _, guard := _ } :: _) _ _; go_loud (refine wpList_store_row rfl 81 (.tmp 4) _ rfl (w.heap.size + 1 + 1) rfl 81 (ringC 0 0 0 none 0 0 (fun _ => false)) ((((ringC 0 0 0 none 0 0 (fun _ => false)).setIfInBounds 0 (.int .i64 q)).setIfInBounds 1 (.int .i64 f)).setIfInBounds 2 (.int .i64 k) |>.setIfInBounds 3 (.slice A1 st.length c1)) rfl (heap_alloc_at _ _ _ (by simp)) ?_ ?_ ?_ ?_; (rw [zsetRing, ring_size, ring_size]); (rw [zsetRing, ring_size]; exact sizeRing); (rw [zsetRing]; exact ring_one); intro w2 hK hg2 hs2))
  simp only [World.size_alloc] at hs2
  rw [zsetRing] at hK
  have R1 : RA w2 (w.heap.size + 1 + 1) 81 q f k A1 st.length c1 (fun _ => false) := hK
  have R0 : RA w2 (w.heap.size + 1) 81 0 0 0 none 0 0 (fun _ => false) := (hg2.block (w.heap.size + 1) (by simp) (by simp)).trans ((Below.heap_alloc _ _ _ (by simp)).trans (heap_alloc_at _ _ _ (by simp)))
  have B0 := (hg2.block w.heap.size (by simp; omega) (by simp; omega)).trans ((Below.heap_alloc _ _ _ (by simp; omega)).trans ((Below.heap_alloc _ _ _ (by simp)).trans (heap_alloc_at w _ _ rfl)))
  have q0 := fun i => cell_of_row w2 w.heap.size i _ _ _ B0
  have hb : Below w.heap.size w w2 := (below3 w _ _ _).grown hg2 (by simp; omega) (fun k h => by cases h; omega)
  clear hK hg2 B0
  cases hz1 : trkSizes q f k st.length
  · have E : r = false := by rw [← HR.out, trkOk, hz1]; rfl
    have HZ1 := Lib.hid hz1
    go_wp2_with (first | (go_at_call 75; refine (hasSizes_any _ _ _ _ _ _ _ _ _ R1).mono ?_; rintro e w' ⟨rfl, rfl⟩) | (refine wpList_store_row rfl 81 (.tmp 2) _ rfl (w.heap.size + 1) rfl _ _ _ rfl R0 ?_ ?_ ring_one ?_; (simp only [ring_size]); (rw [ring_size]; exact sizeRing); intro w4 hC4 hg4 hs4))
    exact bodyPost_ret (v := .tuple #[.agg (ringC 0 0 0 none 0 0 (fun _ => false)), .bool false]) (results_cell_slot Tryd.results58 _ _ _ _ _ _ _ _ rfl rfl hC4 Tryd.underlying81 rfl (by rw [ring_size]; exact sizeRing)) rfl
      ⟨by rw [HV.out, E]; rfl, hb.grown hg4 hb.size (fun k h => by cases h; omega)⟩
  have hq := (trkSizes_iff.1 hz1).1
  cases hz2 : startsB (q - 1) [] st
  · have E : r = false := by rw [← HR.out, trkOk, hz1, hz2]; rfl
    have HZ1 := Lib.hid hz1
    have HZ2 := Lib.hid hz2
    go_wp2_with (first | (go_at_call 75; refine (hasSizes_any _ _ _ _ _ _ _ _ _ R1).mono ?_; rintro e w' ⟨rfl, rfl⟩) | (go_at_call 76; refine (hasStarts_any _ _ _ _ _ _ _ _ _ R1 st rfl (h1.go hb) hc (by omega) (by omega)).mono ?_; rintro e w' ⟨rfl, rfl⟩) | (refine wpList_store_row rfl 81 (.tmp 2) _ rfl (w.heap.size + 1) rfl _ _ _ rfl R0 ?_ ?_ ring_one ?_; (simp only [ring_size]); (rw [ring_size]; exact sizeRing); intro w4 hC4 hg4 hs4))
    exact bodyPost_ret (v := .tuple #[.agg (ringC 0 0 0 none 0 0 (fun _ => false)), .bool false]) (results_cell_slot Tryd.results58 _ _ _ _ _ _ _ _ rfl rfl hC4 Tryd.underlying81 rfl (by rw [ring_size]; exact sizeRing)) rfl
      ⟨by rw [HV.out, E]; rfl, hb.grown hg4 hb.size (fun k h => by cases h; omega)⟩
  have HZ1 := Lib.hid hz1
  have HZ2 := Lib.hid hz2
  go_wp2_with (first | (go_at_call 75; refine (hasSizes_any _ _ _ _ _ _ _ _ _ R1).mono ?_; rintro e w' ⟨rfl, rfl⟩) | (go_at_call 76; refine (hasStarts_any _ _ _ _ _ _ _ _ _ R1 st rfl (h1.go hb) hc (by omega) (by omega)).mono ?_; rintro e w' ⟨rfl, rfl⟩))
  have HR2 : Hid (riseB (-1) (q - 1) sf = r) := Lib.hid (by rw [← HR.out, trkOk, hz1, hz2]; rfl)
  clear HR
  go_loopw [5, 27] (fun v i wr => ∃ j : Nat, j ≤ sf.length ∧ i = .int .i64 j ∧ v = .int .i64 (lastI sf j) ∧ Below w.heap.size w wr ∧ RA wr (w.heap.size + 1) 81 0 0 0 none 0 0 (fun _ => false) ∧ RA wr (w.heap.size + 1 + 1) 81 q f k A1 st.length c1 (safeB (sf.take j)) ∧ Hid (riseB (-1) (q - 1) sf = riseB (lastI sf j) (q - 1) (sf.drop j))) (fun _ i _ => sf.length - (intOf i).toNat)
  case atStart => exact ⟨0, Nat.zero_le _, rfl, rfl, hb, R0, R1, Lib.hid rfl⟩
  case round =>
    clear R0 R1 q0 hb
    obtain ⟨j, hj, rfl, rfl, hb, R0, R1, Hd⟩ := hrel
    have hsz := R1.lt
    by_cases hlt : j < sf.length
    · obtain ⟨b, off, rfl, hB, h3⟩ := h2.at_ hb hlt
      have HD := Lib.hid (Hd.out.trans (riseB_drop hlt))
      clear Hd
      by_cases hle : sf[j] ≤ lastI sf j
      · have E : r = false := by rw [← HR2.out, HD.out]; simp; omega
        go_wp2_with (refine wpList_store_row rfl 81 (.tmp 2) _ rfl (w.heap.size + 1) rfl _ _ _ rfl R0 ?_ ?_ ring_one ?_; (simp only [ring_size]); (rw [ring_size]; exact sizeRing); intro w4 hC4 hg4 hs4)
        exact bodyPost_ret (v := .tuple #[.agg (ringC 0 0 0 none 0 0 (fun _ => false)), .bool false]) (results_cell_slot Tryd.results58 _ _ _ _ _ _ _ _ rfl rfl hC4 Tryd.underlying81 rfl (by rw [ring_size]; exact sizeRing)) rfl
          ⟨by rw [HV.out, E]; rfl, hb.grown hg4 hb.size (fun k h => by cases h; omega)⟩
      cases hp : inB sf[j] 0 (q - 1)
      · have E : r = false := by rw [← HR2.out, HD.out, hp]; simp
        have HP := Lib.hid hp
        go_wp2_with (first | (go_at_call 77; refine (hasSquare_any _ _ _ _ _ _ _ _ _ R1 _ (by omega) (by omega)).mono ?_; rintro e w' ⟨rfl, rfl⟩) | (refine wpList_store_row rfl 81 (.tmp 2) _ rfl (w.heap.size + 1) rfl _ _ _ rfl R0 ?_ ?_ ring_one ?_; (simp only [ring_size]); (rw [ring_size]; exact sizeRing); intro w4 hC4 hg4 hs4))
        exact bodyPost_ret (v := .tuple #[.agg (ringC 0 0 0 none 0 0 (fun _ => false)), .bool false]) (results_cell_slot Tryd.results58 _ _ _ _ _ _ _ _ rfl rfl hC4 Tryd.underlying81 rfl (by rw [ring_size]; exact sizeRing)) rfl
          ⟨by rw [HV.out, E]; rfl, hb.grown hg4 hb.size (fun k h => by cases h; omega)⟩
      · have hpp := inB_iff.1 hp
        obtain ⟨m, hm⟩ := Int.eq_ofNat_of_zero_le hpp.1
        have hm' : sf[j] = (m : Int) := hm
        have hmx : m < 60 := by omega
        have hl1 : lastI sf (j + 1) = (m : Int) := by simp [lastI, List.getElem?_eq_getElem hlt, hm']
        have HP := Lib.hid hp
        rw [hm'] at h3 hle
        have HD2 : Hid (riseB (-1) (q - 1) sf = riseB (lastI sf (j + 1)) (q - 1) (sf.drop (j + 1))) := Lib.hid (by rw [HD.out, HP.out, hm']; simp; omega)
        have hst := fun i => safe_step hlt hm' i
        have HM := Lib.hid hm'
        have HL := Lib.hid hl1
        have d1 := R1.at_ hmx
        have d2 := R1.free (4 + m)
        have hp2 : inB (m : Int) 0 (q - 1) = true := by rw [← hm']; exact hp
        clear hp hm hm' hl1 HD
        go_wp2_with (go_at_call 77; refine (hasSquare_any _ _ _ _ _ _ _ _ _ R1 _ (by omega) (by omega)).mono ?_; rintro e w' ⟨rfl, rfl⟩)
        go_roundw
        case rel => exact ⟨j + 1, by omega, by go_num, by rw [HL.out], hb.setCell (by dsimp only; omega) _, R0.far (by dsimp only; omega) _, (R1.set hmx true).congr (fun i _ => hst i), HD2⟩
        case measure => simp [intOf]; omega
    · obtain rfl : j = sf.length := by omega
      have E : r = true := by rw [← HR2.out, Hd.out]; simp [riseB]
      rw [List.take_of_length_le (Nat.le_refl _)] at R1
      go_wp2_with (first | (refine wpList_load_row rfl 81 (.tmp 4) rfl (w.heap.size + 1 + 1) rfl _ _ _ _ R1 Tryd.underlying81 rfl ?_ ?_; (rw [ring_size]; exact sizeRing)) | (refine wpList_store_row rfl 81 (.tmp 2) _ rfl (w.heap.size + 1) rfl _ _ _ rfl R0 ?_ ?_ ring_one ?_; (simp only [ring_size]); (rw [ring_size]; exact sizeRing); intro w4 hC4 hg4 hs4))
      exact bodyPost_ret (v := .tuple #[.agg (ringC q f k A1 st.length c1 (safeB sf)), .bool true]) (results_cell_slot Tryd.results58 _ _ _ _ _ _ _ _ rfl rfl hC4 Tryd.underlying81 rfl (by rw [ring_size]; exact sizeRing)) rfl
        ⟨by rw [HV.out, E]; rfl, hb.grown hg4 hb.size (fun k h => by cases h; omega)⟩
end Go.Proofs.YtmiefdjbhcpnbaaDoor

namespace Go.Proofs.YtmiefdjbhcpnbaaDoor
open Go.RowKit

theorem ringOf_yes (q f k : Int) (A1 A2 : Option Addr) (c1 c2 : Nat) (st sf : List Int) (w : World) (h1 : RI w w.heap.size A1 st) (h2 : RI w w.heap.size A2 sf) (hc : st.length ≤ c1) (hz : trkOk q f k st sf = true) :
    Calls Tryd.prog 58 #[.agg #[.int .i64 q, .int .i64 f, .int .i64 k, .slice A1 st.length c1, .slice A2 sf.length c2]] w fun e w' => e = .returned (.tuple #[.agg (ringC q f k A1 st.length c1 (safeB sf)), .bool true]) ∧ Below w.heap.size w w' :=
  ringOf_any q f k A1 A2 c1 c2 st sf w h1 h2 hc _ _ hz rfl
theorem ringOf_no (q f k : Int) (A1 A2 : Option Addr) (c1 c2 : Nat) (st sf : List Int) (w : World) (h1 : RI w w.heap.size A1 st) (h2 : RI w w.heap.size A2 sf) (hc : st.length ≤ c1) (hz : trkOk q f k st sf = false) :
    Calls Tryd.prog 58 #[.agg #[.int .i64 q, .int .i64 f, .int .i64 k, .slice A1 st.length c1, .slice A2 sf.length c2]] w fun e w' => e = .returned (.tuple #[.agg (ringC 0 0 0 none 0 0 (fun _ => false)), .bool false]) ∧ Below w.heap.size w w' :=
  ringOf_any q f k A1 A2 c1 c2 st sf w h1 h2 hc _ _ hz rfl
/-- What ringOf hands back, told by variables. -/
theorem ring_told (q f k : Int) (A1 : Option Addr) (c1 : Nat) (st sf : List Int) : ∃ (V : Array Value) (r : Bool), trkOk q f k st sf = r ∧ V = (if r = true then ringC q f k A1 st.length c1 (safeB sf) else ringC 0 0 0 none 0 0 (fun _ => false)) ∧ V.size = 64 ∧ ∀ u ∈ V.toList, u.oneCell' = true := by
  refine ⟨_, _, rfl, rfl, ?_, ?_⟩
  · cases trkOk q f k st sf <;> simp [ring_size]
  · cases trkOk q f k st sf
    · exact ring_one
    · exact ring_one

set_option maxRecDepth 100000 in
theorem implIsTrack_any (q f k : Int) (A1 A2 : Option Addr) (c1 c2 : Nat) (st sf : List Int) (w : World) (h1 : RI w w.heap.size A1 st) (h2 : RI w w.heap.size A2 sf) (hc : st.length ≤ c1) :
    Calls Tryd.prog 29 #[.agg #[.int .i64 q, .int .i64 f, .int .i64 k, .slice A1 st.length c1, .slice A2 sf.length c2]] w fun e w' => e = .returned (.bool (trkOk q f k st sf)) ∧ Below w.heap.size w w' := by
  have hl := h1.1
  have hl2 := h2.1
  have z0 := zeroRing
  obtain ⟨V, r, hr, hV, hs, h1c⟩ := ring_told q f k A1 c1 st sf
  rw [hr]
  have HV := Lib.hid hV
  have HR := Lib.hid hr
  clear hV hr
  go_enter Tryd.func29, Tryd.ntmps29
  go_wp2_with fail
  refine (ringOf_any _ _ _ _ _ _ _ _ _ _ (h1.go (below1 _ _)) (h2.go (below1 _ _)) hc V r HR.out HV.out).mono ?_
  rintro e w2 ⟨rfl, hb2⟩
  have hb : Below w.heap.size w w2 := (below1 _ _).trans (hb2.mono (by simp))
  go_wp2_with (refine wpList_store_row rfl 81 (.tmp 3) _ rfl w2.heap.size rfl _ _ V rfl (heap_alloc_at _ _ _ rfl) ?_ ?_ h1c ?_; (rw [hs, ring_size]); (rw [hs]; exact sizeRing); intro w4 hC4 hg4 hs4)
  go_ret
  exact ⟨rfl, (hb.alloc hb.size _).grown hg4 (by simp; have := hb.size; omega) (fun k h => by cases h; exact hb.size)⟩

section
variable (g : Nat) (q f k : Int) (A : Option Addr) (n c : Nat) (S : Nat → Bool) (w : World) (hR : RA w g 81 q f k A n c S)
include hR




end
end Go.Proofs.YtmiefdjbhcpnbaaDoor

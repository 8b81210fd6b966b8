/-
  Tracks: IsDonePlayer on both sides.
-/
import Derived.Test.YtpecocmgclancaaC7o
import Derived.ChangeKeysEq
import Derived.Deep.RegionHeld3
namespace Go.Proofs.Ytpecocmgclancaa
open Go.RowKit

def doneB (q : Int) : List Int → Bool
  | [] => true
  | x :: t => (x == q) && doneB q t
theorem done_four {q : Int} {L : List (List Int)} {P : Nat} (h : P < L.length) (h4 : L[P].length ≤ 4) : (stF q L P 0 == q && (stF q L P 1 == q && (stF q L P 2 == q && (stF q L P 3 == q && true)))) = doneB q L[P] := by
  have hin : ∀ t (ht : t < L[P].length), stF q L P t = L[P][t] := fun t ht => stF_at h ht
  have hout : ∀ t, L[P].length ≤ t → stF q L P t = q := fun t ht => by simp [stF, h, show ¬ t < L[P].length by omega]
  generalize L[P] = xs at *
  match xs, h4 with
  | [], _ => rw [hout 0 (by simp), hout 1 (by simp), hout 2 (by simp), hout 3 (by simp)]; simp [doneB]
  | [a], _ => rw [hin 0 (by simp), hout 1 (by simp), hout 2 (by simp), hout 3 (by simp)]; simp [doneB]
  | [a, b], _ => rw [hin 0 (by simp), hin 1 (by simp), hout 2 (by simp), hout 3 (by simp)]; simp [doneB]
  | [a, b, c], _ => rw [hin 0 (by simp), hin 1 (by simp), hin 2 (by simp), hout 3 (by simp)]; simp [doneB]
  | [a, b, c, d], _ => rw [hin 0 (by simp), hin 1 (by simp), hin 2 (by simp), hin 3 (by simp)]; simp [doneB]
theorem cells_intT : Try.prog.cellsOf 3 = 1 := by kernel_rfl
theorem infoIntT : (Try.prog.info? 3).map (fun i => (i.zero, i.size, i.bytes)) = some (some (.int .i64 0), 1, 8) := by kernel_rfl
theorem idx_q (q : Int) {P : Nat} (hP : P < 4) (w : World) : (Instr.index 68 (.agg (standC (fun _ _ => q))) (.int .i64 (P : Int))).run Try.prog w = .ok (.agg #[.int .i64 q, .int .i64 q, .int .i64 q, .int .i64 q]) w := by
  rcases (show P = 0 ∨ P = 1 ∨ P = 2 ∨ P = 3 by omega) with rfl | rfl | rfl | rfl
  · kernel_rfl
  · kernel_rfl
  · kernel_rfl
  · kernel_rfl
theorem idx_alike (n : Nat) (k q : Int) {P : Nat} (hP : P < 4) : ∀ w, (Instr.index 68 (.agg (standC (alikeF n k q q))) (.int .i64 (P : Int))).run Try.prog w = .ok (.agg #[.int .i64 q, .int .i64 q, .int .i64 q, .int .i64 q]) w := fun w => by
  rw [stand_congr (G := fun _ _ => q) (fun x _ y _ => by unfold alikeF; split <;> rfl)]
  exact idx_q q hP w
theorem eq_rows4 (q : Int) : ∀ (ys : List Int) (is : List Nat) (w : World), ys.length = 4 → (∀ i ∈ is, i < 4) → (Op.eqItems 9999 3 1 (ys.map (Value.int .i64)).toArray #[.int .i64 q, .int .i64 q, .int .i64 q, .int .i64 q] is).run Try.prog w = .ok (is.all fun i => ys.getD i 0 == q) w
  | ys, [], w, _, _ => by simp [Op.eqItems]
  | ys, i :: is, w, hl, h => by
    obtain ⟨i0, h0, _, h2, _⟩ := info_parts infoIntT
    have hi := h i (by simp)
    have g1 : (ys.map (Value.int .i64)).toArray[i]? = some (.int .i64 (ys.getD i 0)) := by simp [List.getD_eq_getElem?_getD, List.getElem?_eq_getElem (show i < ys.length by omega)]
    have g2 : (#[Value.int .i64 q, .int .i64 q, .int .i64 q, .int .i64 q] : Array Value)[i]? = some (.int .i64 q) := by
      rcases (show i = 0 ∨ i = 1 ∨ i = 2 ∨ i = 3 by omega) with rfl | rfl | rfl | rfl <;> rfl
    have p1 : (part 3 (ys.map (Value.int .i64)).toArray (i * 1)).run Try.prog w = .ok (.int .i64 (ys.getD i 0)) w := by
      rw [Nat.mul_one]
      simp only [part]
      simp only [List.getElem?_toArray] at g1
      simp [go_sem, g1]
    have p2 : (part 3 #[.int .i64 q, .int .i64 q, .int .i64 q, .int .i64 q] (i * 1)).run Try.prog w = .ok (.int .i64 q) w := by
      rw [Nat.mul_one]
      simp only [part]
      simp [go_sem, g2]
    have ih := eq_rows4 q ys is w hl (fun j hj => h j (by simp [hj]))
    have he : (Op.equalIn 9999 3 (.int .i64 (ys.getD i 0)) (.int .i64 q)).run Try.prog w = .ok (ys.getD i 0 == q) w := by simp [go_sem]
    simp only [Op.eqItems, Sem.run_bind, p1, p2, he, Result.andThen_ok, List.all_cons]
    cases hb : (ys.getD i 0 == q)
    · simp
    · simpa using ih
theorem eql_row4 (y0 y1 y2 y3 q : Int) (w : World) : (Op.equalIn 10000 66 (.agg #[.int .i64 y0, .int .i64 y1, .int .i64 y2, .int .i64 y3]) (.agg #[.int .i64 q, .int .i64 q, .int .i64 q, .int .i64 q])).run Try.prog w = .ok (y0 == q && (y1 == q && (y2 == q && (y3 == q && true)))) w := by
  obtain ⟨i0, hi, _, _, _⟩ := info_parts infoIntT
  have e : (Op.equalIn 10000 66 (.agg #[.int .i64 y0, .int .i64 y1, .int .i64 y2, .int .i64 y3]) (.agg #[.int .i64 q, .int .i64 q, .int .i64 q, .int .i64 q])).run Try.prog w = (Op.eqItems 9999 3 1 ([y0, y1, y2, y3].map (Value.int .i64)).toArray #[.int .i64 q, .int .i64 q, .int .i64 q, .int .i64 q] (List.range 4)).run Try.prog w := by
    rw [← cells_intT]
    exact run_equalIn_array w 9999 _ _ Try.underlying66 hi
  rw [e, eq_rows4 q _ _ w rfl (fun i hi => by simpa using hi)]
  rfl

set_option maxHeartbeats 1000000 in
theorem specDone_any (q f k : Int) (A1 A2 A3 : Option Addr) (c1 c2 c3 : Nat) (st sf : List Int) (L : List (List Int)) (p : Int) (w : World) (h1 : RI w w.heap.size A1 st) (h2 : RI w w.heap.size A2 sf) (h3 : RG w w.heap.size A3 L) (hc : st.length ≤ c1) (r : Bool) (R : Bool) (hr : plB q f k st sf L p = r) (hR0 : r = false → R = false) (hR1 : r = true → R = doneB q (L.getD p.toNat [])) :
    Calls Try.prog 43 #[.agg #[.int .i64 q, .int .i64 f, .int .i64 k, .slice A1 st.length c1, .slice A2 sf.length c2], .slice A3 L.length c3, .int .i64 p] w fun e w' => e = .returned (.tuple #[.bool R, .bool r]) ∧ Below w.heap.size w w' := by
  have hl := h1.1
  have hl2 := h2.1
  have hl3 := h3.1
  have HR := Lib.hid hr
  clear hr
  go_enter Try.func43, Try.ntmps43
  go_wp2_with fail
  refine (trPlayer_any q f k A1 A2 A3 c1 c2 c3 st sf L p _ (h1.go (below1 _ _)) (h2.go (below1 _ _)) ((h3.below (below1 _ _)).more (below1 _ _).size) hc).mono ?_
  rintro e w2 ⟨rfl, hx⟩
  rw [HR.out]
  have hb := box_on (Below.refl _ _) hx (by simp)
  have hbw := (below1 w (.cells #[.int .i64 q, .int .i64 f, .int .i64 k, .slice A1 st.length c1, .slice A2 sf.length c2] 27)).trans (hb.mono (by omega))
  have qq := boxcells hb
  cases r
  · obtain rfl := hR0 rfl
    go_wp2
    go_ret2
    exact ⟨rfl, hbw⟩
  have hRR := hR1 rfl
  clear hR0 hR1
  have hTS := state_is (Bool.and_eq_true_iff.1 HR.out).1
  obtain ⟨q4, q60, f1, f8, k1, k4, n2, n4, st0, sf0, sfl⟩ := hTS.1
  have hSt := hTS.2
  have hpb := inB_iff.1 (Bool.and_eq_true_iff.1 HR.out).2
  obtain ⟨P, hP⟩ := Int.eq_ofNat_of_zero_le hpb.1
  subst hP
  have hlt : P < L.length := by have := hSt.len; omega
  obtain ⟨b, off, A', c', rfl, hbb, hc0, hrow⟩ := h3.at_ (Below.refl _ w) hlt
  have hrv := hSt.val P hlt
  have hrl := hSt.row P hlt
  have hcc := (bcell hbw hbb).trans hc0
  clear hc0
  rw [Int.toNat_natCast, List.getD_eq_getElem?_getD, List.getElem?_eq_getElem hlt, Option.getD_some] at hRR
  obtain ⟨xs, hxs⟩ : ∃ xs, xs = L[P] := ⟨_, rfl⟩
  rw [← hxs] at hcc hrow hrl hRR
  have hrv' : ∀ t (h : t < xs.length), -1 ≤ xs[t] ∧ xs[t] ≤ q := fun t h => by subst hxs; exact hrv t h
  have hxl : xs.length ≤ 4 := by omega
  have HRR := Lib.hid hRR
  clear hxs hrv hrl hRR hSt hTS HR
  go_wp2_with fail
  go_loop [20] (fun i => ∃ t : Nat, t ≤ xs.length ∧ i = .int .i64 t ∧ Hid (doneB q xs = doneB q (xs.drop t))) (fun i => xs.length - (intOf i).toNat)
  case atStart => exact ⟨0, Nat.zero_le _, rfl, Lib.hid rfl⟩
  case round =>
    obtain ⟨t, ht, rfl, Hd⟩ := hrel
    by_cases htl : t < xs.length
    · obtain ⟨b2, off2, rfl, hb2, h5⟩ := hrow.at_ hbw htl
      have hx := hrv' t htl
      have hd := Hd.out
      rw [drop_step _ _ htl, doneB] at hd
      obtain ⟨x, hxx⟩ : ∃ x, x = xs[t] := ⟨_, rfl⟩
      rw [← hxx] at h5 hx hd
      have HD := Lib.hid hd
      clear hxx hd Hd
      by_cases hlq : x < q
      · have e1 : R = false := by rw [HRR.out, HD.out]; simp; omega
        have E1 := Lib.hid e1
        clear e1
        go_wp2
        go_ret2
        exact ⟨by rw [E1.out]; rfl, hbw⟩
      · have e1 : (x == q) = true := by simp; omega
        have E1 := Lib.hid e1
        clear e1
        go_wp2_with fail
        go_round
        case rel => exact ⟨t + 1, by omega, by go_num, Lib.hid (by rw [HD.out, E1.out, Bool.true_and])⟩
        case measure => simp [intOf]; omega
    · have e1 : R = true := by rw [HRR.out, Hd.out, List.drop_eq_nil_of_le (by omega)]; rfl
      have E1 := Lib.hid e1
      clear e1
      go_wp2
      go_ret2
      exact ⟨by rw [E1.out]; rfl, hbw⟩

set_option maxRecDepth 100000 in
set_option maxHeartbeats 2000000 in
theorem implDone_no (q f k : Int) (A1 A2 A3 : Option Addr) (c1 c2 c3 : Nat) (st sf : List Int) (L : List (List Int)) (p : Int) (w : World) (h1 : RI w w.heap.size A1 st) (h2 : RI w w.heap.size A2 sf) (h3 : RG w w.heap.size A3 L) (hc : st.length ≤ c1) (hr : plB q f k st sf L p = false) :
    Calls Try.prog 44 #[.agg #[.int .i64 q, .int .i64 f, .int .i64 k, .slice A1 st.length c1, .slice A2 sf.length c2], .slice A3 L.length c3, .int .i64 p] w fun e w' => e = .returned (.tuple #[.bool false, .bool false]) ∧ Below w.heap.size w w' := by
  have hl := h1.1
  have hl2 := h2.1
  have hl3 := h3.1
  cases hz : (trkOk q f k st sf && stateB q k st sf L)
  · have HF := Lib.hid hz
    clear hz hr
    have z0 := zeroRing
    have z1 := zeroStand
    go_enter Try.func44, Try.ntmps44
    go_wp2_with fail
    refine (ringAndStand_fail q f k A1 A2 A3 c1 c2 c3 st sf L _ (h1.go (below1 _ _)) (h2.go (below1 _ _)) ((h3.below (below1 _ _)).more (below1 _ _).size) hc HF.out).mono ?_
    rintro e w2 ⟨RV, V, rfl, hRs, hR1, hx⟩
    have hbx := box_on (Below.refl _ _) hx (by simp)
    clear hx
    go_wp2_with (first | (refine wpList_store_row rfl 62 (.tmp 8) _ rfl w2.heap.size rfl _ _ (RV) rfl ((Below.heap_alloc _ _ _ (by simp)).trans (heap_alloc_at _ _ _ rfl)) ?_ ?_ hR1 ?_; (rw [hRs, ring_size]); (rw [hRs]; exact sizeRing); intro w3 hC3 hg3 hs3; have N3 := (hg3.block (w2.heap.size + 1) (by simp) (by simp)).trans (heap_alloc_at _ _ _ (by simp))) | (refine wpList_store_row rfl 68 (.tmp 9) _ rfl (w2.heap.size + 1) rfl _ _ (standC (V)) rfl N3 ?_ ?_ (stand_one _) ?_; (simp only [stand_size]); (rw [stand_size]; exact sizeStand); intro w4 hC4 hg4 hs4))
    have hsz2 : w.heap.size + 1 ≤ w2.heap.size := by have := hbx.size; simpa using this
    have hbx4 : Below (w.heap.size + 1) (w.alloc (.cells #[.int .i64 q, .int .i64 f, .int .i64 k, .slice A1 st.length c1, .slice A2 sf.length c2] 27)) w4 := (((hbx.alloc hsz2 _).alloc (by simp; omega) _).grown hg3 (by simp; omega) (fun k h => by injection h with h; omega)).grown hg4 (by have := hg3.size; simp at this; omega) (fun k h => by injection h with h; omega)
    have hb4 : Below w.heap.size w w4 := (below1 w _).trans (hbx4.mono (by omega))
    go_ret2
    exact ⟨rfl, hb4⟩
  have hp : inB p 0 ((st.length : Int) - 1) = false := by rw [plB, hz, Bool.true_and] at hr; exact hr
  have HP := Lib.hid hp
  rw [Bool.and_eq_true] at hz
  have HZ := Lib.hid hz.1; have HS := Lib.hid hz.2
  clear hz hr hp
  have z0 := zeroRing
  have z1 := zeroStand
  go_enter Try.func44, Try.ntmps44
  go_wp2_with fail
  refine (ringAndStand_in q f k A1 A2 A3 c1 c2 c3 st sf L _ (h1.go (below1 _ _)) (h2.go (below1 _ _)) ((h3.below (below1 _ _)).more (below1 _ _).size) hc HZ.out).mono ?_
  rintro e w2 ⟨V, rfl, hV, hx⟩
  rw [HS.out] at hV ⊢
  obtain rfl := hV rfl
  clear hV
  have hbx := box_on (Below.refl _ _) hx (by simp)
  clear hx
  go_wp2_with (first | (refine wpList_store_row rfl 62 (.tmp 8) _ rfl w2.heap.size rfl _ _ (ringC q f k A1 st.length c1 (safeB sf)) rfl ((Below.heap_alloc _ _ _ (by simp)).trans (heap_alloc_at _ _ _ rfl)) ?_ ?_ ring_one ?_; (simp only [ring_size]); (rw [ring_size]; exact sizeRing); intro w3 hC3 hg3 hs3; have N3 := (hg3.block (w2.heap.size + 1) (by simp) (by simp)).trans (heap_alloc_at _ _ _ (by simp))) | (refine wpList_store_row rfl 68 (.tmp 9) _ rfl (w2.heap.size + 1) rfl _ _ (standC (stF q L)) rfl N3 ?_ ?_ (stand_one _) ?_; (simp only [stand_size]); (rw [stand_size]; exact sizeStand); intro w4 hC4 hg4 hs4) | (go_at_call 59; refine (hasPlayer_any _ _ _ _ _ _ _ _ _ (show RA w4 w2.heap.size 62 q f k A1 st.length c1 (safeB sf) from (hg4.block _ (heap_lt hC3) (by simp)).trans hC3) _ hl).mono ?_; rintro e w' ⟨rfl, rfl⟩; rw [HP.out]))
  have hsz2 : w.heap.size + 1 ≤ w2.heap.size := by have := hbx.size; simpa using this
  have hbx4 : Below (w.heap.size + 1) (w.alloc (.cells #[.int .i64 q, .int .i64 f, .int .i64 k, .slice A1 st.length c1, .slice A2 sf.length c2] 27)) w4 := (((hbx.alloc hsz2 _).alloc (by simp; omega) _).grown hg3 (by simp; omega) (fun k h => by injection h with h; omega)).grown hg4 (by have := hg3.size; simp at this; omega) (fun k h => by injection h with h; omega)
  have hb4 : Below w.heap.size w w4 := (below1 w _).trans (hbx4.mono (by omega))
  have K4 : RA w4 w2.heap.size 62 q f k A1 st.length c1 (safeB sf) := (hg4.block _ (heap_lt hC3) (by simp)).trans hC3
  have E4 : DA w4 (w2.heap.size + 1) 68 (stF q L) := hC4
  go_ret2
  exact ⟨rfl, hb4⟩

set_option maxRecDepth 100000 in
set_option maxHeartbeats 2000000 in
theorem implDone_yes (q f k : Int) (A1 A2 A3 : Option Addr) (c1 c2 c3 : Nat) (st sf : List Int) (L : List (List Int)) (p : Int) (w : World) (h1 : RI w w.heap.size A1 st) (h2 : RI w w.heap.size A2 sf) (h3 : RG w w.heap.size A3 L) (hc : st.length ≤ c1) (hr : plB q f k st sf L p = true) :
    Calls Try.prog 44 #[.agg #[.int .i64 q, .int .i64 f, .int .i64 k, .slice A1 st.length c1, .slice A2 sf.length c2], .slice A3 L.length c3, .int .i64 p] w fun e w' => e = .returned (.tuple #[.bool (doneB q (L.getD p.toNat [])), .bool true]) ∧ Below w.heap.size w w' := by
  have hl := h1.1
  have hl2 := h2.1
  have hl3 := h3.1
  have hTS := state_is (Bool.and_eq_true_iff.1 hr).1
  obtain ⟨q4, q60, f1, f8, k1, k4, n2, n4, st0, sf0, sfl⟩ := hTS.1
  have hSt := hTS.2
  have hp := (Bool.and_eq_true_iff.1 hr).2
  have hpb := inB_iff.1 hp
  obtain ⟨P, hP⟩ := Int.eq_ofNat_of_zero_le hpb.1
  subst hP
  have hlt : P < L.length := by have := hSt.len; omega
  have hP4 : P < 4 := by omega
  have q1 : (P : Int) < 4 := by omega
  have hrl := hSt.row P hlt
  rw [Int.toNat_natCast, List.getD_eq_getElem?_getD, List.getElem?_eq_getElem hlt, Option.getD_some]
  have hx4 : L[P].length ≤ 4 := by omega
  rw [← done_four hlt hx4]
  have hidx := idx_alike st.length k q hP4
  have heql := fun w => eql_row4 (stF q L P 0) (stF q L P 1) (stF q L P 2) (stF q L P 3) q w
  obtain ⟨y0, hy0⟩ : ∃ y, y = stF q L P 0 := ⟨_, rfl⟩
  obtain ⟨y1, hy1⟩ : ∃ y, y = stF q L P 1 := ⟨_, rfl⟩
  obtain ⟨y2, hy2⟩ : ∃ y, y = stF q L P 2 := ⟨_, rfl⟩
  obtain ⟨y3, hy3⟩ : ∃ y, y = stF q L P 3 := ⟨_, rfl⟩
  rw [← hy0, ← hy1, ← hy2, ← hy3] at heql
  rw [← hy0, ← hy1, ← hy2, ← hy3]
  obtain ⟨R, hR⟩ : ∃ R, R = (y0 == q && (y1 == q && (y2 == q && (y3 == q && true)))) := ⟨_, rfl⟩
  rw [← hR]
  rw [← hR] at heql
  have HY0 := Lib.hid hy0; have HY1 := Lib.hid hy1; have HY2 := Lib.hid hy2; have HY3 := Lib.hid hy3
  have HP := Lib.hid hp
  have hz := (Bool.and_eq_true_iff.1 hr).1
  rw [Bool.and_eq_true] at hz
  have HZ := Lib.hid hz.1; have HS := Lib.hid hz.2
  clear hrl hSt hTS hr hz hp hy0 hy1 hy2 hy3 hR
  have z0 := zeroRing
  have z1 := zeroStand
  go_enter Try.func44, Try.ntmps44
  go_wp2_with fail
  refine (ringAndStand_in q f k A1 A2 A3 c1 c2 c3 st sf L _ (h1.go (below1 _ _)) (h2.go (below1 _ _)) ((h3.below (below1 _ _)).more (below1 _ _).size) hc HZ.out).mono ?_
  rintro e w2 ⟨V, rfl, hV, hx⟩
  rw [HS.out] at hV ⊢
  obtain rfl := hV rfl
  clear hV
  have hbx := box_on (Below.refl _ _) hx (by simp)
  clear hx
  go_wp2_with (first | (refine wpList_store_row rfl 62 (.tmp 8) _ rfl w2.heap.size rfl _ _ (ringC q f k A1 st.length c1 (safeB sf)) rfl ((Below.heap_alloc _ _ _ (by simp)).trans (heap_alloc_at _ _ _ rfl)) ?_ ?_ ring_one ?_; (simp only [ring_size]); (rw [ring_size]; exact sizeRing); intro w3 hC3 hg3 hs3; have N3 := (hg3.block (w2.heap.size + 1) (by simp) (by simp)).trans (heap_alloc_at _ _ _ (by simp))) | (refine wpList_store_row rfl 68 (.tmp 9) _ rfl (w2.heap.size + 1) rfl _ _ (standC (stF q L)) rfl N3 ?_ ?_ (stand_one _) ?_; (simp only [stand_size]); (rw [stand_size]; exact sizeStand); intro w4 hC4 hg4 hs4) | (go_at_call 59; refine (hasPlayer_any _ _ _ _ _ _ _ _ _ (show RA w4 w2.heap.size 62 q f k A1 st.length c1 (safeB sf) from (hg4.block _ (heap_lt hC3) (by simp)).trans hC3) _ hl).mono ?_; rintro e w' ⟨rfl, rfl⟩; rw [HP.out]))
  have hsz2 : w.heap.size + 1 ≤ w2.heap.size := by have := hbx.size; simpa using this
  have hbx4 : Below (w.heap.size + 1) (w.alloc (.cells #[.int .i64 q, .int .i64 f, .int .i64 k, .slice A1 st.length c1, .slice A2 sf.length c2] 27)) w4 := (((hbx.alloc hsz2 _).alloc (by simp; omega) _).grown hg3 (by simp; omega) (fun k h => by injection h with h; omega)).grown hg4 (by have := hg3.size; simp at this; omega) (fun k h => by injection h with h; omega)
  have hb4 : Below w.heap.size w w4 := (below1 w _).trans (hbx4.mono (by omega))
  have K4 : RA w4 w2.heap.size 62 q f k A1 st.length c1 (safeB sf) := (hg4.block _ (heap_lt hC3) (by simp)).trans hC3
  have E4 : DA w4 (w2.heap.size + 1) 68 (stF q L) := hC4
  have d0 : w4.cell? ⟨w2.heap.size + 1, P * 4, none⟩ = some (.int .i64 y0) := by rw [HY0.out]; exact E4.at_ hP4 (show 0 < 4 by omega)
  have d1 : w4.cell? ⟨w2.heap.size + 1, P * 4 + 1, none⟩ = some (.int .i64 y1) := by rw [HY1.out]; exact E4.at_ hP4 (show 1 < 4 by omega)
  have d2 : w4.cell? ⟨w2.heap.size + 1, P * 4 + 2, none⟩ = some (.int .i64 y2) := by rw [HY2.out]; exact E4.at_ hP4 (show 2 < 4 by omega)
  have d3 : w4.cell? ⟨w2.heap.size + 1, P * 4 + 3, none⟩ = some (.int .i64 y3) := by rw [HY3.out]; exact E4.at_ hP4 (show 3 < 4 by omega)
  have e0 := K4.c0
  have KD := K4.drew
  have hbd := hb4.drew
  go_region_held3 (fun w' => Below w.heap.size w w' ∧ w'.cell? ⟨w2.heap.size + 1, P * 4, none⟩ = some (.int .i64 y0) ∧ w'.cell? ⟨w2.heap.size + 1, P * 4 + 1, none⟩ = some (.int .i64 y1) ∧ w'.cell? ⟨w2.heap.size + 1, P * 4 + 2, none⟩ = some (.int .i64 y2) ∧ w'.cell? ⟨w2.heap.size + 1, P * 4 + 3, none⟩ = some (.int .i64 y3) ∧ w'.cell? ⟨w2.heap.size, 0, none⟩ = some (.int .i64 q)) (go_keep)
    (first | (go_at_call 74; refine (alike_any w2.heap.size q f k A1 st.length c1 (safeB sf) _ KD q hl (by omega) k4).mono ?_; rintro e w5 ⟨rfl, hx⟩; have k0 := keepB hbd (Nat.le_refl _) hx; have k1' := keepcell hx (show w4.drew.cell? _ = _ from d0); have k2 := keepcell hx (show w4.drew.cell? _ = _ from d1); have k3 := keepcell hx (show w4.drew.cell? _ = _ from d2); have k4' := keepcell hx (show w4.drew.cell? _ = _ from d3); have k5 := keepcell hx (show w4.drew.cell? _ = _ from e0)))
  go_wp2
  go_ret2
  exact ⟨rfl, k0⟩

theorem isDonePlayer_both (q f k : Int) (st sf : List Int) (L : List (List Int)) (p : Int) : ∃ (y ok : Bool),
    (∀ (A1 A2 : Option Addr) (c1 c2 : Nat) (A3 : Option Addr) (c3 : Nat) (w : World), RI w w.heap.size A1 st → RI w w.heap.size A2 sf → st.length ≤ c1 → RG w w.heap.size A3 L → Calls Try.prog 43 #[.agg #[.int .i64 q, .int .i64 f, .int .i64 k, .slice A1 st.length c1, .slice A2 sf.length c2], .slice A3 L.length c3, .int .i64 p] w fun e w' => e = .returned (.tuple #[.bool y, .bool ok]) ∧ Below w.heap.size w w') ∧
    (∀ (A1 A2 : Option Addr) (c1 c2 : Nat) (A3 : Option Addr) (c3 : Nat) (w : World), RI w w.heap.size A1 st → RI w w.heap.size A2 sf → st.length ≤ c1 → RG w w.heap.size A3 L → Calls Try.prog 44 #[.agg #[.int .i64 q, .int .i64 f, .int .i64 k, .slice A1 st.length c1, .slice A2 sf.length c2], .slice A3 L.length c3, .int .i64 p] w fun e w' => e = .returned (.tuple #[.bool y, .bool ok]) ∧ Below w.heap.size w w') := by
  cases h : plB q f k st sf L p
  · exact ⟨false, false, fun A1 A2 c1 c2 A3 c3 w a b c d => specDone_any q f k A1 A2 A3 c1 c2 c3 st sf L p w a b d c _ _ h (fun _ => rfl) (fun e => by cases e), fun A1 A2 c1 c2 A3 c3 w a b c d => implDone_no q f k A1 A2 A3 c1 c2 c3 st sf L p w a b d c h⟩
  · exact ⟨_, true, fun A1 A2 c1 c2 A3 c3 w a b c d => specDone_any q f k A1 A2 A3 c1 c2 c3 st sf L p w a b d c _ _ h (fun e => by cases e) (fun _ => rfl), fun A1 A2 c1 c2 A3 c3 w a b c d => implDone_yes q f k A1 A2 A3 c1 c2 c3 st sf L p w a b d c h⟩

end Go.Proofs.Ytpecocmgclancaa

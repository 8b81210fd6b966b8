/-
  Tracks: FewestMovesHome on both sides.
-/
import Derived.Test.YtpecocmgclancaaC7o
namespace Go.Proofs.Ytpecocmgclancaa
open Go.RowKit

theorem row4_0 (y0 y1 y2 y3 : Int) (w : World) : (Instr.index 66 (.agg #[.int .i64 y0, .int .i64 y1, .int .i64 y2, .int .i64 y3]) (.int .i64 0)).run Try.prog w = .ok (.int .i64 y0) w := by kernel_rfl
theorem row4_1 (y0 y1 y2 y3 : Int) (w : World) : (Instr.index 66 (.agg #[.int .i64 y0, .int .i64 y1, .int .i64 y2, .int .i64 y3]) (.int .i64 1)).run Try.prog w = .ok (.int .i64 y1) w := by kernel_rfl
theorem row4_2 (y0 y1 y2 y3 : Int) (w : World) : (Instr.index 66 (.agg #[.int .i64 y0, .int .i64 y1, .int .i64 y2, .int .i64 y3]) (.int .i64 2)).run Try.prog w = .ok (.int .i64 y2) w := by kernel_rfl
theorem row4_3 (y0 y1 y2 y3 : Int) (w : World) : (Instr.index 66 (.agg #[.int .i64 y0, .int .i64 y1, .int .i64 y2, .int .i64 y3]) (.int .i64 3)).run Try.prog w = .ok (.int .i64 y3) w := by kernel_rfl
/-- The moves that a token with x steps needs to its end. -/
def needs (q f x : Int) : Int := if x < 0 then 1 + (q + f - 1) / f else (q - x + f - 1) / f
def needsUp (q f : Int) (r : List Int) : Int := (r.map (needs q f)).sum
theorem needsUp_snoc (q f : Int) (r : List Int) {j : Nat} (h : j < r.length) : needsUp q f (r.take (j + 1)) = needsUp q f (r.take j) + needs q f r[j] := by
  unfold needsUp
  rw [List.take_succ_eq_append_getElem h, List.map_append, List.sum_append]
  simp only [List.map_cons, List.map_nil, List.sum_cons, List.sum_nil]
  omega
theorem needs_bd {q f x : Int} (h4 : 0 ≤ q) (h6 : q ≤ 60) (hf : 1 ≤ f) (hf8 : f ≤ 8) (_ : -1 ≤ x) (h1 : x ≤ q) : 0 ≤ needs q f x ∧ needs q f x ≤ 100 := by
  have a1 := Int.ediv_nonneg (a := q + f - 1) (b := f) (by omega) (by omega)
  have a2 : (q + f - 1) / f ≤ q + f - 1 := Int.ediv_le_self _ (by omega)
  unfold needs
  by_cases hx : x < 0
  · rw [if_pos hx]; omega
  · rw [if_neg hx]
    have b1 := Int.ediv_nonneg (a := q - x + f - 1) (b := f) (by omega) (by omega)
    have b2 : (q - x + f - 1) / f ≤ q - x + f - 1 := Int.ediv_le_self _ (by omega)
    omega
theorem needsUp_bd {q f : Int} (h4 : 0 ≤ q) (h6 : q ≤ 60) (hf : 1 ≤ f) (hf8 : f ≤ 8) : ∀ (r : List Int), (∀ x ∈ r, -1 ≤ x ∧ x ≤ q) → 0 ≤ needsUp q f r ∧ needsUp q f r ≤ r.length * 100
  | [], _ => by simp [needsUp]
  | x :: t, h => by
    have h1 := needsUp_bd h4 h6 hf hf8 t (fun y hy => h y (by simp [hy]))
    have h2 := h x (by simp)
    have h3 := needs_bd h4 h6 hf hf8 h2.1 h2.2
    have e : needsUp q f (x :: t) = needs q f x + needsUp q f t := rfl
    have e2 : ((x :: t).length : Int) * 100 = 100 + t.length * 100 := by simp [Int.add_mul]; omega
    rw [e, e2]
    omega
theorem needs_done {q f : Int} (h4 : 0 ≤ q) (hf : 1 ≤ f) : needs q f q = 0 := by
  unfold needs
  rw [if_neg (by omega), show q - q + f - 1 = f - 1 by omega]
  exact Int.ediv_eq_zero_of_lt (by omega) (by omega)

set_option maxHeartbeats 1000000 in
theorem specFewest_any (q f k : Int) (A1 A2 A3 : Option Addr) (c1 c2 c3 : Nat) (st sf : List Int) (L : List (List Int)) (p : Int) (w : World) (h1 : RI w w.heap.size A1 st) (h2 : RI w w.heap.size A2 sf) (h3 : RG w w.heap.size A3 L) (hc : st.length ≤ c1) (r : Bool) (R : Int) (hr : plB q f k st sf L p = r) (hR0 : r = false → R = 0) (hR1 : r = true → R = needsUp q f (L.getD p.toNat [])) :
    Calls Try.prog 49 #[.agg #[.int .i64 q, .int .i64 f, .int .i64 k, .slice A1 st.length c1, .slice A2 sf.length c2], .slice A3 L.length c3, .int .i64 p] w fun e w' => e = .returned (.tuple #[.int .i64 R, .bool r]) ∧ Below w.heap.size w w' := by
  have hl := h1.1
  have hl2 := h2.1
  have hl3 := h3.1
  have HR := Lib.hid hr
  clear hr
  go_enter Try.func49, Try.ntmps49
  go_wp2_with fail
  refine (trPlayer_any q f k A1 A2 A3 c1 c2 c3 st sf L p _ (h1.go (below1 _ _)) (h2.go (below1 _ _)) ((h3.below (below1 _ _)).more (below1 _ _).size) hc).mono ?_
  rintro e w2 ⟨rfl, hx⟩
  rw [HR.out]
  have hb := box_on (Below.refl _ _) hx (by simp)
  have hbw := (below1 w (.cells #[.int .i64 q, .int .i64 f, .int .i64 k, .slice A1 st.length c1, .slice A2 sf.length c2] 27)).trans (hb.mono (by omega))
  have qq := boxcells hb
  cases r
  · obtain rfl := hR0 rfl
    go_wp2
    go_ret2
    exact ⟨rfl, hbw⟩
  have hRR := hR1 rfl
  have hTS := state_is (Bool.and_eq_true_iff.1 HR.out).1
  obtain ⟨q4, q60, f1, f8, k1, k4, n2, n4, st0, sf0, sfl⟩ := hTS.1
  have hSt := hTS.2
  have hpb := inB_iff.1 (Bool.and_eq_true_iff.1 HR.out).2
  obtain ⟨P, hP⟩ := Int.eq_ofNat_of_zero_le hpb.1
  subst hP
  have hlt : P < L.length := by have := hSt.len; omega
  obtain ⟨b, off, A', c', rfl, hbb, hc0, hrow⟩ := h3.at_ (Below.refl _ w) hlt
  have hrv := hSt.val P hlt
  have hrl := hSt.row P hlt
  have hcc := (bcell hbw hbb).trans hc0
  clear hc0
  rw [Int.toNat_natCast, List.getD_eq_getElem?_getD, List.getElem?_eq_getElem hlt, Option.getD_some] at hRR
  obtain ⟨xs, hxs⟩ : ∃ xs, xs = L[P] := ⟨_, rfl⟩
  rw [← hxs] at hcc hrow hrl hRR
  have hrv' : ∀ t (h : t < xs.length), -1 ≤ xs[t] ∧ xs[t] ≤ q := fun t h => by subst hxs; exact hrv t h
  have hxl : xs.length ≤ 4 := by omega
  have hbd : ∀ j, 0 ≤ needsUp q f (xs.take j) ∧ needsUp q f (xs.take j) ≤ 1000 := fun j => by
    have h1 := needsUp_bd (by omega) q60 f1 f8 (xs.take j) (fun y hy => by
      obtain ⟨i, hi, rfl⟩ := List.mem_iff_getElem.1 (List.mem_of_mem_take hy)
      exact hrv' i hi)
    have h2 : ((xs.take j).length : Int) ≤ 4 := by simp; omega
    omega
  have HBD := Lib.hid hbd; have HRR := Lib.hid hRR
  clear hxs hrv hrl hbd hRR hSt hTS HR
  go_wp2_with fail
  go_loop [8, 21] (fun v i => ∃ t : Nat, t ≤ xs.length ∧ i = .int .i64 t ∧ v = .int .i64 (needsUp q f (xs.take t))) (fun _ i => xs.length - (intOf i).toNat)
  case atStart => exact ⟨0, Nat.zero_le _, rfl, rfl⟩
  case round =>
    obtain ⟨t, ht, rfl, rfl⟩ := hrel
    have h1' := HBD.out t
    by_cases htl : t < xs.length
    · obtain ⟨b2, off2, rfl, hb2, h5⟩ := hrow.at_ hbw htl
      have hx := hrv' t htl
      have h2 := HBD.out (t + 1)
      have hst := needsUp_snoc q f xs htl
      have hnb := needs_bd (by omega) q60 f1 f8 hx.1 hx.2
      have hnd : needs q f xs[t] = needs q f xs[t] := rfl
      obtain ⟨x, hxx⟩ : ∃ x, x = xs[t] := ⟨_, rfl⟩
      rw [← hxx] at h5 hx hst hnb
      obtain ⟨s0, hs0⟩ : ∃ s0, s0 = needsUp q f (xs.take t) := ⟨_, rfl⟩
      obtain ⟨s1, hs1⟩ : ∃ s1, s1 = needsUp q f (xs.take (t + 1)) := ⟨_, rfl⟩
      rw [← hs0] at h1' hst ⊢
      rw [← hs1] at h2 hst
      have HS1 := Lib.hid hs1
      by_cases hneg : x < 0
      · have hne : needs q f x = 1 + (q + f - 1) / f := if_pos hneg
        obtain ⟨d, hd⟩ : ∃ d, d = (q + f - 1) / f := ⟨_, rfl⟩
        have hdq : (q + f - 1).tdiv f = d := by rw [hd]; exact Int.tdiv_eq_ediv_of_nonneg (by omega)
        rw [← hd] at hne
        rw [hne] at hnb
        rw [hne] at hst
        have HST := Lib.hid hst
        clear hxx hs0 hs1 hst hd hne hnd
        have i0 : IntKind.i64.wrap (s0 + 1) = s0 + 1 := IntWalk.i64_in _ (by omega)
        have i1 : IntKind.i64.wrap (q - 0) = q - 0 := IntWalk.i64_in _ (by omega)
        have i1' : IntKind.i64.wrap q = q := IntWalk.i64_in _ (by omega)
        have i2 : IntKind.i64.wrap (q + f) = q + f := IntWalk.i64_in _ (by omega)
        have i3 : IntKind.i64.wrap (q + f - 1) = q + f - 1 := IntWalk.i64_in _ (by omega)
        have i4 : IntKind.i64.wrap d = d := IntWalk.i64_in _ (by omega)
        have i5 : IntKind.i64.wrap (s0 + 1 + d) = s0 + 1 + d := IntWalk.i64_in _ (by omega)
        have i6 : ¬ f = 0 := by omega
        go_wp2_with fail
        go_round
        case rel => exact ⟨t + 1, by omega, by go_num, by rw [← HS1.out, HST.out, Int.add_assoc]⟩
        case measure => simp [intOf]; omega
      · have hne : needs q f x = (q - x + f - 1) / f := if_neg hneg
        obtain ⟨d, hd⟩ : ∃ d, d = (q - x + f - 1) / f := ⟨_, rfl⟩
        have hdq : (q - x + f - 1).tdiv f = d := by rw [hd]; exact Int.tdiv_eq_ediv_of_nonneg (by omega)
        rw [← hd] at hne
        rw [hne] at hnb
        rw [hne] at hst
        have HST := Lib.hid hst
        clear hxx hs0 hs1 hst hd hne hnd
        have i1 : IntKind.i64.wrap (q - x) = q - x := IntWalk.i64_in _ (by omega)
        have i2 : IntKind.i64.wrap (q - x + f) = q - x + f := IntWalk.i64_in _ (by omega)
        have i3 : IntKind.i64.wrap (q - x + f - 1) = q - x + f - 1 := IntWalk.i64_in _ (by omega)
        have i4 : IntKind.i64.wrap d = d := IntWalk.i64_in _ (by omega)
        have i5 : IntKind.i64.wrap (s0 + d) = s0 + d := IntWalk.i64_in _ (by omega)
        have i6 : ¬ f = 0 := by omega
        go_wp2_with fail
        go_round
        case rel => exact ⟨t + 1, by omega, by go_num, by rw [← HS1.out, HST.out]⟩
        case measure => simp [intOf]; omega
    · obtain rfl : t = xs.length := by omega
      rw [List.take_of_length_le (Nat.le_refl _), ← HRR.out]
      go_wp2
      go_ret2
      exact ⟨rfl, hbw⟩


set_option maxRecDepth 100000 in
set_option maxHeartbeats 2000000 in
theorem implFewest_no (q f k : Int) (A1 A2 A3 : Option Addr) (c1 c2 c3 : Nat) (st sf : List Int) (L : List (List Int)) (p : Int) (w : World) (h1 : RI w w.heap.size A1 st) (h2 : RI w w.heap.size A2 sf) (h3 : RG w w.heap.size A3 L) (hc : st.length ≤ c1) (hr : plB q f k st sf L p = false) :
    Calls Try.prog 50 #[.agg #[.int .i64 q, .int .i64 f, .int .i64 k, .slice A1 st.length c1, .slice A2 sf.length c2], .slice A3 L.length c3, .int .i64 p] w fun e w' => e = .returned (.tuple #[.int .i64 0, .bool false]) ∧ Below w.heap.size w w' := by
  have hl := h1.1
  have hl2 := h2.1
  have hl3 := h3.1
  cases hz : (trkOk q f k st sf && stateB q k st sf L)
  · have HF := Lib.hid hz
    clear hz hr
    have z0 := zeroRing
    have z1 := zeroStand
    go_enter Try.func50, Try.ntmps50
    go_wp2_with fail
    refine (ringAndStand_fail q f k A1 A2 A3 c1 c2 c3 st sf L _ (h1.go (below1 _ _)) (h2.go (below1 _ _)) ((h3.below (below1 _ _)).more (below1 _ _).size) hc HF.out).mono ?_
    rintro e w2 ⟨RV, V, rfl, hRs, hR1, hx⟩
    have hbx := box_on (Below.refl _ _) hx (by simp)
    clear hx
    go_wp2_with (first | (refine wpList_store_row rfl 62 (.tmp 8) _ rfl w2.heap.size rfl _ _ (RV) rfl ((Below.heap_alloc _ _ _ (by simp)).trans (heap_alloc_at _ _ _ rfl)) ?_ ?_ hR1 ?_; (rw [hRs, ring_size]); (rw [hRs]; exact sizeRing); intro w3 hC3 hg3 hs3; have N3 := (hg3.block (w2.heap.size + 1) (by simp) (by simp)).trans (heap_alloc_at _ _ _ (by simp))) | (refine wpList_store_row rfl 68 (.tmp 9) _ rfl (w2.heap.size + 1) rfl _ _ (standC (V)) rfl N3 ?_ ?_ (stand_one _) ?_; (simp only [stand_size]); (rw [stand_size]; exact sizeStand); intro w4 hC4 hg4 hs4))
    have hsz2 : w.heap.size + 1 ≤ w2.heap.size := by have := hbx.size; simpa using this
    have hbx4 : Below (w.heap.size + 1) (w.alloc (.cells #[.int .i64 q, .int .i64 f, .int .i64 k, .slice A1 st.length c1, .slice A2 sf.length c2] 27)) w4 := (((hbx.alloc hsz2 _).alloc (by simp; omega) _).grown hg3 (by simp; omega) (fun k h => by injection h with h; omega)).grown hg4 (by have := hg3.size; simp at this; omega) (fun k h => by injection h with h; omega)
    have hb4 : Below w.heap.size w w4 := (below1 w _).trans (hbx4.mono (by omega))
    go_ret2
    exact ⟨rfl, hb4⟩
  have hp : inB p 0 ((st.length : Int) - 1) = false := by rw [plB, hz, Bool.true_and] at hr; exact hr
  have HP := Lib.hid hp
  rw [Bool.and_eq_true] at hz
  have HZ := Lib.hid hz.1; have HS := Lib.hid hz.2
  clear hz hr hp
  have z0 := zeroRing
  have z1 := zeroStand
  go_enter Try.func50, Try.ntmps50
  go_wp2_with fail
  refine (ringAndStand_in q f k A1 A2 A3 c1 c2 c3 st sf L _ (h1.go (below1 _ _)) (h2.go (below1 _ _)) ((h3.below (below1 _ _)).more (below1 _ _).size) hc HZ.out).mono ?_
  rintro e w2 ⟨V, rfl, hV, hx⟩
  rw [HS.out] at hV ⊢
  obtain rfl := hV rfl
  clear hV
  have hbx := box_on (Below.refl _ _) hx (by simp)
  clear hx
  go_wp2_with (first | (refine wpList_store_row rfl 62 (.tmp 8) _ rfl w2.heap.size rfl _ _ (ringC q f k A1 st.length c1 (safeB sf)) rfl ((Below.heap_alloc _ _ _ (by simp)).trans (heap_alloc_at _ _ _ rfl)) ?_ ?_ ring_one ?_; (simp only [ring_size]); (rw [ring_size]; exact sizeRing); intro w3 hC3 hg3 hs3; have N3 := (hg3.block (w2.heap.size + 1) (by simp) (by simp)).trans (heap_alloc_at _ _ _ (by simp))) | (refine wpList_store_row rfl 68 (.tmp 9) _ rfl (w2.heap.size + 1) rfl _ _ (standC (stF q L)) rfl N3 ?_ ?_ (stand_one _) ?_; (simp only [stand_size]); (rw [stand_size]; exact sizeStand); intro w4 hC4 hg4 hs4) | (go_at_call 59; refine (hasPlayer_any _ _ _ _ _ _ _ _ _ (show RA w4 w2.heap.size 62 q f k A1 st.length c1 (safeB sf) from (hg4.block _ (heap_lt hC3) (by simp)).trans hC3) _ hl).mono ?_; rintro e w' ⟨rfl, rfl⟩; rw [HP.out]))
  have hsz2 : w.heap.size + 1 ≤ w2.heap.size := by have := hbx.size; simpa using this
  have hbx4 : Below (w.heap.size + 1) (w.alloc (.cells #[.int .i64 q, .int .i64 f, .int .i64 k, .slice A1 st.length c1, .slice A2 sf.length c2] 27)) w4 := (((hbx.alloc hsz2 _).alloc (by simp; omega) _).grown hg3 (by simp; omega) (fun k h => by injection h with h; omega)).grown hg4 (by have := hg3.size; simp at this; omega) (fun k h => by injection h with h; omega)
  have hb4 : Below w.heap.size w w4 := (below1 w _).trans (hbx4.mono (by omega))
  have K4 : RA w4 w2.heap.size 62 q f k A1 st.length c1 (safeB sf) := (hg4.block _ (heap_lt hC3) (by simp)).trans hC3
  have E4 : DA w4 (w2.heap.size + 1) 68 (stF q L) := hC4
  go_ret2
  exact ⟨rfl, hb4⟩

set_option maxRecDepth 100000 in
set_option maxHeartbeats 2000000 in
theorem implFewest_yes (q f k : Int) (A1 A2 A3 : Option Addr) (c1 c2 c3 : Nat) (st sf : List Int) (L : List (List Int)) (p : Int) (w : World) (h1 : RI w w.heap.size A1 st) (h2 : RI w w.heap.size A2 sf) (h3 : RG w w.heap.size A3 L) (hc : st.length ≤ c1) (hr : plB q f k st sf L p = true) :
    Calls Try.prog 50 #[.agg #[.int .i64 q, .int .i64 f, .int .i64 k, .slice A1 st.length c1, .slice A2 sf.length c2], .slice A3 L.length c3, .int .i64 p] w fun e w' => e = .returned (.tuple #[.int .i64 (needsUp q f (L.getD p.toNat [])), .bool true]) ∧ Below w.heap.size w w' := by
  have hl := h1.1
  have hl2 := h2.1
  have hl3 := h3.1
  have hTS := state_is (Bool.and_eq_true_iff.1 hr).1
  obtain ⟨q4, q60, f1, f8, k1, k4, n2, n4, st0, sf0, sfl⟩ := hTS.1
  have hSt := hTS.2
  have hp := (Bool.and_eq_true_iff.1 hr).2
  have hpb := inB_iff.1 hp
  obtain ⟨P, hP⟩ := Int.eq_ofNat_of_zero_le hpb.1
  subst hP
  have hlt : P < L.length := by have := hSt.len; omega
  have hP4 : P < 4 := by omega
  have q1 : (P : Int) < 4 := by omega
  have hrv := hSt.val P hlt
  have hrl := hSt.row P hlt
  rw [Int.toNat_natCast, List.getD_eq_getElem?_getD, List.getElem?_eq_getElem hlt, Option.getD_some]
  obtain ⟨xs, hxs⟩ : ∃ xs, xs = L[P] := ⟨_, rfl⟩
  have hfi : ∀ t (h : t < xs.length), stF q L P t = xs[t] := fun t h => by subst hxs; exact stF_at hlt h
  have hfo : ∀ t, xs.length ≤ t → stF q L P t = q := fun t h => by subst hxs; simp [stF, hlt, show ¬ t < L[P].length by omega]
  have hfb : ∀ t, -1 ≤ stF q L P t ∧ stF q L P t ≤ q := fun t => stF_bd hSt (by omega) P t
  rw [← hxs] at hrl ⊢
  have hrv' : ∀ t (h : t < xs.length), -1 ≤ xs[t] ∧ xs[t] ≤ q := fun t h => by subst hxs; exact hrv t h
  have hxl : xs.length ≤ 4 := by omega
  have hbd : ∀ j, 0 ≤ needsUp q f (xs.take j) ∧ needsUp q f (xs.take j) ≤ 1000 := fun j => by
    have h1 := needsUp_bd (by omega) q60 f1 f8 (xs.take j) (fun y hy => by
      obtain ⟨i, hi, rfl⟩ := List.mem_iff_getElem.1 (List.mem_of_mem_take hy)
      exact hrv' i hi)
    have h2 : ((xs.take j).length : Int) ≤ 4 := by simp; omega
    omega
  obtain ⟨y0, hy0⟩ : ∃ y, y = stF q L P 0 := ⟨_, rfl⟩
  obtain ⟨y1, hy1⟩ : ∃ y, y = stF q L P 1 := ⟨_, rfl⟩
  obtain ⟨y2, hy2⟩ : ∃ y, y = stF q L P 2 := ⟨_, rfl⟩
  obtain ⟨y3, hy3⟩ : ∃ y, y = stF q L P 3 := ⟨_, rfl⟩
  have HY0 := Lib.hid hy0; have HY1 := Lib.hid hy1; have HY2 := Lib.hid hy2; have HY3 := Lib.hid hy3
  have HBD := Lib.hid hbd; have HFI := Lib.hid hfi; have HFO := Lib.hid hfo; have HFB := Lib.hid hfb; have HP := Lib.hid hp
  have hz := (Bool.and_eq_true_iff.1 hr).1
  rw [Bool.and_eq_true] at hz
  have HZ := Lib.hid hz.1; have HS := Lib.hid hz.2
  clear hxs hrv hrl hbd hSt hTS hr hz hfi hfo hfb hrv' hp hy0 hy1 hy2 hy3
  have z0 := zeroRing
  have z1 := zeroStand
  go_enter Try.func50, Try.ntmps50
  go_wp2_with fail
  refine (ringAndStand_in q f k A1 A2 A3 c1 c2 c3 st sf L _ (h1.go (below1 _ _)) (h2.go (below1 _ _)) ((h3.below (below1 _ _)).more (below1 _ _).size) hc HZ.out).mono ?_
  rintro e w2 ⟨V, rfl, hV, hx⟩
  rw [HS.out] at hV ⊢
  obtain rfl := hV rfl
  clear hV
  have hbx := box_on (Below.refl _ _) hx (by simp)
  clear hx
  go_wp2_with (first | (refine wpList_store_row rfl 62 (.tmp 8) _ rfl w2.heap.size rfl _ _ (ringC q f k A1 st.length c1 (safeB sf)) rfl ((Below.heap_alloc _ _ _ (by simp)).trans (heap_alloc_at _ _ _ rfl)) ?_ ?_ ring_one ?_; (simp only [ring_size]); (rw [ring_size]; exact sizeRing); intro w3 hC3 hg3 hs3; have N3 := (hg3.block (w2.heap.size + 1) (by simp) (by simp)).trans (heap_alloc_at _ _ _ (by simp))) | (refine wpList_store_row rfl 68 (.tmp 9) _ rfl (w2.heap.size + 1) rfl _ _ (standC (stF q L)) rfl N3 ?_ ?_ (stand_one _) ?_; (simp only [stand_size]); (rw [stand_size]; exact sizeStand); intro w4 hC4 hg4 hs4) | (go_at_call 59; refine (hasPlayer_any _ _ _ _ _ _ _ _ _ (show RA w4 w2.heap.size 62 q f k A1 st.length c1 (safeB sf) from (hg4.block _ (heap_lt hC3) (by simp)).trans hC3) _ hl).mono ?_; rintro e w' ⟨rfl, rfl⟩; rw [HP.out]; have K4p : RA w4 w2.heap.size 62 q f k A1 st.length c1 (safeB sf) := (hg4.block _ (heap_lt hC3) (by simp)).trans hC3; have e0 := K4p.c0; have e1 := K4p.c1; have E4' : DA w4 (w2.heap.size + 1) 68 (stF q L) := hC4; have d0 : w4.cell? ⟨w2.heap.size + 1, P * 4, none⟩ = some (.int .i64 y0) := (by rw [HY0.out]; exact E4'.at_ hP4 (show 0 < 4 by omega)); have d1 := E4'.at_ hP4 (show 1 < 4 by omega); have d2 := E4'.at_ hP4 (show 2 < 4 by omega); have d3 := E4'.at_ hP4 (show 3 < 4 by omega); rw [← HY1.out] at d1; rw [← HY2.out] at d2; rw [← HY3.out] at d3; clear E4' K4p))
  have hsz2 : w.heap.size + 1 ≤ w2.heap.size := by have := hbx.size; simpa using this
  have hbx4 : Below (w.heap.size + 1) (w.alloc (.cells #[.int .i64 q, .int .i64 f, .int .i64 k, .slice A1 st.length c1, .slice A2 sf.length c2] 27)) w4 := (((hbx.alloc hsz2 _).alloc (by simp; omega) _).grown hg3 (by simp; omega) (fun k h => by injection h with h; omega)).grown hg4 (by have := hg3.size; simp at this; omega) (fun k h => by injection h with h; omega)
  have hb4 : Below w.heap.size w w4 := (below1 w _).trans (hbx4.mono (by omega))
  have K4 : RA w4 w2.heap.size 62 q f k A1 st.length c1 (safeB sf) := (hg4.block _ (heap_lt hC3) (by simp)).trans hC3
  have E4 : DA w4 (w2.heap.size + 1) 68 (stF q L) := hC4
  go_loop [11, 31] (fun v i => ∃ t : Nat, t ≤ 4 ∧ i = .int .i64 t ∧ v = .int .i64 (needsUp q f (xs.take t))) (fun _ i => 4 - (intOf i).toNat)
  case atStart => exact ⟨0, by omega, rfl, rfl⟩
  case round =>
    obtain ⟨t, ht, rfl, rfl⟩ := hrel
    by_cases htl : t < 4
    · rcases (show t = 0 ∨ t = 1 ∨ t = 2 ∨ t = 3 by omega) with rfl | rfl | rfl | rfl
      · have ht0 : (0 : Nat) = 0 := rfl
        have hst : needsUp q f (xs.take (0 + 1)) = needsUp q f (xs.take 0) + needs q f y0 := by
          rw [HY0.out]
          by_cases h : 0 < xs.length
          · rw [needsUp_snoc q f xs h, HFI.out 0 h]
          · rw [List.take_of_length_le (by omega), List.take_of_length_le (by omega), HFO.out 0 (by omega), needs_done (by omega) f1, Int.add_zero]
        have hix := fun w => row4_0 y0 y1 y2 y3 w
        have hx := HFB.out 0
        rw [← HY0.out] at hx
        have hnb := needs_bd (by omega) q60 f1 f8 hx.1 hx.2
        have h1' := HBD.out 0
        have h2 := HBD.out (0 + 1)
        obtain ⟨s0, hs0⟩ : ∃ s0, s0 = needsUp q f (xs.take 0) := ⟨_, rfl⟩
        obtain ⟨s1, hs1⟩ : ∃ s1, s1 = needsUp q f (xs.take (0 + 1)) := ⟨_, rfl⟩
        rw [← hs0] at h1' hst ⊢
        rw [← hs1] at h2 hst
        have HS1 := Lib.hid hs1
        by_cases hneg : y0 = -1
        · have hne : needs q f y0 = 1 + (q + f - 1) / f := if_pos (by omega)
          obtain ⟨d, hd⟩ : ∃ d, d = (q + f - 1) / f := ⟨_, rfl⟩
          have hdq : (q + f - 1).tdiv f = d := by rw [hd]; exact Int.tdiv_eq_ediv_of_nonneg (by omega)
          rw [← hd] at hne
          rw [hne] at hnb
          rw [hne] at hst
          have HST := Lib.hid hst
          have hbq : (y0 == -1) = true := by simpa using hneg
          clear hs0 hs1 hst hd hne hneg
          have i0 : IntKind.i64.wrap (s0 + 1) = s0 + 1 := IntWalk.i64_in _ (by omega)
          have i1' : IntKind.i64.wrap q = q := IntWalk.i64_in _ (by omega)
          have i2 : IntKind.i64.wrap (q + f) = q + f := IntWalk.i64_in _ (by omega)
          have i3 : IntKind.i64.wrap (q + f - 1) = q + f - 1 := IntWalk.i64_in _ (by omega)
          have i4 : IntKind.i64.wrap d = d := IntWalk.i64_in _ (by omega)
          have i5 : IntKind.i64.wrap (s0 + 1 + d) = s0 + 1 + d := IntWalk.i64_in _ (by omega)
          have i6 : ¬ f = 0 := by omega
          go_wp2_with fail
          go_round
          case rel => exact ⟨0 + 1, by omega, by go_num, by rw [← HS1.out, HST.out, Int.add_assoc]⟩
          case measure => simp [intOf]
        · have hne : needs q f y0 = (q - y0 + f - 1) / f := if_neg (by omega)
          obtain ⟨d, hd⟩ : ∃ d, d = (q - y0 + f - 1) / f := ⟨_, rfl⟩
          have hdq : (q - y0 + f - 1).tdiv f = d := by rw [hd]; exact Int.tdiv_eq_ediv_of_nonneg (by omega)
          rw [← hd] at hne
          rw [hne] at hnb
          rw [hne] at hst
          have HST := Lib.hid hst
          have hbq : (y0 == -1) = false := by simpa using hneg
          clear hs0 hs1 hst hd hne hneg
          have i1 : IntKind.i64.wrap (q - y0) = q - y0 := IntWalk.i64_in _ (by omega)
          have i2 : IntKind.i64.wrap (q - y0 + f) = q - y0 + f := IntWalk.i64_in _ (by omega)
          have i3 : IntKind.i64.wrap (q - y0 + f - 1) = q - y0 + f - 1 := IntWalk.i64_in _ (by omega)
          have i4 : IntKind.i64.wrap d = d := IntWalk.i64_in _ (by omega)
          have i5 : IntKind.i64.wrap (s0 + d) = s0 + d := IntWalk.i64_in _ (by omega)
          have i6 : ¬ f = 0 := by omega
          go_wp2_with fail
          go_round
          case rel => exact ⟨0 + 1, by omega, by go_num, by rw [← HS1.out, HST.out]⟩
          case measure => simp [intOf]
      · have ht0 : (1 : Nat) = 1 := rfl
        have hst : needsUp q f (xs.take (1 + 1)) = needsUp q f (xs.take 1) + needs q f y1 := by
          rw [HY1.out]
          by_cases h : 1 < xs.length
          · rw [needsUp_snoc q f xs h, HFI.out 1 h]
          · rw [List.take_of_length_le (by omega), List.take_of_length_le (by omega), HFO.out 1 (by omega), needs_done (by omega) f1, Int.add_zero]
        have hix := fun w => row4_1 y0 y1 y2 y3 w
        have hx := HFB.out 1
        rw [← HY1.out] at hx
        have hnb := needs_bd (by omega) q60 f1 f8 hx.1 hx.2
        have h1' := HBD.out 1
        have h2 := HBD.out (1 + 1)
        obtain ⟨s0, hs0⟩ : ∃ s0, s0 = needsUp q f (xs.take 1) := ⟨_, rfl⟩
        obtain ⟨s1, hs1⟩ : ∃ s1, s1 = needsUp q f (xs.take (1 + 1)) := ⟨_, rfl⟩
        rw [← hs0] at h1' hst ⊢
        rw [← hs1] at h2 hst
        have HS1 := Lib.hid hs1
        by_cases hneg : y1 = -1
        · have hne : needs q f y1 = 1 + (q + f - 1) / f := if_pos (by omega)
          obtain ⟨d, hd⟩ : ∃ d, d = (q + f - 1) / f := ⟨_, rfl⟩
          have hdq : (q + f - 1).tdiv f = d := by rw [hd]; exact Int.tdiv_eq_ediv_of_nonneg (by omega)
          rw [← hd] at hne
          rw [hne] at hnb
          rw [hne] at hst
          have HST := Lib.hid hst
          have hbq : (y1 == -1) = true := by simpa using hneg
          clear hs0 hs1 hst hd hne hneg
          have i0 : IntKind.i64.wrap (s0 + 1) = s0 + 1 := IntWalk.i64_in _ (by omega)
          have i1' : IntKind.i64.wrap q = q := IntWalk.i64_in _ (by omega)
          have i2 : IntKind.i64.wrap (q + f) = q + f := IntWalk.i64_in _ (by omega)
          have i3 : IntKind.i64.wrap (q + f - 1) = q + f - 1 := IntWalk.i64_in _ (by omega)
          have i4 : IntKind.i64.wrap d = d := IntWalk.i64_in _ (by omega)
          have i5 : IntKind.i64.wrap (s0 + 1 + d) = s0 + 1 + d := IntWalk.i64_in _ (by omega)
          have i6 : ¬ f = 0 := by omega
          go_wp2_with fail
          go_round
          case rel => exact ⟨1 + 1, by omega, by go_num, by rw [← HS1.out, HST.out, Int.add_assoc]⟩
          case measure => simp [intOf]
        · have hne : needs q f y1 = (q - y1 + f - 1) / f := if_neg (by omega)
          obtain ⟨d, hd⟩ : ∃ d, d = (q - y1 + f - 1) / f := ⟨_, rfl⟩
          have hdq : (q - y1 + f - 1).tdiv f = d := by rw [hd]; exact Int.tdiv_eq_ediv_of_nonneg (by omega)
          rw [← hd] at hne
          rw [hne] at hnb
          rw [hne] at hst
          have HST := Lib.hid hst
          have hbq : (y1 == -1) = false := by simpa using hneg
          clear hs0 hs1 hst hd hne hneg
          have i1 : IntKind.i64.wrap (q - y1) = q - y1 := IntWalk.i64_in _ (by omega)
          have i2 : IntKind.i64.wrap (q - y1 + f) = q - y1 + f := IntWalk.i64_in _ (by omega)
          have i3 : IntKind.i64.wrap (q - y1 + f - 1) = q - y1 + f - 1 := IntWalk.i64_in _ (by omega)
          have i4 : IntKind.i64.wrap d = d := IntWalk.i64_in _ (by omega)
          have i5 : IntKind.i64.wrap (s0 + d) = s0 + d := IntWalk.i64_in _ (by omega)
          have i6 : ¬ f = 0 := by omega
          go_wp2_with fail
          go_round
          case rel => exact ⟨1 + 1, by omega, by go_num, by rw [← HS1.out, HST.out]⟩
          case measure => simp [intOf]
      · have ht0 : (2 : Nat) = 2 := rfl
        have hst : needsUp q f (xs.take (2 + 1)) = needsUp q f (xs.take 2) + needs q f y2 := by
          rw [HY2.out]
          by_cases h : 2 < xs.length
          · rw [needsUp_snoc q f xs h, HFI.out 2 h]
          · rw [List.take_of_length_le (by omega), List.take_of_length_le (by omega), HFO.out 2 (by omega), needs_done (by omega) f1, Int.add_zero]
        have hix := fun w => row4_2 y0 y1 y2 y3 w
        have hx := HFB.out 2
        rw [← HY2.out] at hx
        have hnb := needs_bd (by omega) q60 f1 f8 hx.1 hx.2
        have h1' := HBD.out 2
        have h2 := HBD.out (2 + 1)
        obtain ⟨s0, hs0⟩ : ∃ s0, s0 = needsUp q f (xs.take 2) := ⟨_, rfl⟩
        obtain ⟨s1, hs1⟩ : ∃ s1, s1 = needsUp q f (xs.take (2 + 1)) := ⟨_, rfl⟩
        rw [← hs0] at h1' hst ⊢
        rw [← hs1] at h2 hst
        have HS1 := Lib.hid hs1
        by_cases hneg : y2 = -1
        · have hne : needs q f y2 = 1 + (q + f - 1) / f := if_pos (by omega)
          obtain ⟨d, hd⟩ : ∃ d, d = (q + f - 1) / f := ⟨_, rfl⟩
          have hdq : (q + f - 1).tdiv f = d := by rw [hd]; exact Int.tdiv_eq_ediv_of_nonneg (by omega)
          rw [← hd] at hne
          rw [hne] at hnb
          rw [hne] at hst
          have HST := Lib.hid hst
          have hbq : (y2 == -1) = true := by simpa using hneg
          clear hs0 hs1 hst hd hne hneg
          have i0 : IntKind.i64.wrap (s0 + 1) = s0 + 1 := IntWalk.i64_in _ (by omega)
          have i1' : IntKind.i64.wrap q = q := IntWalk.i64_in _ (by omega)
          have i2 : IntKind.i64.wrap (q + f) = q + f := IntWalk.i64_in _ (by omega)
          have i3 : IntKind.i64.wrap (q + f - 1) = q + f - 1 := IntWalk.i64_in _ (by omega)
          have i4 : IntKind.i64.wrap d = d := IntWalk.i64_in _ (by omega)
          have i5 : IntKind.i64.wrap (s0 + 1 + d) = s0 + 1 + d := IntWalk.i64_in _ (by omega)
          have i6 : ¬ f = 0 := by omega
          go_wp2_with fail
          go_round
          case rel => exact ⟨2 + 1, by omega, by go_num, by rw [← HS1.out, HST.out, Int.add_assoc]⟩
          case measure => simp [intOf]
        · have hne : needs q f y2 = (q - y2 + f - 1) / f := if_neg (by omega)
          obtain ⟨d, hd⟩ : ∃ d, d = (q - y2 + f - 1) / f := ⟨_, rfl⟩
          have hdq : (q - y2 + f - 1).tdiv f = d := by rw [hd]; exact Int.tdiv_eq_ediv_of_nonneg (by omega)
          rw [← hd] at hne
          rw [hne] at hnb
          rw [hne] at hst
          have HST := Lib.hid hst
          have hbq : (y2 == -1) = false := by simpa using hneg
          clear hs0 hs1 hst hd hne hneg
          have i1 : IntKind.i64.wrap (q - y2) = q - y2 := IntWalk.i64_in _ (by omega)
          have i2 : IntKind.i64.wrap (q - y2 + f) = q - y2 + f := IntWalk.i64_in _ (by omega)
          have i3 : IntKind.i64.wrap (q - y2 + f - 1) = q - y2 + f - 1 := IntWalk.i64_in _ (by omega)
          have i4 : IntKind.i64.wrap d = d := IntWalk.i64_in _ (by omega)
          have i5 : IntKind.i64.wrap (s0 + d) = s0 + d := IntWalk.i64_in _ (by omega)
          have i6 : ¬ f = 0 := by omega
          go_wp2_with fail
          go_round
          case rel => exact ⟨2 + 1, by omega, by go_num, by rw [← HS1.out, HST.out]⟩
          case measure => simp [intOf]
      · have ht0 : (3 : Nat) = 3 := rfl
        have hst : needsUp q f (xs.take (3 + 1)) = needsUp q f (xs.take 3) + needs q f y3 := by
          rw [HY3.out]
          by_cases h : 3 < xs.length
          · rw [needsUp_snoc q f xs h, HFI.out 3 h]
          · rw [List.take_of_length_le (by omega), List.take_of_length_le (by omega), HFO.out 3 (by omega), needs_done (by omega) f1, Int.add_zero]
        have hix := fun w => row4_3 y0 y1 y2 y3 w
        have hx := HFB.out 3
        rw [← HY3.out] at hx
        have hnb := needs_bd (by omega) q60 f1 f8 hx.1 hx.2
        have h1' := HBD.out 3
        have h2 := HBD.out (3 + 1)
        obtain ⟨s0, hs0⟩ : ∃ s0, s0 = needsUp q f (xs.take 3) := ⟨_, rfl⟩
        obtain ⟨s1, hs1⟩ : ∃ s1, s1 = needsUp q f (xs.take (3 + 1)) := ⟨_, rfl⟩
        rw [← hs0] at h1' hst ⊢
        rw [← hs1] at h2 hst
        have HS1 := Lib.hid hs1
        by_cases hneg : y3 = -1
        · have hne : needs q f y3 = 1 + (q + f - 1) / f := if_pos (by omega)
          obtain ⟨d, hd⟩ : ∃ d, d = (q + f - 1) / f := ⟨_, rfl⟩
          have hdq : (q + f - 1).tdiv f = d := by rw [hd]; exact Int.tdiv_eq_ediv_of_nonneg (by omega)
          rw [← hd] at hne
          rw [hne] at hnb
          rw [hne] at hst
          have HST := Lib.hid hst
          have hbq : (y3 == -1) = true := by simpa using hneg
          clear hs0 hs1 hst hd hne hneg
          have i0 : IntKind.i64.wrap (s0 + 1) = s0 + 1 := IntWalk.i64_in _ (by omega)
          have i1' : IntKind.i64.wrap q = q := IntWalk.i64_in _ (by omega)
          have i2 : IntKind.i64.wrap (q + f) = q + f := IntWalk.i64_in _ (by omega)
          have i3 : IntKind.i64.wrap (q + f - 1) = q + f - 1 := IntWalk.i64_in _ (by omega)
          have i4 : IntKind.i64.wrap d = d := IntWalk.i64_in _ (by omega)
          have i5 : IntKind.i64.wrap (s0 + 1 + d) = s0 + 1 + d := IntWalk.i64_in _ (by omega)
          have i6 : ¬ f = 0 := by omega
          go_wp2_with fail
          go_round
          case rel => exact ⟨3 + 1, by omega, by go_num, by rw [← HS1.out, HST.out, Int.add_assoc]⟩
          case measure => simp [intOf]
        · have hne : needs q f y3 = (q - y3 + f - 1) / f := if_neg (by omega)
          obtain ⟨d, hd⟩ : ∃ d, d = (q - y3 + f - 1) / f := ⟨_, rfl⟩
          have hdq : (q - y3 + f - 1).tdiv f = d := by rw [hd]; exact Int.tdiv_eq_ediv_of_nonneg (by omega)
          rw [← hd] at hne
          rw [hne] at hnb
          rw [hne] at hst
          have HST := Lib.hid hst
          have hbq : (y3 == -1) = false := by simpa using hneg
          clear hs0 hs1 hst hd hne hneg
          have i1 : IntKind.i64.wrap (q - y3) = q - y3 := IntWalk.i64_in _ (by omega)
          have i2 : IntKind.i64.wrap (q - y3 + f) = q - y3 + f := IntWalk.i64_in _ (by omega)
          have i3 : IntKind.i64.wrap (q - y3 + f - 1) = q - y3 + f - 1 := IntWalk.i64_in _ (by omega)
          have i4 : IntKind.i64.wrap d = d := IntWalk.i64_in _ (by omega)
          have i5 : IntKind.i64.wrap (s0 + d) = s0 + d := IntWalk.i64_in _ (by omega)
          have i6 : ¬ f = 0 := by omega
          go_wp2_with fail
          go_round
          case rel => exact ⟨3 + 1, by omega, by go_num, by rw [← HS1.out, HST.out]⟩
          case measure => simp [intOf]
    · obtain rfl : t = 4 := by omega
      rw [List.take_of_length_le hxl]
      go_wp2
      go_ret2
      exact ⟨rfl, hb4⟩

theorem fewestMovesHome_both (q f k : Int) (st sf : List Int) (L : List (List Int)) (p : Int) : ∃ (y : Int) (ok : Bool),
    (∀ (A1 A2 : Option Addr) (c1 c2 : Nat) (A3 : Option Addr) (c3 : Nat) (w : World), RI w w.heap.size A1 st → RI w w.heap.size A2 sf → st.length ≤ c1 → RG w w.heap.size A3 L → Calls Try.prog 49 #[.agg #[.int .i64 q, .int .i64 f, .int .i64 k, .slice A1 st.length c1, .slice A2 sf.length c2], .slice A3 L.length c3, .int .i64 p] w fun e w' => e = .returned (.tuple #[.int .i64 y, .bool ok]) ∧ Below w.heap.size w w') ∧
    (∀ (A1 A2 : Option Addr) (c1 c2 : Nat) (A3 : Option Addr) (c3 : Nat) (w : World), RI w w.heap.size A1 st → RI w w.heap.size A2 sf → st.length ≤ c1 → RG w w.heap.size A3 L → Calls Try.prog 50 #[.agg #[.int .i64 q, .int .i64 f, .int .i64 k, .slice A1 st.length c1, .slice A2 sf.length c2], .slice A3 L.length c3, .int .i64 p] w fun e w' => e = .returned (.tuple #[.int .i64 y, .bool ok]) ∧ Below w.heap.size w w') := by
  cases h : plB q f k st sf L p
  · exact ⟨0, false, fun A1 A2 c1 c2 A3 c3 w a b c d => specFewest_any q f k A1 A2 A3 c1 c2 c3 st sf L p w a b d c _ _ h (fun _ => rfl) (fun e => by cases e), fun A1 A2 c1 c2 A3 c3 w a b c d => implFewest_no q f k A1 A2 A3 c1 c2 c3 st sf L p w a b d c h⟩
  · exact ⟨_, true, fun A1 A2 c1 c2 A3 c3 w a b c d => specFewest_any q f k A1 A2 A3 c1 c2 c3 st sf L p w a b d c _ _ h (fun e => by cases e) (fun _ => rfl), fun A1 A2 c1 c2 A3 c3 w a b c d => implFewest_yes q f k A1 A2 A3 c1 c2 c3 st sf L p w a b d c h⟩

end Go.Proofs.Ytpecocmgclancaa

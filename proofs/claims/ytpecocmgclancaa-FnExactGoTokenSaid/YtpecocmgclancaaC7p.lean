/-
  Tracks: StepsMade on both sides.
-/
import Derived.Test.YtpecocmgclancaaC7o
namespace Go.Proofs.Ytpecocmgclancaa
open Go.RowKit

/-- The sum of the steps of a row, those at home with 0. -/
def sumUp (r : List Int) : Int := (r.map (fun x => max 0 x)).sum
theorem sumUp_snoc (r : List Int) {j : Nat} (h : j < r.length) : sumUp (r.take (j + 1)) = sumUp (r.take j) + max 0 r[j] := by
  unfold sumUp
  rw [List.take_succ_eq_append_getElem h, List.map_append, List.sum_append]
  simp only [List.map_cons, List.map_nil, List.sum_cons, List.sum_nil]
  omega
theorem sumUp_bd {q : Int} (hq : 0 ≤ q) : ∀ (r : List Int), (∀ x ∈ r, x ≤ q) → 0 ≤ sumUp r ∧ sumUp r ≤ r.length * q
  | [], _ => by simp [sumUp]
  | x :: t, h => by
    have h1 := sumUp_bd hq t (fun y hy => h y (by simp [hy]))
    have h2 := h x (by simp)
    have e : sumUp (x :: t) = max 0 x + sumUp t := rfl
    have e2 : ((x :: t).length : Int) * q = q + t.length * q := by simp [Int.add_mul]; omega
    rw [e, e2]
    omega
/-- The sums of the rows. -/
def sumsUp (L : List (List Int)) : List Int := L.map sumUp
theorem sumsUp_snoc (L : List (List Int)) {p : Nat} (h : p < L.length) : sumsUp (L.take (p + 1)) = sumsUp (L.take p) ++ [sumUp L[p]] := by
  unfold sumsUp
  rw [List.take_succ_eq_append_getElem h, List.map_append]
  rfl
theorem sumsUp_len (L : List (List Int)) : (sumsUp L).length = L.length := by simp [sumsUp]

theorem infoInt1 : (Try.prog.info? 3).map (fun i => (i.zero, i.size, i.bytes)) = some (some (.int .i64 0), 1, 8) := by kernel_rfl
theorem one_int (x : Int) : ∀ u ∈ [Value.int .i64 x], u.oneCell' = true := by intro u hu; simp at hu; subst hu; rfl
/-- A slice of integers and a bool are handed back. -/
def IntsBack (w : World) (R : List Int × Bool) (e : Ending) (w' : World) : Prop :=
  ∃ A' c', e = .returned (.tuple #[.slice A' R.1.length c', .bool R.2]) ∧ OI w' w.heap.size 3 A' R.1.length (fun k => R.1.getD k 0) ∧ Below w.heap.size w w'
theorem l1Most_any (a b : Int) (w : World) : Calls Try.prog 75 #[.int .i64 a, .int .i64 b] w fun e w' => e = .returned (.int .i64 (max a b)) ∧ w = w' := by
  go_enter Try.func75, Try.ntmps75
  by_cases h : b < a
  · rw [show max a b = a by omega]
    go_wp2
    go_ret
    exact ⟨rfl, rfl⟩
  · rw [show max a b = b by omega]
    go_wp2
    go_ret
    exact ⟨rfl, rfl⟩

set_option maxRecDepth 100000 in
set_option maxHeartbeats 1000000 in
theorem specStepsMade_any (q f k : Int) (A1 A2 A3 : Option Addr) (c1 c2 c3 : Nat) (st sf : List Int) (L : List (List Int)) (w : World) (h1 : RI w w.heap.size A1 st) (h2 : RI w w.heap.size A2 sf) (h3 : RG w w.heap.size A3 L) (hc : st.length ≤ c1) (r : Bool) (R : List Int) (hr : (trkOk q f k st sf && stateB q k st sf L) = r) (hR0 : r = false → R = []) (hR1 : r = true → R = sumsUp L) :
    Calls Try.prog 45 #[.agg #[.int .i64 q, .int .i64 f, .int .i64 k, .slice A1 st.length c1, .slice A2 sf.length c2], .slice A3 L.length c3] w (IntsBack w (R, r)) := by
  have hl := h1.1
  have hl2 := h2.1
  have hl3 := h3.1
  obtain ⟨i0, hi, hz0, hz1, hz2⟩ := info_parts infoInt1
  have HR := Lib.hid hr
  clear hr
  go_enter Try.func45, Try.ntmps45
  go_wp2_with fail
  refine (trGood_any _ _ _ _ _ _ _ _ _ _ (h1.go (below1 _ _)) (h2.go (below1 _ _)) hc).mono ?_
  rintro e w2 ⟨rfl, hx⟩
  have hb := box_on (Below.refl _ _) hx (by simp)
  have qq := boxcells hb
  have hbw := (below1 w (.cells #[.int .i64 q, .int .i64 f, .int .i64 k, .slice A1 st.length c1, .slice A2 sf.length c2] 27)).trans (hb.mono (by omega))
  cases hz : trkOk q f k st sf
  · have E : r = false := by rw [← HR.out, hz]; rfl
    subst E
    obtain rfl := hR0 rfl
    go_wp2
    go_ret2
    exact ⟨none, 0, rfl, .inl rfl, hbw⟩
  have HZ := Lib.hid hz
  clear hz
  go_wp2_with fail
  refine (trState_any q f k A1 A2 A3 c1 c2 c3 st sf L _ (h1.go hbw) (h2.go hbw) ((h3.below hbw).more hbw.size) (trk_of HZ.out)).mono ?_
  rintro e w3 ⟨rfl, hx3⟩
  have hbw3 := hbw.trans (hx3.mono hbw.size)
  clear qq
  cases hs : stateB q k st sf L
  · have E : r = false := by rw [← HR.out, HZ.out, hs]; rfl
    subst E
    obtain rfl := hR0 rfl
    go_wp2
    go_ret2
    exact ⟨none, 0, rfl, .inl rfl, hbw3⟩
  have E : r = true := by rw [← HR.out, HZ.out, hs]; rfl
  subst E
  obtain rfl := hR1 rfl
  have hTS := state_is HR.out
  have q60 := hTS.1.q60
  have k4 := hTS.1.k4
  have n4 := hTS.1.n4
  have hSt := Lib.hid hTS.2
  have hb := hbw3
  clear hTS hs hbw hbw3 hx hx3
  go_wp2_with fail
  go_loopw [6, 23] (fun v i wr => ∃ p : Nat, p ≤ L.length ∧ i = .int .i64 p ∧ Below w.heap.size w wr ∧ wr.ownsRow w.heap.size 3 1 v (sumsUp (L.take p)).length ((sumsUp (L.take p)).map (Value.int .i64))) (fun _ i _ => L.length - (intOf i).toNat)
  case atStart => exact ⟨0, Nat.zero_le _, rfl, hb, World.ownsRow_nil _ _ _ _⟩
  case round =>
    clear hb
    obtain ⟨p, hp, rfl, hb, hown⟩ := hrel
    by_cases hlt : p < L.length
    · obtain ⟨b, off, A', c', rfl, hbb, hc0, hrow⟩ := h3.at_ (Below.refl _ w) hlt
      have hcc := (bcell hb hbb).trans hc0
      clear hc0
      have hrv := hSt.out.val p hlt
      have hrl := hSt.out.row p hlt
      have hsn := sumsUp_snoc L hlt
      have hsl : (sumsUp (L.take p)).length = p := by rw [sumsUp_len]; simp; omega
      obtain ⟨xs, hxs⟩ : ∃ xs, xs = L[p] := ⟨_, rfl⟩
      rw [← hxs] at hcc hrow hrl hsn
      have hrv' : ∀ t (h : t < xs.length), -1 ≤ xs[t] ∧ xs[t] ≤ q := fun t h => by subst hxs; exact hrv t h
      have hxl : xs.length ≤ 4 := by omega
      have hbd : ∀ j, 0 ≤ sumUp (xs.take j) ∧ sumUp (xs.take j) ≤ 1000 := fun j => by
        have h1 := sumUp_bd (q := 60) (by omega) (xs.take j) (fun y hy => by
          obtain ⟨i, hi, rfl⟩ := List.mem_iff_getElem.1 (List.mem_of_mem_take hy)
          have := (hrv' i hi).2; omega)
        have h2 : ((xs.take j).length : Int) ≤ 4 := by simp; omega
        omega
      have HSN := Lib.hid hsn; have HSL := Lib.hid hsl; have HBD := Lib.hid hbd
      clear hxs hrv hrl hsn hsl hbd
      go_wp2_with fail
      go_loop [9, 29] (fun v i => ∃ t : Nat, t ≤ xs.length ∧ i = .int .i64 t ∧ v = .int .i64 (sumUp (xs.take t))) (fun _ i => xs.length - (intOf i).toNat)
      case atStart => exact ⟨0, Nat.zero_le _, rfl, rfl⟩
      case round =>
        obtain ⟨t, ht, rfl, rfl⟩ := hrel
        have h1 := HBD.out t
        by_cases htl : t < xs.length
        · obtain ⟨b2, off2, rfl, hb2, h5⟩ := hrow.at_ hb htl
          have hx := hrv' t htl
          have h2 := HBD.out (t + 1)
          have hst := sumUp_snoc xs htl
          obtain ⟨x, hxx⟩ : ∃ x, x = xs[t] := ⟨_, rfl⟩
          rw [← hxx] at h5 hx hst
          obtain ⟨s0, hs0⟩ : ∃ s0, s0 = sumUp (xs.take t) := ⟨_, rfl⟩
          obtain ⟨s1, hs1⟩ : ∃ s1, s1 = sumUp (xs.take (t + 1)) := ⟨_, rfl⟩
          rw [← hs0] at h1 hst ⊢
          rw [← hs1] at h2 hst
          have HS1 := Lib.hid hs1; have HST := Lib.hid hst
          clear hxx hs0 hs1 hst
          by_cases h0 : 0 < x
          · have i1 : IntKind.i64.wrap (s0 + x) = s0 + x := IntWalk.i64_in _ (by omega)
            go_wp2_with (go_at_call 75; refine (l1Most_any _ _ _).mono ?_; rintro e w' ⟨rfl, rfl⟩; rw [show max 0 x = x by omega])
            go_round
            case rel => exact ⟨t + 1, by omega, by go_num, by rw [← HS1.out, HST.out, show max 0 x = x by omega]⟩
            case measure => simp [intOf]; omega
          · have i1 : IntKind.i64.wrap s0 = s0 := IntWalk.i64_in s0 (by omega)
            go_wp2_with (go_at_call 75; refine (l1Most_any _ _ _).mono ?_; rintro e w' ⟨rfl, rfl⟩; rw [show max 0 x = 0 by omega])
            go_round
            case rel => exact ⟨t + 1, by omega, by go_num, by rw [← HS1.out, HST.out, show max 0 x = 0 by omega, Int.add_zero]⟩
            case measure => simp [intOf]; omega
        · obtain rfl : t = xs.length := by omega
          rw [List.take_of_length_le (Nat.le_refl _)] at h1 ⊢
          obtain ⟨s0, hs0⟩ : ∃ s0, s0 = sumUp xs := ⟨_, rfl⟩
          rw [← hs0] at h1 ⊢
          have HS0 := Lib.hid hs0
          clear hs0
          have hlen : (sumsUp (L.take p)).length ≤ 1048576 := by rw [HSL.out]; have := h3.1; omega
          have hsz := hb.size
          obtain ⟨M, hM⟩ : ∃ M, M = sumsUp (L.take p) := ⟨_, rfl⟩
          rw [← hM] at hown hlen
          have HM := Lib.hid hM
          clear hM
          go_wp2_with (at_builtin; go_loud (refine wpList_append_own _ rfl _ _ 22 rfl w.heap.size 3 i0 (.int .i64 0) 1 8 Try.underlying22 hi hz0 hz1 hz2 rfl (by decide) _ _ _ rfl (hown.alloc _) ⟨wr.heap.size, 0, none⟩ 1 1 [.int .i64 s0] rfl rfl (cell_new1' _ _ _) (one_int _) (by unfold maxLen; omega) (by omega) (by simp; omega) ?_; intro v1 w6 hown6 hg6 _))
          go_roundw
          case rel =>
            refine ⟨p + 1, by omega, by go_num, (hb.alloc hb.size _).grown hg6 (by have := hb.size; simp; omega) (fun i h => own_from hown i h), ?_⟩
            rw [HSN.out, ← HM.out, ← HS0.out, List.length_append, List.map_append]
            exact hown6
          case measure => simp [intOf]; omega
    · obtain rfl : p = L.length := by omega
      rw [List.take_of_length_le (Nat.le_refl _)] at hown
      obtain ⟨Av, cv, rfl, hO⟩ := own_oi hown rfl
      go_wp2
      go_ret2
      exact ⟨Av, cv, rfl, hO, hb⟩

set_option maxRecDepth 100000 in
set_option maxHeartbeats 1000000 in
theorem implStepsMade_any (q f k : Int) (A1 A2 A3 : Option Addr) (c1 c2 c3 : Nat) (st sf : List Int) (L : List (List Int)) (w : World) (h1 : RI w w.heap.size A1 st) (h2 : RI w w.heap.size A2 sf) (h3 : RG w w.heap.size A3 L) (hc : st.length ≤ c1) (r : Bool) (R : List Int) (hr : (trkOk q f k st sf && stateB q k st sf L) = r) (hR0 : r = false → R = []) (hR1 : r = true → R = sumsUp L) :
    Calls Try.prog 46 #[.agg #[.int .i64 q, .int .i64 f, .int .i64 k, .slice A1 st.length c1, .slice A2 sf.length c2], .slice A3 L.length c3] w (IntsBack w (R, r)) := by
  have hl := h1.1
  have hl2 := h2.1
  have hl3 := h3.1
  obtain ⟨i0, hi, hz0, hz1, hz2⟩ := info_parts infoInt1
  cases r
  · obtain rfl := hR0 rfl
    have HF := Lib.hid hr
    clear hr
    have z0 := zeroRing
    have z1 := zeroStand
    go_enter Try.func46, Try.ntmps46
    go_wp2_with fail
    refine (ringAndStand_fail q f k A1 A2 A3 c1 c2 c3 st sf L _ (h1.go (below1 _ _)) (h2.go (below1 _ _)) ((h3.below (below1 _ _)).more (below1 _ _).size) hc HF.out).mono ?_
    rintro e w2 ⟨RV, V, rfl, hRs, hR1, hx⟩
    have hbx := box_on (Below.refl _ _) hx (by simp)
    clear hx
    go_wp2_with (first | (refine wpList_store_row rfl 62 (.tmp 6) _ rfl w2.heap.size rfl _ _ (RV) rfl ((Below.heap_alloc _ _ _ (by simp)).trans (heap_alloc_at _ _ _ rfl)) ?_ ?_ hR1 ?_; (rw [hRs, ring_size]); (rw [hRs]; exact sizeRing); intro w3 hC3 hg3 hs3; have N3 := (hg3.block (w2.heap.size + 1) (by simp) (by simp)).trans (heap_alloc_at _ _ _ (by simp))) | (refine wpList_store_row rfl 68 (.tmp 7) _ rfl (w2.heap.size + 1) rfl _ _ (standC (V)) rfl N3 ?_ ?_ (stand_one _) ?_; (simp only [stand_size]); (rw [stand_size]; exact sizeStand); intro w4 hC4 hg4 hs4))
    have hsz2 : w.heap.size + 1 ≤ w2.heap.size := by have := hbx.size; simpa using this
    have hbx4 : Below (w.heap.size + 1) (w.alloc (.cells #[.int .i64 q, .int .i64 f, .int .i64 k, .slice A1 st.length c1, .slice A2 sf.length c2] 27)) w4 := (((hbx.alloc hsz2 _).alloc (by simp; omega) _).grown hg3 (by simp; omega) (fun k h => by injection h with h; omega)).grown hg4 (by have := hg3.size; simp at this; omega) (fun k h => by injection h with h; omega)
    have hb4 : Below w.heap.size w w4 := (below1 w _).trans (hbx4.mono (by omega))
    go_ret2
    exact ⟨none, 0, rfl, .inl rfl, hb4⟩
  obtain rfl := hR1 rfl
  have hTS := state_is hr
  have q60 := hTS.1.q60
  have k4 := hTS.1.k4
  have n4 := hTS.1.n4
  have hSt := Lib.hid hTS.2
  rw [Bool.and_eq_true] at hr
  have HZ := Lib.hid hr.1; have HS := Lib.hid hr.2
  clear hTS hr
  have z0 := zeroRing
  have z1 := zeroStand
  go_enter Try.func46, Try.ntmps46
  go_wp2_with fail
  refine (ringAndStand_in q f k A1 A2 A3 c1 c2 c3 st sf L _ (h1.go (below1 _ _)) (h2.go (below1 _ _)) ((h3.below (below1 _ _)).more (below1 _ _).size) hc HZ.out).mono ?_
  rintro e w2 ⟨V, rfl, hV, hx⟩
  rw [HS.out] at hV ⊢
  obtain rfl := hV rfl
  clear hV
  have hbx := box_on (Below.refl _ _) hx (by simp)
  clear hx
  go_wp2_with (first | (refine wpList_store_row rfl 62 (.tmp 6) _ rfl w2.heap.size rfl _ _ (ringC q f k A1 st.length c1 (safeB sf)) rfl ((Below.heap_alloc _ _ _ (by simp)).trans (heap_alloc_at _ _ _ rfl)) ?_ ?_ ring_one ?_; (simp only [ring_size]); (rw [ring_size]; exact sizeRing); intro w3 hC3 hg3 hs3; have N3 := (hg3.block (w2.heap.size + 1) (by simp) (by simp)).trans (heap_alloc_at _ _ _ (by simp))) | (refine wpList_store_row rfl 68 (.tmp 7) _ rfl (w2.heap.size + 1) rfl _ _ (standC (stF q L)) rfl N3 ?_ ?_ (stand_one _) ?_; (simp only [stand_size]); (rw [stand_size]; exact sizeStand); intro w4 hC4 hg4 hs4))
  have hsz2 : w.heap.size + 1 ≤ w2.heap.size := by have := hbx.size; simpa using this
  have hbx4 : Below (w.heap.size + 1) (w.alloc (.cells #[.int .i64 q, .int .i64 f, .int .i64 k, .slice A1 st.length c1, .slice A2 sf.length c2] 27)) w4 := (((hbx.alloc hsz2 _).alloc (by simp; omega) _).grown hg3 (by simp; omega) (fun k h => by injection h with h; omega)).grown hg4 (by have := hg3.size; simp at this; omega) (fun k h => by injection h with h; omega)
  have hb4 : Below w.heap.size w w4 := (below1 w _).trans (hbx4.mono (by omega))
  have K4 : RA w4 w2.heap.size 62 q f k A1 st.length c1 (safeB sf) := (hg4.block _ (heap_lt hC3) (by simp)).trans hC3
  have E4 : DA w4 (w2.heap.size + 1) 68 (stF q L) := hC4
  have hb := hb4
  clear K4 E4 hbx hbx4 hb4 hC3 hC4 hg3 hg4 N3
  go_loopw [9, 26] (fun v i wr => ∃ p : Nat, p ≤ L.length ∧ i = .int .i64 p ∧ Below w.heap.size w wr ∧ wr.ownsRow w.heap.size 3 1 v (sumsUp (L.take p)).length ((sumsUp (L.take p)).map (Value.int .i64))) (fun _ i _ => L.length - (intOf i).toNat)
  case atStart => exact ⟨0, Nat.zero_le _, rfl, hb, World.ownsRow_nil _ _ _ _⟩
  case round =>
    clear hb
    obtain ⟨p, hp, rfl, hb, hown⟩ := hrel
    by_cases hlt : p < L.length
    · obtain ⟨b, off, A', c', rfl, hbb, hc0, hrow⟩ := h3.at_ (Below.refl _ w) hlt
      have hcc := (bcell hb hbb).trans hc0
      clear hc0
      have hrv := hSt.out.val p hlt
      have hrl := hSt.out.row p hlt
      have hsn := sumsUp_snoc L hlt
      have hsl : (sumsUp (L.take p)).length = p := by rw [sumsUp_len]; simp; omega
      obtain ⟨xs, hxs⟩ : ∃ xs, xs = L[p] := ⟨_, rfl⟩
      rw [← hxs] at hcc hrow hrl hsn
      have hrv' : ∀ t (h : t < xs.length), -1 ≤ xs[t] ∧ xs[t] ≤ q := fun t h => by subst hxs; exact hrv t h
      have hxl : xs.length ≤ 4 := by omega
      have hbd : ∀ j, 0 ≤ sumUp (xs.take j) ∧ sumUp (xs.take j) ≤ 1000 := fun j => by
        have h1 := sumUp_bd (q := 60) (by omega) (xs.take j) (fun y hy => by
          obtain ⟨i, hi, rfl⟩ := List.mem_iff_getElem.1 (List.mem_of_mem_take hy)
          have := (hrv' i hi).2; omega)
        have h2 : ((xs.take j).length : Int) ≤ 4 := by simp; omega
        omega
      have HSN := Lib.hid hsn; have HSL := Lib.hid hsl; have HBD := Lib.hid hbd
      clear hxs hrv hrl hsn hsl hbd
      go_wp2_with fail
      go_loop [12, 32] (fun v i => ∃ t : Nat, t ≤ xs.length ∧ i = .int .i64 t ∧ v = .int .i64 (sumUp (xs.take t))) (fun _ i => xs.length - (intOf i).toNat)
      case atStart => exact ⟨0, Nat.zero_le _, rfl, rfl⟩
      case round =>
        obtain ⟨t, ht, rfl, rfl⟩ := hrel
        have h1 := HBD.out t
        by_cases htl : t < xs.length
        · obtain ⟨b2, off2, rfl, hb2, h5⟩ := hrow.at_ hb htl
          have hx := hrv' t htl
          have h2 := HBD.out (t + 1)
          have hst := sumUp_snoc xs htl
          obtain ⟨x, hxx⟩ : ∃ x, x = xs[t] := ⟨_, rfl⟩
          rw [← hxx] at h5 hx hst
          obtain ⟨s0, hs0⟩ : ∃ s0, s0 = sumUp (xs.take t) := ⟨_, rfl⟩
          obtain ⟨s1, hs1⟩ : ∃ s1, s1 = sumUp (xs.take (t + 1)) := ⟨_, rfl⟩
          rw [← hs0] at h1 hst ⊢
          rw [← hs1] at h2 hst
          have HS1 := Lib.hid hs1; have HST := Lib.hid hst
          clear hxx hs0 hs1 hst
          have i1 : IntKind.i64.wrap (s0 + max x 0) = s0 + max x 0 := IntWalk.i64_in _ (by omega)
          go_wp2_with fail
          go_round
          case rel => exact ⟨t + 1, by omega, by go_num, by rw [← HS1.out, HST.out, show max 0 x = max x 0 by omega]⟩
          case measure => simp [intOf]; omega
        · obtain rfl : t = xs.length := by omega
          rw [List.take_of_length_le (Nat.le_refl _)] at h1 ⊢
          obtain ⟨s0, hs0⟩ : ∃ s0, s0 = sumUp xs := ⟨_, rfl⟩
          rw [← hs0] at h1 ⊢
          have HS0 := Lib.hid hs0
          clear hs0
          have hlen : (sumsUp (L.take p)).length ≤ 1048576 := by rw [HSL.out]; have := h3.1; omega
          have hsz := hb.size
          obtain ⟨M, hM⟩ : ∃ M, M = sumsUp (L.take p) := ⟨_, rfl⟩
          rw [← hM] at hown hlen
          have HM := Lib.hid hM
          clear hM
          go_wp2_with (at_builtin; go_loud (refine wpList_append_own _ rfl _ _ 22 rfl w.heap.size 3 i0 (.int .i64 0) 1 8 Try.underlying22 hi hz0 hz1 hz2 rfl (by decide) _ _ _ rfl (hown.alloc _) ⟨wr.heap.size, 0, none⟩ 1 1 [.int .i64 s0] rfl rfl (cell_new1' _ _ _) (one_int _) (by unfold maxLen; omega) (by omega) (by simp; omega) ?_; intro v1 w6 hown6 hg6 _))
          go_roundw
          case rel =>
            refine ⟨p + 1, by omega, by go_num, (hb.alloc hb.size _).grown hg6 (by have := hb.size; simp; omega) (fun i h => own_from hown i h), ?_⟩
            rw [HSN.out, ← HM.out, ← HS0.out, List.length_append, List.map_append]
            exact hown6
          case measure => simp [intOf]; omega
    · obtain rfl : p = L.length := by omega
      rw [List.take_of_length_le (Nat.le_refl _)] at hown
      obtain ⟨Av, cv, rfl, hO⟩ := own_oi hown rfl
      go_wp2
      go_ret2
      exact ⟨Av, cv, rfl, hO, hb⟩

theorem stepsMade_both (q f k : Int) (st sf : List Int) (L : List (List Int)) : ∃ R : List Int × Bool, R.1.length ≤ 1048576 ∧
    (∀ (A1 A2 : Option Addr) (c1 c2 : Nat) (A3 : Option Addr) (c3 : Nat) (w : World), RI w w.heap.size A1 st → RI w w.heap.size A2 sf → st.length ≤ c1 → RG w w.heap.size A3 L → Calls Try.prog 45 #[.agg #[.int .i64 q, .int .i64 f, .int .i64 k, .slice A1 st.length c1, .slice A2 sf.length c2], .slice A3 L.length c3] w (IntsBack w R)) ∧
    (∀ (A1 A2 : Option Addr) (c1 c2 : Nat) (A3 : Option Addr) (c3 : Nat) (w : World), RI w w.heap.size A1 st → RI w w.heap.size A2 sf → st.length ≤ c1 → RG w w.heap.size A3 L → Calls Try.prog 46 #[.agg #[.int .i64 q, .int .i64 f, .int .i64 k, .slice A1 st.length c1, .slice A2 sf.length c2], .slice A3 L.length c3] w (IntsBack w R)) := by
  cases h : (trkOk q f k st sf && stateB q k st sf L)
  · exact ⟨([], false), by simp, fun A1 A2 c1 c2 A3 c3 w a b c d => specStepsMade_any q f k A1 A2 A3 c1 c2 c3 st sf L w a b d c _ _ h (fun _ => rfl) (fun e => by cases e), fun A1 A2 c1 c2 A3 c3 w a b c d => implStepsMade_any q f k A1 A2 A3 c1 c2 c3 st sf L w a b d c _ _ h (fun _ => rfl) (fun e => by cases e)⟩
  · refine ⟨(sumsUp L, true), ?_, fun A1 A2 c1 c2 A3 c3 w a b c d => specStepsMade_any q f k A1 A2 A3 c1 c2 c3 st sf L w a b d c _ _ h (fun e => by cases e) (fun _ => rfl), fun A1 A2 c1 c2 A3 c3 w a b c d => implStepsMade_any q f k A1 A2 A3 c1 c2 c3 st sf L w a b d c _ _ h (fun e => by cases e) (fun _ => rfl)⟩
    have := state_is h
    have h1 := this.2.len
    have h2 := this.1.n4
    simp only [sumsUp_len]
    omega

end Go.Proofs.Ytpecocmgclancaa

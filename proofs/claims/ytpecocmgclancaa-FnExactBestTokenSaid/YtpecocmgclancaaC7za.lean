/-
  Tracks: BestToken on both sides.
-/
import Derived.Test.YtpecocmgclancaaC7z
import Derived.Test.YtpecocmgclancaaC7q
import Derived.ChangeKeysEq
import Derived.Deep.RegionHeld3
namespace Go.Proofs.Ytpecocmgclancaa
open Go.RowKit

/-- The best of the tokens below n, and how many it sends home. -/
def bestO (can : Nat → Bool) (s : Nat → Nat) (G : Nat → Int) : Nat → Option (Nat × Nat)
  | 0 => none
  | n + 1 => if can n = true then (match bestO can s G n with
      | none => some (n, s n)
      | some a => if a.2 < s n ∨ (s n = a.2 ∧ G a.1 < G n) then some (n, s n) else some a) else bestO can s G n
section
variable {can : Nat → Bool} {s : Nat → Nat} {G : Nat → Int} {n b m : Nat}
theorem bestO_no (h : can n = false) : bestO can s G (n + 1) = bestO can s G n := by rw [bestO, h]; rfl
theorem bestO_first (h : can n = true) (h0 : bestO can s G n = none) {c : Nat} (hc : c = s n) : bestO can s G (n + 1) = some (n, c) := by rw [bestO, if_pos h, h0, hc]
theorem bestO_more (h : can n = true) (h0 : bestO can s G n = some (b, m)) (hb : m < s n ∨ (s n = m ∧ G b < G n)) {c : Nat} (hc : c = s n) : bestO can s G (n + 1) = some (n, c) := by
  rw [bestO, if_pos h, h0, hc]
  exact if_pos hb
theorem bestO_less (h : can n = true) (h0 : bestO can s G n = some (b, m)) (hb : ¬ (m < s n ∨ (s n = m ∧ G b < G n))) : bestO can s G (n + 1) = some (b, m) := by
  rw [bestO, if_pos h, h0]
  exact if_neg hb
theorem bestO_bd (hs : ∀ i, s i ≤ 16) : ∀ {n b m : Nat}, bestO can s G n = some (b, m) → b < n ∧ m ≤ 16
  | 0, _, _, h => by cases h
  | n + 1, b, m, h => by
    rw [bestO] at h
    split at h
    · split at h
      · injection h with h
        injection h with h1 h2
        subst h1 h2
        exact ⟨by omega, hs _⟩
      · rename_i a ha
        split at h
        · injection h with h
          injection h with h1 h2
          subst h1 h2
          exact ⟨by omega, hs _⟩
        · injection h with h
          subst h
          have := bestO_bd hs ha
          exact ⟨by omega, this.2⟩
    · have := bestO_bd hs h
      exact ⟨by omega, this.2⟩
theorem bestO_stop {K : Nat} (h : ∀ t, K ≤ t → can t = false) : ∀ {n : Nat}, K ≤ n → bestO can s G n = bestO can s G K
  | 0, hn => by rw [show K = 0 by omega]
  | n + 1, hn => by
    by_cases e : K = n + 1
    · rw [e]
    · rw [bestO_no (h n (by omega)), bestO_stop h (by omega)]
end
def spB : Option (Nat × Nat) → Int
  | none => -1
  | some a => a.1
def spM : Option (Nat × Nat) → Int
  | none => 0
  | some a => a.2
def imB : Option (Nat × Nat) → Int
  | none => 0
  | some a => a.1

set_option maxRecDepth 100000 in
set_option maxHeartbeats 2000000 in
theorem specBest_any (q f k : Int) (A1 A2 A3 : Option Addr) (c1 c2 c3 : Nat) (st sf : List Int) (L : List (List Int)) (p x : Int) (w : World) (h1 : RI w w.heap.size A1 st) (h2 : RI w w.heap.size A2 sf) (h3 : RG w w.heap.size A3 L) (hc : st.length ≤ c1) (r : Bool) (R : Option (Nat × Nat)) (hr : askB q f k st sf L p 0 x = r) (hR0 : r = false → R = none) (hR1 : r = true → R = bestO (fun t => canB q f (stF q L p.toNat t) x) (fun t => (goL q k st sf (stF q L) p.toNat t x).length) (stF q L p.toNat) k.toNat) :
    Calls Try.prog 47 #[.agg #[.int .i64 q, .int .i64 f, .int .i64 k, .slice A1 st.length c1, .slice A2 sf.length c2], .slice A3 L.length c3, .int .i64 p, .int .i64 x] w fun e w' => e = .returned (.tuple #[.int .i64 (imB R), .bool R.isSome]) ∧ Below w.heap.size w w' := by
  have hl := h1.1
  have hl2 := h2.1
  have hl3 := h3.1
  have HR := Lib.hid hr
  clear hr
  go_enter Try.func47, Try.ntmps47
  go_wp2_with fail
  refine (trAsked_any q f k A1 A2 A3 c1 c2 c3 st sf L p 0 x _ (h1.go (below1 _ _)) (h2.go (below1 _ _)) ((h3.below (below1 _ _)).more (below1 _ _).size) hc).mono ?_
  rintro e w2 ⟨rfl, hx⟩
  rw [HR.out]
  have hb := box_on (Below.refl _ _) hx (by simp)
  have hbw := (below1 w (.cells #[.int .i64 q, .int .i64 f, .int .i64 k, .slice A1 st.length c1, .slice A2 sf.length c2] 27)).trans (hb.mono (by omega))
  have qq := boxcells hb
  clear hx
  cases r
  · obtain rfl := hR0 rfl
    go_wp2
    go_ret2
    exact ⟨rfl, hbw⟩
  have hRR := hR1 rfl
  clear hR0 hR1
  have hTS := state_is (Bool.and_eq_true_iff.1 HR.out).1
  have hTT := hTS.1
  obtain ⟨q4, q60, f1, f8, k1, k4, n2, n4, st0, sf0, sfl⟩ := hTS.1
  have hSt := hTS.2
  have hmv := (Bool.and_eq_true_iff.1 HR.out).2
  rw [mvB, Bool.and_eq_true, Bool.and_eq_true, inB_iff, inB_iff, inB_iff] at hmv
  obtain ⟨⟨hpb, -⟩, hxb⟩ := hmv
  have hx8 : x ≤ 8 := by omega
  obtain ⟨P, hP⟩ := Int.eq_ofNat_of_zero_le hpb.1
  subst hP
  have hlt : P < L.length := by have := hSt.len; omega
  have hrl := hSt.row P hlt
  have hrv := hSt.val P hlt
  have hG : ∀ t (h : t < L[P].length), stF q L P t = L[P][t] := fun t h => stF_at hlt h
  have hbd : ∀ t, -1 ≤ stF q L P t ∧ stF q L P t ≤ q := fun t => stF_bd hSt (by omega) P t
  have hkn : k.toNat = L[P].length := by omega
  rw [Int.toNat_natCast, hkn] at hRR
  obtain ⟨b1, off1, A', c', rfl, hbb, hc0, hrow⟩ := h3.at_ (Below.refl _ w) hlt
  obtain ⟨xs, hxs⟩ : ∃ xs, xs = L[P] := ⟨_, rfl⟩
  have hG' : ∀ t (h : t < xs.length), stF q L P t = xs[t] := fun t h => by subst hxs; exact hG t h
  have hlL : xs.length = L[P].length := by rw [hxs]
  rw [← hxs] at hrow hc0 hRR hrl
  have hxl : xs.length ≤ 4 := by omega
  have hx1 : 1 ≤ xs.length := by omega
  obtain ⟨hxl0, rfl | ⟨b2, off2, rfl, hb2, hcells⟩⟩ := hrow
  · simp at hx1
  obtain ⟨can, hcan⟩ : ∃ can : Nat → Bool, can = fun t => canB q f (stF q L P t) x := ⟨_, rfl⟩
  obtain ⟨sl, hsl⟩ : ∃ sl : Nat → Nat, sl = fun t => (goL q k st sf (stF q L) P t x).length := ⟨_, rfl⟩
  have hs16 : ∀ i, sl i ≤ 16 := fun i => by rw [hsl]; exact goL_len n4 k4
  have hcs : ∀ t, canB q f (stF q L P t) x = can t := fun t => by rw [hcan]
  have hse : ∀ t, (goL q k st sf (stF q L) P t x).length = sl t := fun t => by rw [hsl]
  rw [← hcan, ← hsl] at hRR
  have HG := Lib.hid hG'; have HL := Lib.hid hlL; have HSt := Lib.hid hSt; have HTT := Lib.hid hTT; have HBD := Lib.hid hbd; have HS16 := Lib.hid hs16; have HCS := Lib.hid hcs; have HSL := Lib.hid hse
  have HRR := Lib.hid hRR
  have hcc0 := Lib.hid hc0
  clear hxs hrl hG hG' hrv hSt hTS HR hkn hTT hlL hbd hcan hsl hs16 hcs hse hRR
  have hcc := (bcell hbw hbb).trans hc0
  clear hc0
  go_wp2_with fail
  go_loopw [10, 11, 27] (fun v1 v2 i wr => ∃ (t : Nat) (r : Option (Nat × Nat)) (a1 a2 : Int), t ≤ xs.length ∧ i = .int .i64 t ∧ Hid (bestO can sl (stF q L P) t = r) ∧ v1 = .int .i64 a1 ∧ v2 = .int .i64 a2 ∧ Hid (a1 = spB r) ∧ Hid (a2 = spM r) ∧ Below (w.heap.size + 1) (w.alloc (.cells #[.int .i64 q, .int .i64 f, .int .i64 k, .slice A1 st.length c1, .slice A2 sf.length c2] 27)) wr) (fun _ _ i _ => xs.length - (intOf i).toNat)
  case atStart => exact ⟨0, none, -1, 0, Nat.zero_le _, rfl, Lib.hid rfl, rfl, rfl, Lib.hid rfl, Lib.hid rfl, hb⟩
  case round =>
    clear hb qq hbw hcc
    obtain ⟨t, r, a1, a2, ht, rfl, Hr, rfl, rfl, Ha1, Ha2, hb⟩ := hrel
    have hbw := (below1 w (.cells #[.int .i64 q, .int .i64 f, .int .i64 k, .slice A1 st.length c1, .slice A2 sf.length c2] 27)).trans (hb.mono (by omega))
    have qq := boxcells hb
    have hsz : w.heap.size + 1 ≤ wr.heap.size := by have := hb.size; simpa using this
    by_cases htl : t < xs.length
    · have h5 := (bcell hbw hb2).trans (hcells t htl)
      have hyG := HG.out t htl
      obtain ⟨y, hy⟩ : ∃ y, y = xs[t] := ⟨_, rfl⟩
      rw [← hy] at h5 hyG
      have hyb := HBD.out t
      have hcn := HCS.out t
      rw [hyG] at hyb hcn
      obtain ⟨cn, hcn2⟩ : ∃ cn, can t = cn := ⟨_, rfl⟩
      rw [hcn2] at hcn
      have HYG := Lib.hid hyG; have HCY := Lib.hid hcn; have HCN := Lib.hid hcn2
      clear hy hyG hcn hcn2
      go_wp2_with fail
      refine (trCan_any q f k A1 A2 st.length c1 sf.length c2 y x _ hyb.2 q60 hxb.1 hx8).mono ?_
      rintro e w5 ⟨rfl, hx5⟩
      rw [HCY.out]
      have hb5 := box_on hb hx5 hsz
      have hbw5 := (below1 w (.cells #[.int .i64 q, .int .i64 f, .int .i64 k, .slice A1 st.length c1, .slice A2 sf.length c2] 27)).trans (hb5.mono (by omega))
      have qq5 := boxcells hb5
      have hsz5 := Nat.le_trans hsz hx5.size
      clear qq
      cases cn
      · go_wp2_with fail
        go_roundw
        case rel => exact ⟨t + 1, r, _, _, by omega, by go_num, Lib.hid ((bestO_no HCN.out).trans Hr.out), rfl, rfl, Ha1, Ha2, hb5⟩
        case measure => simp [intOf]; omega
      · obtain ⟨s, hs⟩ : ∃ s, s = sl t := ⟨_, rfl⟩
        have hs16 : s ≤ 16 := by rw [hs]; exact HS16.out t
        have hse : (s : Int) = ((goL q k st sf (stF q L) P t x).length : Int) := by rw [hs, HSL.out]
        have HSE := Lib.hid hs; have HSI := Lib.hid hse
        clear hs hse
        go_wp2_with fail
        refine (trGo_any q f k A1 A2 _ c1 c2 c3 st sf L P t x _ (h1.go hbw5) (h2.go hbw5) ((h3.below hbw5).more hbw5.size) hc HTT.out HSt.out hlt (by have := HL.out; omega) hxb.1 hx8 (by rw [HYG.out]; exact HCY.out) (s : Int) HSI.out _ rfl).mono ?_
        rintro e w6 ⟨A6, c6, Bk6, C6, rfl, -, hx6⟩
        have hb6 := box_on hb5 hx6 hsz5
        have hbw6 := (below1 w (.cells #[.int .i64 q, .int .i64 f, .int .i64 k, .slice A1 st.length c1, .slice A2 sf.length c2] 27)).trans (hb6.mono (by omega))
        have hcc6 := (bcell hbw6 hbb).trans hcc0.out
        clear qq5 hx6 hx5 h5
        rcases r with _ | ⟨b, m⟩
        · obtain rfl : a1 = -1 := Ha1.out; obtain rfl : a2 = 0 := Ha2.out
          go_wp2_with fail
          go_roundw
          case rel => exact ⟨t + 1, some (t, s), _, _, by omega, by go_num, Lib.hid (bestO_first HCN.out Hr.out HSE.out), rfl, rfl, Lib.hid rfl, Lib.hid rfl, hb6⟩
          case measure => simp [intOf]; omega
        · obtain rfl : a1 = (b : Int) := Ha1.out; obtain rfl : a2 = (m : Int) := Ha2.out
          have hbm := bestO_bd HS16.out Hr.out
          have hb0 : ¬ (b : Int) < 0 := by omega
          by_cases hgt : m < s
          · have hgt' : (m : Int) < (s : Int) := by omega
            go_wp2_with fail
            go_roundw
            case rel => exact ⟨t + 1, some (t, s), _, _, by omega, by go_num, Lib.hid (bestO_more HCN.out Hr.out (.inl (by rw [← HSE.out]; exact hgt)) HSE.out), rfl, rfl, Lib.hid rfl, Lib.hid rfl, hb6⟩
            case measure => simp [intOf]; omega
          · have hgt' : ¬ (m : Int) < (s : Int) := by omega
            by_cases heq : s = m
            · have heq2 := Lib.hid heq
              subst heq
              have hbl : b < xs.length := by omega
              have h6 := (bcell hbw6 hb2).trans (hcells b hbl)
              obtain ⟨z, hz⟩ : ∃ z, z = xs[b] := ⟨_, rfl⟩
              rw [← hz] at h6
              have hzG : stF q L P b = z := by rw [hz]; exact HG.out b hbl
              have HZG := Lib.hid hzG
              clear hz hzG
              by_cases hgz : z < y
              · go_wp2_with fail
                go_roundw
                case rel => exact ⟨t + 1, some (t, s), _, _, by omega, by go_num, Lib.hid (bestO_more HCN.out Hr.out (.inr ⟨HSE.out.symm, by rw [HZG.out, HYG.out]; exact hgz⟩) HSE.out), rfl, rfl, Lib.hid rfl, Lib.hid rfl, hb6⟩
                case measure => simp [intOf]; omega
              · go_wp2_with fail
                go_roundw
                case rel => exact ⟨t + 1, some (b, s), _, _, by omega, by go_num, Lib.hid (bestO_less HCN.out Hr.out (by rw [HZG.out, HYG.out, ← HSE.out]; omega)), rfl, rfl, Lib.hid rfl, Lib.hid rfl, hb6⟩
                case measure => simp [intOf]; omega
            · have heq' : ¬ (s : Int) = (m : Int) := by omega
              go_wp2_with fail
              go_roundw
              case rel => exact ⟨t + 1, some (b, m), _, _, by omega, by go_num, Lib.hid (bestO_less HCN.out Hr.out (by rw [← HSE.out]; omega)), rfl, rfl, Lib.hid rfl, Lib.hid rfl, hb6⟩
              case measure => simp [intOf]; omega
    · obtain rfl : t = xs.length := by omega
      have hrR : R = r := by rw [HRR.out]; exact Hr.out
      subst hrR
      rcases R with _ | ⟨b, m⟩
      · obtain rfl : a1 = -1 := Ha1.out
        go_wp2
        go_ret2
        exact ⟨rfl, hbw⟩
      · obtain rfl : a1 = (b : Int) := Ha1.out
        have hb0 : ¬ (b : Int) < 0 := by omega
        go_wp2
        go_ret2
        exact ⟨rfl, hbw⟩

set_option maxRecDepth 100000 in
set_option maxHeartbeats 2000000 in
theorem implBest_no (q f k : Int) (A1 A2 A3 : Option Addr) (c1 c2 c3 : Nat) (st sf : List Int) (L : List (List Int)) (p x : Int) (w : World) (h1 : RI w w.heap.size A1 st) (h2 : RI w w.heap.size A2 sf) (h3 : RG w w.heap.size A3 L) (hc : st.length ≤ c1) (hr : askB q f k st sf L p 0 x = false) :
    Calls Try.prog 48 #[.agg #[.int .i64 q, .int .i64 f, .int .i64 k, .slice A1 st.length c1, .slice A2 sf.length c2], .slice A3 L.length c3, .int .i64 p, .int .i64 x] w fun e w' => e = .returned (.tuple #[.int .i64 0, .bool false]) ∧ Below w.heap.size w w' := by
  have hl := h1.1
  have hl2 := h2.1
  have hl3 := h3.1
  cases hz : (trkOk q f k st sf && stateB q k st sf L)
  · have HF := Lib.hid hz
    clear hz hr
    have z0 := zeroRing
    have z1 := zeroStand
    go_enter Try.func48, Try.ntmps48
    go_wp2_with fail
    refine (ringAndStand_fail q f k A1 A2 A3 c1 c2 c3 st sf L _ (h1.go (below1 _ _)) (h2.go (below1 _ _)) ((h3.below (below1 _ _)).more (below1 _ _).size) hc HF.out).mono ?_
    rintro e w2 ⟨RV, V, rfl, hRs, hR1, hx⟩
    have hbx := box_on (Below.refl _ _) hx (by simp)
    clear hx
    go_wp2_with (first | (refine wpList_store_row rfl 62 (.tmp 10) _ rfl w2.heap.size rfl _ _ (RV) rfl ((Below.heap_alloc _ _ _ (by simp)).trans (heap_alloc_at _ _ _ rfl)) ?_ ?_ hR1 ?_; (rw [hRs, ring_size]); (rw [hRs]; exact sizeRing); intro w3 hC3 hg3 hs3; have N3 := (hg3.block (w2.heap.size + 1) (by simp) (by simp)).trans (heap_alloc_at _ _ _ (by simp))) | (refine wpList_store_row rfl 68 (.tmp 11) _ rfl (w2.heap.size + 1) rfl _ _ (standC (V)) rfl N3 ?_ ?_ (stand_one _) ?_; (simp only [stand_size]); (rw [stand_size]; exact sizeStand); intro w4 hC4 hg4 hs4))
    have hsz2 : w.heap.size + 1 ≤ w2.heap.size := by have := hbx.size; simpa using this
    have hbx4 : Below (w.heap.size + 1) (w.alloc (.cells #[.int .i64 q, .int .i64 f, .int .i64 k, .slice A1 st.length c1, .slice A2 sf.length c2] 27)) w4 := (((hbx.alloc hsz2 _).alloc (by simp; omega) _).grown hg3 (by simp; omega) (fun k h => by injection h with h; omega)).grown hg4 (by have := hg3.size; simp at this; omega) (fun k h => by injection h with h; omega)
    have hb4 : Below w.heap.size w w4 := (below1 w _).trans (hbx4.mono (by omega))
    go_ret2
    exact ⟨rfl, hb4⟩
  have hTS := state_is hz
  have k1 := hTS.1.k1
  have h0 : inB 0 0 (k - 1) = true := inB_iff.2 ⟨by omega, by omega⟩
  rw [askB, hz, Bool.true_and, mvB, h0, Bool.and_true] at hr
  rw [Bool.and_eq_true] at hz
  have HZ := Lib.hid hz.1; have HS := Lib.hid hz.2
  clear hz hTS h0
  cases hp : inB p 0 ((st.length : Int) - 1)
  · have HP := Lib.hid hp
    clear hp hr
    have z0 := zeroRing
    have z1 := zeroStand
    go_enter Try.func48, Try.ntmps48
    go_wp2_with fail
    refine (ringAndStand_in q f k A1 A2 A3 c1 c2 c3 st sf L _ (h1.go (below1 _ _)) (h2.go (below1 _ _)) ((h3.below (below1 _ _)).more (below1 _ _).size) hc HZ.out).mono ?_
    rintro e w2 ⟨V, rfl, hV, hx⟩
    rw [HS.out] at hV ⊢
    obtain rfl := hV rfl
    clear hV
    have hbx := box_on (Below.refl _ _) hx (by simp)
    clear hx
    go_wp2_with (first | (refine wpList_store_row rfl 62 (.tmp 10) _ rfl w2.heap.size rfl _ _ (ringC q f k A1 st.length c1 (safeB sf)) rfl ((Below.heap_alloc _ _ _ (by simp)).trans (heap_alloc_at _ _ _ rfl)) ?_ ?_ ring_one ?_; (simp only [ring_size]); (rw [ring_size]; exact sizeRing); intro w3 hC3 hg3 hs3; have N3 := (hg3.block (w2.heap.size + 1) (by simp) (by simp)).trans (heap_alloc_at _ _ _ (by simp))) | (refine wpList_store_row rfl 68 (.tmp 11) _ rfl (w2.heap.size + 1) rfl _ _ (standC (stF q L)) rfl N3 ?_ ?_ (stand_one _) ?_; (simp only [stand_size]); (rw [stand_size]; exact sizeStand); intro w4 hC4 hg4 hs4) | (go_at_call 59; refine (hasPlayer_any _ _ _ _ _ _ _ _ _ (show RA w4 w2.heap.size 62 q f k A1 st.length c1 (safeB sf) from (hg4.block _ (heap_lt hC3) (by simp)).trans hC3) _ hl).mono ?_; rintro e w' ⟨rfl, rfl⟩; rw [HP.out]))
    have hsz2 : w.heap.size + 1 ≤ w2.heap.size := by have := hbx.size; simpa using this
    have hbx4 : Below (w.heap.size + 1) (w.alloc (.cells #[.int .i64 q, .int .i64 f, .int .i64 k, .slice A1 st.length c1, .slice A2 sf.length c2] 27)) w4 := (((hbx.alloc hsz2 _).alloc (by simp; omega) _).grown hg3 (by simp; omega) (fun k h => by injection h with h; omega)).grown hg4 (by have := hg3.size; simp at this; omega) (fun k h => by injection h with h; omega)
    have hb4 : Below w.heap.size w w4 := (below1 w _).trans (hbx4.mono (by omega))
    have K4 : RA w4 w2.heap.size 62 q f k A1 st.length c1 (safeB sf) := (hg4.block _ (heap_lt hC3) (by simp)).trans hC3
    have E4 : DA w4 (w2.heap.size + 1) 68 (stF q L) := hC4
    go_ret2
    exact ⟨rfl, hb4⟩
  · have hx0 : inB x 1 f = false := by rw [hp, Bool.true_and] at hr; exact hr
    have HP := Lib.hid hp; have HX := Lib.hid hx0
    clear hp hr hx0
    have z0 := zeroRing
    have z1 := zeroStand
    go_enter Try.func48, Try.ntmps48
    go_wp2_with fail
    refine (ringAndStand_in q f k A1 A2 A3 c1 c2 c3 st sf L _ (h1.go (below1 _ _)) (h2.go (below1 _ _)) ((h3.below (below1 _ _)).more (below1 _ _).size) hc HZ.out).mono ?_
    rintro e w2 ⟨V, rfl, hV, hx⟩
    rw [HS.out] at hV ⊢
    obtain rfl := hV rfl
    clear hV
    have hbx := box_on (Below.refl _ _) hx (by simp)
    clear hx
    go_wp2_with (first | (refine wpList_store_row rfl 62 (.tmp 10) _ rfl w2.heap.size rfl _ _ (ringC q f k A1 st.length c1 (safeB sf)) rfl ((Below.heap_alloc _ _ _ (by simp)).trans (heap_alloc_at _ _ _ rfl)) ?_ ?_ ring_one ?_; (simp only [ring_size]); (rw [ring_size]; exact sizeRing); intro w3 hC3 hg3 hs3; have N3 := (hg3.block (w2.heap.size + 1) (by simp) (by simp)).trans (heap_alloc_at _ _ _ (by simp))) | (refine wpList_store_row rfl 68 (.tmp 11) _ rfl (w2.heap.size + 1) rfl _ _ (standC (stF q L)) rfl N3 ?_ ?_ (stand_one _) ?_; (simp only [stand_size]); (rw [stand_size]; exact sizeStand); intro w4 hC4 hg4 hs4) | (go_at_call 59; refine (hasPlayer_any _ _ _ _ _ _ _ _ _ (show RA w4 w2.heap.size 62 q f k A1 st.length c1 (safeB sf) from (hg4.block _ (heap_lt hC3) (by simp)).trans hC3) _ hl).mono ?_; rintro e w' ⟨rfl, rfl⟩; rw [HP.out]) | (go_at_call 70; refine (hasFace_any _ _ _ _ _ _ _ _ _ (show RA w4 w2.heap.size 62 q f k A1 st.length c1 (safeB sf) from (hg4.block _ (heap_lt hC3) (by simp)).trans hC3) _).mono ?_; rintro e w' ⟨rfl, rfl⟩; rw [HX.out]))
    have hsz2 : w.heap.size + 1 ≤ w2.heap.size := by have := hbx.size; simpa using this
    have hbx4 : Below (w.heap.size + 1) (w.alloc (.cells #[.int .i64 q, .int .i64 f, .int .i64 k, .slice A1 st.length c1, .slice A2 sf.length c2] 27)) w4 := (((hbx.alloc hsz2 _).alloc (by simp; omega) _).grown hg3 (by simp; omega) (fun k h => by injection h with h; omega)).grown hg4 (by have := hg3.size; simp at this; omega) (fun k h => by injection h with h; omega)
    have hb4 : Below w.heap.size w w4 := (below1 w _).trans (hbx4.mono (by omega))
    have K4 : RA w4 w2.heap.size 62 q f k A1 st.length c1 (safeB sf) := (hg4.block _ (heap_lt hC3) (by simp)).trans hC3
    have E4 : DA w4 (w2.heap.size + 1) 68 (stF q L) := hC4
    go_ret2
    exact ⟨rfl, hb4⟩

set_option maxRecDepth 100000 in
set_option maxHeartbeats 4000000 in
theorem implBest_yes (q f k : Int) (A1 A2 A3 : Option Addr) (c1 c2 c3 : Nat) (st sf : List Int) (L : List (List Int)) (p x : Int) (w : World) (h1 : RI w w.heap.size A1 st) (h2 : RI w w.heap.size A2 sf) (h3 : RG w w.heap.size A3 L) (hc : st.length ≤ c1) (hr : askB q f k st sf L p 0 x = true) (R : Option (Nat × Nat)) (hR : R = bestO (fun t => canB q f (stF q L p.toNat t) x) (fun t => (goL q k st sf (stF q L) p.toNat t x).length) (stF q L p.toNat) k.toNat) :
    Calls Try.prog 48 #[.agg #[.int .i64 q, .int .i64 f, .int .i64 k, .slice A1 st.length c1, .slice A2 sf.length c2], .slice A3 L.length c3, .int .i64 p, .int .i64 x] w fun e w' => e = .returned (.tuple #[.int .i64 (imB R), .bool R.isSome]) ∧ Below w.heap.size w w' := by
  have hl := h1.1
  have hl2 := h2.1
  have hl3 := h3.1
  have hTS := state_is (Bool.and_eq_true_iff.1 hr).1
  have hTT := hTS.1
  obtain ⟨q4, q60, f1, f8, k1, k4, n2, n4, st0, sf0, sfl⟩ := hTS.1
  have hSt := hTS.2
  have hmv := (Bool.and_eq_true_iff.1 hr).2
  rw [mvB, Bool.and_eq_true, Bool.and_eq_true, inB_iff, inB_iff, inB_iff] at hmv
  obtain ⟨⟨hpb, -⟩, hxb⟩ := hmv
  have hx8 : x ≤ 8 := by omega
  obtain ⟨P, hP⟩ := Int.eq_ofNat_of_zero_le hpb.1
  subst hP
  have hlt : P < L.length := by have := hSt.len; omega
  have hrl := hSt.row P hlt
  have hrv := hSt.val P hlt
  have hG : ∀ t (h : t < L[P].length), stF q L P t = L[P][t] := fun t h => stF_at hlt h
  have hbd : ∀ t, -1 ≤ stF q L P t ∧ stF q L P t ≤ q := fun t => stF_bd hSt (by omega) P t
  have hmv := (Bool.and_eq_true_iff.1 hr).2
  rw [mvB, Bool.and_eq_true, Bool.and_eq_true] at hmv
  have HP := Lib.hid hmv.1.1; have HX := Lib.hid hmv.2
  rw [Int.toNat_natCast] at hR
  have hz := (Bool.and_eq_true_iff.1 hr).1
  rw [Bool.and_eq_true] at hz
  have HZ := Lib.hid hz.1; have HS := Lib.hid hz.2
  have hPn : P < st.length := by omega
  have hP4 : P < 4 := by omega
  have hP4i : (P : Int) < 4 := by omega
  have hout : ∀ t : Nat, k.toNat ≤ t → stF q L P t = q := fun t h => by simp [stF, hlt, show ¬ t < L[P].length by omega]
  obtain ⟨can, hcan⟩ : ∃ can : Nat → Bool, can = fun t => canB q f (stF q L P t) x := ⟨_, rfl⟩
  obtain ⟨sl, hsl⟩ : ∃ sl : Nat → Nat, sl = fun t => (goL q k st sf (stF q L) P t x).length := ⟨_, rfl⟩
  have hs16 : ∀ i, sl i ≤ 16 := fun i => by rw [hsl]; exact goL_len n4 k4
  have hcs : ∀ t, canB q f (stF q L P t) x = can t := fun t => by rw [hcan]
  have hse : ∀ t, (goL q k st sf (stF q L) P t x).length = sl t := fun t => by rw [hsl]
  rw [← hcan, ← hsl] at hR
  have hR4 : R = bestO can sl (stF q L P) 4 := by
    rw [hR]
    refine (bestO_stop (fun t ht => ?_) (by omega)).symm
    rw [← hcs, hout t ht, canB, if_neg (by omega)]
    simp
  obtain ⟨y0, hy0⟩ : ∃ y, y = stF q L P 0 := ⟨_, rfl⟩
  obtain ⟨y1, hy1⟩ : ∃ y, y = stF q L P 1 := ⟨_, rfl⟩
  obtain ⟨y2, hy2⟩ : ∃ y, y = stF q L P 2 := ⟨_, rfl⟩
  obtain ⟨y3, hy3⟩ : ∃ y, y = stF q L P 3 := ⟨_, rfl⟩
  have hidx : ∀ t : Nat, t < 4 → ∀ w, (Instr.index 66 (.agg #[.int .i64 y0, .int .i64 y1, .int .i64 y2, .int .i64 y3]) (.int .i64 (t : Int))).run Try.prog w = .ok (.int .i64 (stF q L P t)) w := fun t ht w => by
    rcases (show t = 0 ∨ t = 1 ∨ t = 2 ∨ t = 3 by omega) with rfl | rfl | rfl | rfl
    · rw [← hy0]; exact row4_0 y0 y1 y2 y3 w
    · rw [← hy1]; exact row4_1 y0 y1 y2 y3 w
    · rw [← hy2]; exact row4_2 y0 y1 y2 y3 w
    · rw [← hy3]; exact row4_3 y0 y1 y2 y3 w
  have HY0 := Lib.hid hy0; have HY1 := Lib.hid hy1; have HY2 := Lib.hid hy2; have HY3 := Lib.hid hy3
  have HBD := Lib.hid hbd; have HS16 := Lib.hid hs16; have HCS := Lib.hid hcs; have HSL := Lib.hid hse; have HRR := Lib.hid hR4; have HIX := Lib.hid hidx
  clear hrl hrv hG hSt hTS hr hz hmv hlt hout hcan hsl hs16 hcs hse hR hR4 hy0 hy1 hy2 hy3 hidx hbd hTT
  have z0 := zeroRing
  have z1 := zeroStand
  go_enter Try.func48, Try.ntmps48
  go_wp2_with fail
  refine (ringAndStand_in q f k A1 A2 A3 c1 c2 c3 st sf L _ (h1.go (below1 _ _)) (h2.go (below1 _ _)) ((h3.below (below1 _ _)).more (below1 _ _).size) hc HZ.out).mono ?_
  rintro e w2 ⟨V, rfl, hV, hx⟩
  rw [HS.out] at hV ⊢
  obtain rfl := hV rfl
  clear hV
  have hbx := box_on (Below.refl _ _) hx (by simp)
  clear hx
  go_wp2_with (first | (refine wpList_store_row rfl 62 (.tmp 10) _ rfl w2.heap.size rfl _ _ (ringC q f k A1 st.length c1 (safeB sf)) rfl ((Below.heap_alloc _ _ _ (by simp)).trans (heap_alloc_at _ _ _ rfl)) ?_ ?_ ring_one ?_; (simp only [ring_size]); (rw [ring_size]; exact sizeRing); intro w3 hC3 hg3 hs3; have N3 := (hg3.block (w2.heap.size + 1) (by simp) (by simp)).trans (heap_alloc_at _ _ _ (by simp))) | (refine wpList_store_row rfl 68 (.tmp 11) _ rfl (w2.heap.size + 1) rfl _ _ (standC (stF q L)) rfl N3 ?_ ?_ (stand_one _) ?_; (simp only [stand_size]); (rw [stand_size]; exact sizeStand); intro w4 hC4 hg4 hs4) | (go_at_call 59; refine (hasPlayer_any _ _ _ _ _ _ _ _ _ (show RA w4 w2.heap.size 62 q f k A1 st.length c1 (safeB sf) from (hg4.block _ (heap_lt hC3) (by simp)).trans hC3) _ hl).mono ?_; rintro e w' ⟨rfl, rfl⟩; rw [HP.out]))
  have hsz2 : w.heap.size + 1 ≤ w2.heap.size := by have := hbx.size; simpa using this
  have hbx4 : Below (w.heap.size + 1) (w.alloc (.cells #[.int .i64 q, .int .i64 f, .int .i64 k, .slice A1 st.length c1, .slice A2 sf.length c2] 27)) w4 := (((hbx.alloc hsz2 _).alloc (by simp; omega) _).grown hg3 (by simp; omega) (fun k h => by injection h with h; omega)).grown hg4 (by have := hg3.size; simp at this; omega) (fun k h => by injection h with h; omega)
  have hb4 : Below w.heap.size w w4 := (below1 w _).trans (hbx4.mono (by omega))
  have K4 : RA w4 w2.heap.size 62 q f k A1 st.length c1 (safeB sf) := (hg4.block _ (heap_lt hC3) (by simp)).trans hC3
  have E4 : DA w4 (w2.heap.size + 1) 68 (stF q L) := hC4
  refine (hasFace_any _ _ _ _ _ _ _ _ _ K4 _).mono ?_
  rintro e w' ⟨rfl, rfl⟩
  rw [HX.out]
  have hB : Below w4.heap.size w4 w4 := Below.refl _ _
  have d0 : w4.cell? ⟨w2.heap.size + 1, P * 4, none⟩ = some (.int .i64 y0) := by rw [HY0.out]; exact E4.at_ hP4 (show 0 < 4 by omega)
  have d1 : w4.cell? ⟨w2.heap.size + 1, P * 4 + 1, none⟩ = some (.int .i64 y1) := by rw [HY1.out]; exact E4.at_ hP4 (show 1 < 4 by omega)
  have d2 : w4.cell? ⟨w2.heap.size + 1, P * 4 + 2, none⟩ = some (.int .i64 y2) := by rw [HY2.out]; exact E4.at_ hP4 (show 2 < 4 by omega)
  have d3 : w4.cell? ⟨w2.heap.size + 1, P * 4 + 3, none⟩ = some (.int .i64 y3) := by rw [HY3.out]; exact E4.at_ hP4 (show 3 < 4 by omega)
  clear hbx hbx4 hC3 hC4 hg3 hg4 N3 hs3 hs4
  go_wp2_with fail
  go_loopw [13, 14, 15, 43] (fun v1 v2 v3 i wr => ∃ (t : Nat) (r : Option (Nat × Nat)) (a1 a2 : Int) (a3 : Bool), t ≤ 4 ∧ i = .int .i64 t ∧ Hid (bestO can sl (stF q L P) t = r) ∧ v1 = .int .i64 a1 ∧ v2 = .int .i64 a2 ∧ v3 = .bool a3 ∧ Hid (a1 = imB r) ∧ Hid (a2 = spM r) ∧ Hid (a3 = r.isSome) ∧ Below w4.heap.size w4 wr) (fun _ _ _ i _ => 4 - (intOf i).toNat)
  case atStart => exact ⟨0, none, 0, 0, false, Nat.zero_le _, rfl, Lib.hid rfl, rfl, rfl, rfl, Lib.hid rfl, Lib.hid rfl, Lib.hid rfl, hB⟩
  case round =>
    clear hB d0 d1 d2 d3
    obtain ⟨t, r, a1, a2, a3, ht, rfl, Hr, rfl, rfl, rfl, Ha1, Ha2, Ha3, hB⟩ := hrel
    have hbw := hb4.trans (hB.mono hb4.size)
    have hsz := hB.size
    by_cases htl : t < 4
    · have hti : (t : Int) < 4 := by omega
      have Kr := K4.below hB K4.lt
      have Er := E4.below hB E4.lt
      have hix := HIX.out t htl
      have hyb := HBD.out t
      obtain ⟨y, hy⟩ : ∃ y, y = stF q L P t := ⟨_, rfl⟩
      have hyG : stF q L P t = y := hy.symm
      rw [← hy] at hix
      obtain ⟨cn, hcn⟩ : ∃ cn, can t = cn := ⟨_, rfl⟩
      have hcb : canB q f (stF q L P t) x = cn := by rw [HCS.out, hcn]
      obtain ⟨s, hs⟩ : ∃ s, s = sl t := ⟨_, rfl⟩
      have hs16 : s ≤ 16 := by rw [hs]; exact HS16.out t
      obtain ⟨V, m0, hv0, hvv⟩ : ∃ (V : Nat → Nat → Int) (m0 : Int), (cn = false → V = stF q L ∧ m0 = 0) ∧ (cn = true → V = goF q k st sf (stF q L) P t x ∧ m0 = ((goL q k st sf (stF q L) P t x).length : Int)) := by
        cases cn
        · exact ⟨_, _, fun _ => ⟨rfl, rfl⟩, fun h => by cases h⟩
        · exact ⟨_, _, fun h => (by cases h), fun _ => ⟨rfl, rfl⟩⟩
      have hm0 : cn = true → m0 = (s : Int) := fun h => by rw [(hvv h).2, hs, ← HSL.out]
      have HYG := Lib.hid hyG; have HCN := Lib.hid hcn; have HCB := Lib.hid hcb; have HSE := Lib.hid hs; have HV0 := Lib.hid hv0; have HV1 := Lib.hid hvv
      clear hy hyG hcn hcb hs hv0 hvv
      go_wp2_with (first | (refine wpList_load_row rfl 68 (.tmp 11) rfl (w2.heap.size + 1) rfl _ _ _ _ Er Try.underlying68 rfl ?_ ?_; (rw [stand_size]; exact sizeStand)))
      refine (behind_any _ q f k A1 c1 st sf _ Kr (h1.go hbw) (stF q L) P t x q4 q60 k1 k4 n4 st0 hPn htl hyb.1 hyb.2 hxb.1 hx8 V m0 cn HCB.out HV0.out HV1.out).mono ?_
      rintro e w6 ⟨rfl, hx6⟩
      cases cn
      · clear hm0
        go_wp2_with (first | (refine wpList_store_row rfl 68 (.tmp 18) _ rfl w6.heap.size rfl _ _ (standC V) rfl (heap_alloc_at w6 _ _ rfl) ?_ ?_ (stand_one _) ?_; (simp only [stand_size]); (rw [stand_size]; exact sizeStand); intro w7 hC7 hg7 hs7))
        have hx7 : Below wr.heap.size wr w7 := hx6.trans ((((Below.refl w6.heap.size w6).alloc (Nat.le_refl _) _).grown hg7 (by simp) (fun k h => by injection h with h; omega)).mono hx6.size)
        go_roundw
        case rel => exact ⟨t + 1, r, _, _, _, by omega, by go_num, Lib.hid ((bestO_no HCN.out).trans Hr.out), rfl, rfl, rfl, Ha1, Ha2, Ha3, hB.trans (hx7.mono hsz)⟩
        case measure => simp [intOf]; omega
      · obtain rfl := hm0 rfl
        clear hm0
        have hg6 : Below w6.heap.size w6 w6 := Below.refl _ _
        have E6 : DA w6 (w2.heap.size + 1) 68 (stF q L) := Er.below hx6 Er.lt
        rcases r with _ | ⟨b, m⟩
        · obtain rfl : a1 = 0 := Ha1.out; obtain rfl : a2 = 0 := Ha2.out; obtain rfl : a3 = false := Ha3.out
          go_wp2_with (first | (refine wpList_store_row rfl 68 (.tmp 18) _ rfl w6.heap.size rfl _ _ (standC V) rfl (heap_alloc_at w6 _ _ rfl) ?_ ?_ (stand_one _) ?_; (simp only [stand_size]); (rw [stand_size]; exact sizeStand); intro w7 hC7 hg7 hs7; clear hs7; have hx7 : Below wr.heap.size wr w7 := hx6.trans ((((Below.refl w6.heap.size w6).alloc (Nat.le_refl _) _).grown hg7 (by simp) (fun k h => by injection h with h; omega)).mono hx6.size)))
          go_roundw
          case rel => exact ⟨t + 1, some (t, s), _, _, _, by omega, by go_num, Lib.hid (bestO_first HCN.out Hr.out HSE.out), rfl, rfl, rfl, Lib.hid rfl, Lib.hid rfl, Lib.hid rfl, hB.trans (hx7.mono hsz)⟩
          case measure => simp [intOf]; omega
        · obtain rfl : a1 = (b : Int) := Ha1.out; obtain rfl : a2 = (m : Int) := Ha2.out; obtain rfl : a3 = true := Ha3.out
          have hbm := bestO_bd HS16.out Hr.out
          have hb0 : ¬ (b : Int) < 0 := by omega
          by_cases hgt : m < s
          · have hgt' : (m : Int) < (s : Int) := by omega
            go_wp2_with (first | (refine wpList_store_row rfl 68 (.tmp 18) _ rfl w6.heap.size rfl _ _ (standC V) rfl (heap_alloc_at w6 _ _ rfl) ?_ ?_ (stand_one _) ?_; (simp only [stand_size]); (rw [stand_size]; exact sizeStand); intro w7 hC7 hg7 hs7; clear hs7; have hx7 : Below wr.heap.size wr w7 := hx6.trans ((((Below.refl w6.heap.size w6).alloc (Nat.le_refl _) _).grown hg7 (by simp) (fun k h => by injection h with h; omega)).mono hx6.size)))
            go_roundw
            case rel => exact ⟨t + 1, some (t, s), _, _, _, by omega, by go_num, Lib.hid (bestO_more HCN.out Hr.out (.inl (by rw [← HSE.out]; exact hgt)) HSE.out), rfl, rfl, rfl, Lib.hid rfl, Lib.hid rfl, Lib.hid rfl, hB.trans (hx7.mono hsz)⟩
            case measure => simp [intOf]; omega
          · have hgt' : ¬ (m : Int) < (s : Int) := by omega
            by_cases heq : s = m
            · have heq2 := Lib.hid heq
              subst heq
              have hb4' : b < 4 := by omega
              have hb4i : (b : Int) < 4 := by omega
              have h6 := Er.at_ hP4 hb4'
              obtain ⟨z, hz⟩ : ∃ z, z = stF q L P b := ⟨_, rfl⟩
              rw [← hz] at h6
              have hzG : stF q L P b = z := hz.symm
              have HZG := Lib.hid hzG
              clear hz hzG
              by_cases hgz : z < y
              · go_wp2_with (first | (refine wpList_store_row rfl 68 (.tmp 18) _ rfl w6.heap.size rfl _ _ (standC V) rfl (heap_alloc_at w6 _ _ rfl) ?_ ?_ (stand_one _) ?_; (simp only [stand_size]); (rw [stand_size]; exact sizeStand); intro w7 hC7 hg7 hs7; clear hs7; have hx7 : Below wr.heap.size wr w7 := hx6.trans ((((Below.refl w6.heap.size w6).alloc (Nat.le_refl _) _).grown hg7 (by simp) (fun k h => by injection h with h; omega)).mono hx6.size); have h7 := (bcell hx7 Er.lt).trans h6))
                go_roundw
                case rel => exact ⟨t + 1, some (t, s), _, _, _, by omega, by go_num, Lib.hid (bestO_more HCN.out Hr.out (.inr ⟨HSE.out.symm, by rw [HZG.out, HYG.out]; exact hgz⟩) HSE.out), rfl, rfl, rfl, Lib.hid rfl, Lib.hid rfl, Lib.hid rfl, hB.trans (hx7.mono hsz)⟩
                case measure => simp [intOf]; omega
              · go_wp2_with (first | (refine wpList_store_row rfl 68 (.tmp 18) _ rfl w6.heap.size rfl _ _ (standC V) rfl (heap_alloc_at w6 _ _ rfl) ?_ ?_ (stand_one _) ?_; (simp only [stand_size]); (rw [stand_size]; exact sizeStand); intro w7 hC7 hg7 hs7; clear hs7; have hx7 : Below wr.heap.size wr w7 := hx6.trans ((((Below.refl w6.heap.size w6).alloc (Nat.le_refl _) _).grown hg7 (by simp) (fun k h => by injection h with h; omega)).mono hx6.size); have h7 := (bcell hx7 Er.lt).trans h6))
                go_roundw
                case rel => exact ⟨t + 1, some (b, s), _, _, _, by omega, by go_num, Lib.hid (bestO_less HCN.out Hr.out (by rw [HZG.out, HYG.out, ← HSE.out]; omega)), rfl, rfl, rfl, Lib.hid rfl, Lib.hid rfl, Lib.hid rfl, hB.trans (hx7.mono hsz)⟩
                case measure => simp [intOf]; omega
            · have heq' : ¬ (s : Int) = (m : Int) := by omega
              go_wp2_with (first | (refine wpList_store_row rfl 68 (.tmp 18) _ rfl w6.heap.size rfl _ _ (standC V) rfl (heap_alloc_at w6 _ _ rfl) ?_ ?_ (stand_one _) ?_; (simp only [stand_size]); (rw [stand_size]; exact sizeStand); intro w7 hC7 hg7 hs7; clear hs7; have hx7 : Below wr.heap.size wr w7 := hx6.trans ((((Below.refl w6.heap.size w6).alloc (Nat.le_refl _) _).grown hg7 (by simp) (fun k h => by injection h with h; omega)).mono hx6.size)))
              go_roundw
              case rel => exact ⟨t + 1, some (b, m), _, _, _, by omega, by go_num, Lib.hid (bestO_less HCN.out Hr.out (by rw [← HSE.out]; omega)), rfl, rfl, rfl, Lib.hid rfl, Lib.hid rfl, Lib.hid rfl, hB.trans (hx7.mono hsz)⟩
              case measure => simp [intOf]; omega
    · obtain rfl : t = 4 := by omega
      have hrR : R = r := by rw [HRR.out]; exact Hr.out
      subst hrR
      go_wp2
      go_ret2
      exact ⟨by rw [Ha1.out, Ha3.out]; rfl, hbw⟩

theorem bestToken_both (q f k : Int) (st sf : List Int) (L : List (List Int)) (p x : Int) : ∃ (y : Int) (ok : Bool),
    (∀ (A1 A2 : Option Addr) (c1 c2 : Nat) (A3 : Option Addr) (c3 : Nat) (w : World), RI w w.heap.size A1 st → RI w w.heap.size A2 sf → st.length ≤ c1 → RG w w.heap.size A3 L → Calls Try.prog 47 #[.agg #[.int .i64 q, .int .i64 f, .int .i64 k, .slice A1 st.length c1, .slice A2 sf.length c2], .slice A3 L.length c3, .int .i64 p, .int .i64 x] w fun e w' => e = .returned (.tuple #[.int .i64 y, .bool ok]) ∧ Below w.heap.size w w') ∧
    (∀ (A1 A2 : Option Addr) (c1 c2 : Nat) (A3 : Option Addr) (c3 : Nat) (w : World), RI w w.heap.size A1 st → RI w w.heap.size A2 sf → st.length ≤ c1 → RG w w.heap.size A3 L → Calls Try.prog 48 #[.agg #[.int .i64 q, .int .i64 f, .int .i64 k, .slice A1 st.length c1, .slice A2 sf.length c2], .slice A3 L.length c3, .int .i64 p, .int .i64 x] w fun e w' => e = .returned (.tuple #[.int .i64 y, .bool ok]) ∧ Below w.heap.size w w') := by
  cases h : askB q f k st sf L p 0 x
  · exact ⟨0, false, fun A1 A2 c1 c2 A3 c3 w a b c d => specBest_any q f k A1 A2 A3 c1 c2 c3 st sf L p x w a b d c _ none h (fun _ => rfl) (fun e => by cases e), fun A1 A2 c1 c2 A3 c3 w a b c d => implBest_no q f k A1 A2 A3 c1 c2 c3 st sf L p x w a b d c h⟩
  · exact ⟨_, _, fun A1 A2 c1 c2 A3 c3 w a b c d => specBest_any q f k A1 A2 A3 c1 c2 c3 st sf L p x w a b d c _ _ h (fun e => by cases e) (fun _ => rfl), fun A1 A2 c1 c2 A3 c3 w a b c d => implBest_yes q f k A1 A2 A3 c1 c2 c3 st sf L p x w a b d c h _ rfl⟩

end Go.Proofs.Ytpecocmgclancaa

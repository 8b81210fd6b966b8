/-
  Races: the model's FirstWin.
-/
import Derived.Test.YtknclgfjoajldabC4u
import Derived.Test.YtknclgfjoajldabM27
namespace Go.Proofs.Ytknclgfjoajldab
open Go.RowKit

/-- All seven cells of a race's box are written. -/
theorem heap7 (w : World) (g : Nat) (a0 a1 a2 a3 a4 a5 a6 b0 b1 b2 b3 b4 b5 b6 : Value) (t : TypeId) (h : w.heap[g]? = some (.cells #[a0, a1, a2, a3, a4, a5, a6] t (0, 0))) :
    (((((((w.setCell ⟨g, 0, none⟩ b0).setCell ⟨g, 1, none⟩ b1).setCell ⟨g, 2, none⟩ b2).setCell ⟨g, 3, none⟩ b3).setCell ⟨g, 4, none⟩ b4).setCell ⟨g, 5, none⟩ b5).setCell ⟨g, 6, none⟩ b6).heap[g]? = some (.cells #[b0, b1, b2, b3, b4, b5, b6] t (0, 0)) := by
  have h1 := heap_set _ g 6 _ t b6 (heap_set _ g 5 _ t b5 (heap_set _ g 4 _ t b4 (heap_set _ g 3 _ t b3 (heap_set _ g 2 _ t b2 (heap_set _ g 1 _ t b1 (heap_set w g 0 _ t b0 h))))))
  simp only [List.setIfInBounds_toArray, List.set_cons_zero, List.set_cons_succ] at h1
  exact h1
theorem own7 {w : World} {base e size n m : Nat} {v : Value} {xs : List Value} (h : w.ownsRow base e size v m xs) (hn : n < base) (b0 b1 b2 b3 b4 b5 b6 : Value) :
    (((((((w.setCell ⟨n, 0, none⟩ b0).setCell ⟨n, 1, none⟩ b1).setCell ⟨n, 2, none⟩ b2).setCell ⟨n, 3, none⟩ b3).setCell ⟨n, 4, none⟩ b4).setCell ⟨n, 5, none⟩ b5).setCell ⟨n, 6, none⟩ b6).ownsRow base e size v m xs :=
  ownsRow_setCell_below (ownsRow_setCell_below (ownsRow_setCell_below (ownsRow_setCell_below (ownsRow_setCell_below (ownsRow_setCell_below (ownsRow_setCell_below h hn b0) hn b1) hn b2) hn b3) hn b4) hn b5) hn b6
theorem row7 {w : World} {g n m : Nat} {t : TypeId} {F : Nat → Int} (h : RowI w g t m F) (hn : g ≠ n) (b0 b1 b2 b3 b4 b5 b6 : Value) :
    RowI (((((((w.setCell ⟨n, 0, none⟩ b0).setCell ⟨n, 1, none⟩ b1).setCell ⟨n, 2, none⟩ b2).setCell ⟨n, 3, none⟩ b3).setCell ⟨n, 4, none⟩ b4).setCell ⟨n, 5, none⟩ b5).setCell ⟨n, 6, none⟩ b6) g t m F :=
  ((((((h.far (p := ⟨n, 0, none⟩) hn b0).far (p := ⟨n, 1, none⟩) hn b1).far (p := ⟨n, 2, none⟩) hn b2).far (p := ⟨n, 3, none⟩) hn b3).far (p := ⟨n, 4, none⟩) hn b4).far (p := ⟨n, 5, none⟩) hn b5).far (p := ⟨n, 6, none⟩) hn b6

set_option maxRecDepth 100000 in
theorem specFirstWin_no (s f o me fi ot who : Int) (A : Option Addr) (c : Nat) (js : List (Int × Int)) (w : World) (hj : RJ w w.heap.size A js) (hr : askedR s f o js me fi ot 0 who = false) :
    Calls Try.prog 29 #[.agg #[.int .i64 s, .int .i64 f, .int .i64 o, .slice A js.length c, .int .i64 me, .int .i64 fi, .int .i64 ot], .int .i64 who] w (IntsBack w ([], false)) := by
  have hl := hj.1
  have hw0 : Below w.heap.size w (w.alloc (.cells #[.int .i64 s, .int .i64 f, .int .i64 o, .slice A js.length c, .int .i64 me, .int .i64 fi, .int .i64 ot] 48)) := below1 _ _
  go_enter Try.func29, Try.ntmps29
  go_wp2_with (go_at_call 47; refine (raAsked_any _ _ _ _ _ _ _ _ _ _ _ _ ((hj.below hw0).more (by simp))).mono ?_; rintro e w1 ⟨rfl, hx⟩; rw [hr])
  go_ret2
  exact ⟨none, 0, rfl, .inl rfl, hw0.trans (hx.mono (by simp))⟩

set_option maxRecDepth 100000 in
set_option maxHeartbeats 3000000 in
theorem specFirstWin_yes (s f o me who : Int) (xf yo : Nat) (A : Option Addr) (c : Nat) (js : List (Int × Int)) (R : List Int × Bool) (w : World) (hj : RJ w w.heap.size A js) (hr : askedR s f o js me xf yo 0 who = true)
    (hR : WinR (nxP s o js me) (wonQ s) f.toNat who (cd (s.toNat + 1) xf yo 0) R) :
    Calls Try.prog 29 #[.agg #[.int .i64 s, .int .i64 f, .int .i64 o, .slice A js.length c, .int .i64 me, .int .i64 xf, .int .i64 yo], .int .i64 who] w (IntsBack w R) := by
  have hl := hj.1
  have hr0 : raceOk s f o js me xf yo = true ∧ 1 ≤ who ∧ who ≤ 2 := by
    unfold askedR at hr
    simp only [Bool.and_eq_true] at hr
    obtain ⟨h1, _, h2⟩ := hr
    unfold inB at h2
    simp at h2
    exact ⟨h1, by omega, by omega⟩
  obtain ⟨hrc, hw1, hw2⟩ := hr0
  obtain ⟨hgd, h40, _, ho1, ho2, _⟩ := raceOk_parts hrc
  have hsx := sqR_of ho1
  have hsy := sqR_of ho2
  have hxs := hsx.2.1
  have hys := hsy.2.1
  have hok0 := okQ_cd (t := 0) hsx hsy (by omega)
  simp only [Int.toNat_natCast] at hok0
  have hq0n := okQ_lt hok0
  have hs1 : 1 ≤ s := by have := (good_sizes hgd).1.1; omega
  have hmu : muQ s (cd (s.toNat + 1) xf yo 0) = cd (s.toNat + 1) xf yo 0 := by
    unfold muQ
    split
    · unfold cd; omega
    · rfl
  have hwin : ∀ ys, WinL (nxS s o js me) (wonQ s) f.toNat who (cd (s.toNat + 1) xf yo 0) ys ↔ WinL (nxP s o js me) (wonQ s) f.toNat who (cd (s.toNat + 1) xf yo 0) ys := fun ys => by
    have := win_both (s := s) (o := o) (js := js) (me := me) (m := f.toNat) (who := who) ys (cd (s.toNat + 1) xf yo 0)
    rwa [hmu] at this
  have HA := Lib.hid hr; have HRC := Lib.hid hrc; have HR := Lib.hid hR; have HWIN := Lib.hid hwin; have HQN := Lib.hid hq0n
  have HG := Lib.hid hgd; have HOK := Lib.hid hok0
  have hfz := (good_sizes hgd).2.1
  obtain ⟨j0, hji, hjz0, hjz1, hjz2⟩ := info_parts infoInt1
  clear hr hrc hR hwin hq0n hgd ho1 ho2 hsx hsy hok0 hmu
  have hw0 : Below w.heap.size w (w.alloc (.cells #[.int .i64 s, .int .i64 f, .int .i64 o, .slice A js.length c, .int .i64 me, .int .i64 xf, .int .i64 yo] 48)) := below1 _ _
  go_enter Try.func29, Try.ntmps29
  go_wp2_with fail
  refine (raAsked_any _ _ _ _ _ _ _ _ _ _ _ _ ((hj.below hw0).more (by simp))).mono ?_
  rintro e w1 ⟨rfl, hx⟩
  rw [HA.out]
  have hb := box_on (Below.refl _ _) hx (by simp)
  have q := boxcells hb
  have hb' := hw0.trans (hb.mono (by omega))
  have hb1s : w.heap.size + 1 ≤ w1.heap.size := by have := hb.size; simpa using this
  clear hx
  go_wp2_with fail
  refine (raFar_any _ _ _ _ _ _ _ _ _ _ _ ((hj.below hb').more (by have := hb'.size; exact this)) HRC.out (by omega) hw2).mono ?_
  rintro e w2 ⟨g, F, L, Q, rfl, hgb, hrow, hreach, hL, _, _, hy⟩
  replace hb := box_on hb hy (by have := hb.size; simpa using this)
  replace q := boxcells hb
  have hb2 := hw0.trans (hb.mono (by omega))
  have hq := hreach _ .refl
  simp only [Int.toNat_natCast] at hq
  have hgb : w.heap.size < g := by have := hb1s; omega
  obtain ⟨v, hv, hv2⟩ : ∃ v : Int, v = farW F L (cd (s.toNat + 1) xf yo 0) ∧ ((v < 0 ∧ R = ([], false)) ∨ (¬ v < 0 ∧ ∃ p : List Nat, R = (p.map (fun i : Nat => (i : Int)), true) ∧ v = (p.length : Nat) ∧ FirstW (nxS s o js me) (wonQ s) f.toNat who (cd (s.toNat + 1) xf yo 0) p)) ∧ -1 ≤ v ∧ v ≤ 4000 := by
    refine ⟨_, rfl, ?_⟩
    have hLq := hL (cd (s.toNat + 1) xf yo 0)
    cases hF : F (cd (s.toNat + 1) xf yo 0)
    · rw [farW_no hF]
      have hno := hq.2 hF
      rcases HR.out with ⟨p, hp, _⟩ | ⟨_, e⟩
      · exact absurd ((HWIN.out p).2 hp.1) (hno p)
      · exact ⟨.inl ⟨by omega, e⟩, by omega, by omega⟩
    · rw [farW_yes hF]
      obtain ⟨h1, hd⟩ := hq.1 hF
      rcases HR.out with ⟨p, hp, e⟩ | ⟨hno, _⟩
      · have hp2 := (firstW_map HWIN.out).2 hp
        have hu := Least.uniq hd hp2.dist
        exact ⟨.inr ⟨by omega, p, e, by omega, hp2⟩, by omega, by omega⟩
      · obtain ⟨⟨ys, _, hys⟩, _⟩ := hd
        exact absurd ((HWIN.out ys).1 hys) (hno ys)
  have HREACH := Lib.hid hreach; have HLL := Lib.hid hL
  obtain ⟨q0, hq0⟩ : ∃ q0, q0 = cd (s.toNat + 1) xf yo 0 := ⟨_, rfl⟩
  have hc2 := hrow.cell (by rw [hq0]; exact HQN.out : q0 < _)
  have hqn : q0 < 2 * ((s.toNat + 1) * (s.toNat + 1)) := by rw [hq0]; exact HQN.out
  rw [← hq0] at hv
  rw [← hv] at hc2
  have hrl := hrow.lt
  have HQ0 := Lib.hid hq0
  clear hq hreach hL HR HWIN HQN hq0 hv hy
  obtain ⟨n, hn⟩ : ∃ n, n = 2 * ((s.toNat + 1) * (s.toNat + 1)) := ⟨_, rfl⟩
  rw [← hn] at hqn hrow ⊢
  have HNN := Lib.hid hn
  clear hn
  have hqi : (q0 : Int) < (n : Int) := by omega
  obtain ⟨hv3, hv4, hv5⟩ := hv2
  rcases hv3 with ⟨hneg, hRe⟩ | ⟨hpos, p, rfl, hvl, hp⟩
  · subst hRe
    go_wp2_with fail
    refine (raStart_any _ _ _ _ _ _ _ _ _ _ hs1 h40 hxs hys).mono ?_
    rintro e w3 ⟨rfl, hx3⟩
    rw [← HQ0.out]
    have hc3 := (bcell hx3 hrl).trans hc2
    go_wp2_with fail
    go_ret2
    exact ⟨none, 0, rfl, .inl rfl, hb2.trans (hx3.mono hb2.size)⟩
  · subst hvl
    have hst0 : StW s o js me f.toNat who q0 p q0 p.length [] := ⟨.refl, by rw [HQ0.out]; exact HOK.out, by rw [HQ0.out]; exact hp.dist, fun _ => by rw [HQ0.out]; exact Dt_cd (by omega), fun zs hz => by rw [HQ0.out] at hz; exact hp.uniq hz⟩
    have hDq : Dx (s.toNat + 1) q0 = xf ∧ Dy (s.toNat + 1) q0 = yo := by
      rw [HQ0.out]
      exact ⟨Dx_cd (by omega) (by omega), Dy_cd (by omega) (by omega)⟩
    have HST := Lib.hid hst0; have HDQ := Lib.hid hDq
    clear hst0 hp hDq
    go_wp2_with fail
    refine (raStart_any _ _ _ _ _ _ _ _ _ _ hs1 h40 hxs hys).mono ?_
    rintro e w3 ⟨rfl, hx3⟩
    rw [← HQ0.out]
    have hc3 := (bcell hx3 hrl).trans hc2
    have hrl3 : g < w3.heap.size := by have := hx3.size; omega
    replace hb := box_on hb hx3 (by have := hb.size; simpa using this)
    replace q := boxcells hb
    have hrow3 := hrow.below hx3 hrl
    have hb3 := hb2.trans (hx3.mono hb2.size)
    clear hc2 hx3 hb2 hrow
    go_wp2_with fail
    refine (raStart_any _ _ _ _ _ _ _ _ _ _ hs1 h40 hxs hys).mono ?_
    rintro e w4 ⟨rfl, hx4⟩
    rw [← HQ0.out]
    have hc4 := (bcell hx4 hrl3).trans hc3
    replace hb := box_on hb hx4 (by have := hb.size; simpa using this)
    have k4 : w4.heap[w.heap.size]? = some (.cells #[.int .i64 s, .int .i64 f, .int .i64 o, .slice A js.length c, .int .i64 me, .int .i64 xf, .int .i64 yo] 48 (0, 0)) := (hb.block _ (by omega)).trans (heap_alloc_at _ _ _ rfl)
    have hrow4 := hrow3.below hx4 hrl3
    have hb4 := hb3.trans (hx4.mono hb3.size)
    rw [← HDQ.out.1, ← HDQ.out.2] at k4
    clear hc3 hx4 hb3 hrow3 q hb hrl hrl3
    go_wp2_with fail
    go_loopw [8, 9, 10, 11, 12, 13] (fun v lf _ _ _ _ wr => ∃ (q t : Nat) (ys : List Nat), lf = .int .i64 (t : Int) ∧ StW s o js me f.toNat who q0 p q t ys ∧ wr.heap[w.heap.size]? = some (.cells #[.int .i64 s, .int .i64 f, .int .i64 o, .slice A js.length c, .int .i64 me, .int .i64 (Dx (s.toNat + 1) q : Nat), .int .i64 (Dy (s.toNat + 1) q : Nat)] 48 (0, 0)) ∧ Below w.heap.size w wr ∧ RowI wr g 3 n (farW F L) ∧ wr.ownsRow (g + 1) 3 1 v ys.length (ys.map (fun i : Nat => Value.int .i64 i))) (fun _ lf _ _ _ _ _ => (intOf lf).toNat)
    case atStart => exact ⟨q0, p.length, [], rfl, HST.out, k4, hb4, hrow4, World.ownsRow_nil _ _ _ _⟩
    case round =>
      clear hb4 k4 hrow4 hc4 HST HDQ
      obtain ⟨q, t, ys, rfl, hst, hk, hB, hrow, hown⟩ := hrel
      have hgs := hrow.lt
      have hBs := hB.size
      cases t with
      | zero =>
        have h3 : ¬ ((0 : Nat) : Int) > 0 := by simp
        have he := hst.end
        subst he
        clear hst hk hrow
        go_wp2
        rw [← map_ints] at hown
        obtain ⟨A', c', rfl, ho⟩ := own_oi hown (by simp)
        go_ret2
        refine ⟨A', c', rfl, ?_, hB⟩
        rcases ho with h | ⟨g', e, hg', hr⟩
        · exact .inl h
        · exact .inr ⟨g', e, by omega, hr⟩
      | succ u =>
        obtain ⟨face, hf1, hf2, hfd, hfno, hst2⟩ := hst.step (by omega) HG.out
        have hlen : ys.length + (u + 1) = p.length := by
          obtain ⟨xs, hxl, hxf⟩ := hst.dist.exists (by omega : 0 < who)
          have := congrArg List.length (hst.rest _ hxf)
          rw [List.length_append] at this
          omega
        have hyl : ys.length ≤ 4000 := by omega
        have hwl : IntKind.i64.wrap (((u + 1 : Nat) : Int) - 1) = (u : Int) := by rw [IntWalk.i64_in _ (by omega)]; omega
        have htok := hst.tok (by omega)
        have hwon := hst.won (by omega)
        obtain ⟨t, ht⟩ : ∃ t, u + 1 = t := ⟨_, rfl⟩
        rw [ht] at hwl hlen
        rw [ht]
        have h3 : (t : Int) > 0 := by omega
        have h3n : 0 < t := by omega
        have HS := Lib.hid hst; have HFA := Lib.hid hfd; have HFN := Lib.hid hfno; have HS2 := Lib.hid hst2; have HTK := Lib.hid htok; have HWON := Lib.hid hwon; have HT := Lib.hid ht
        clear hst hfd hfno hst2 htok hwon ht
        go_wp2_with fail
        go_loopw [8, 10, 11, 12, 13] (fun v i _ _ _ wi => ∃ k : Nat, k < face ∧ i = .int .i64 ((k : Int) + 1) ∧ wi.heap[w.heap.size]? = some (.cells #[.int .i64 s, .int .i64 f, .int .i64 o, .slice A js.length c, .int .i64 me, .int .i64 (Dx (s.toNat + 1) q : Nat), .int .i64 (Dy (s.toNat + 1) q : Nat)] 48 (0, 0)) ∧ Below w.heap.size w wi ∧ RowI wi g 3 n (farW F L) ∧ wi.ownsRow (g + 1) 3 1 v ys.length (ys.map (fun i : Nat => Value.int .i64 i))) (fun _ i _ _ _ _ => face + 1 - (intOf i).toNat)
        case atStart => exact ⟨0, by omega, rfl, hk, hB, hrow, hown⟩
        case round =>
          clear hB hrow hgs hown hBs hk
          obtain ⟨k, hkf, rfl, hk, hB, hrow, hown⟩ := hrel
          have qb := fun i => cell_of_row wr w.heap.size i _ _ _ hk
          have hgs := hrow.lt
          have hBs := hB.size
          have h4 : (k : Int) + 1 ≤ f := by omega
          obtain ⟨Av, cv, rfl⟩ := own_sliceS hown
          have hon := HS.out.on
          have hdd : Dt q = ys.length % 2 := HTK.out
          obtain ⟨d, hd⟩ : ∃ d : Nat, d = ys.length % 2 := ⟨_, rfl⟩
          have hd2 : d < 2 := by omega
          have hmod : ((ys.length : Nat) : Int) % 2 = (d : Int) := by omega
          have hdq : Dt q = d := by omega
          have hsb : ((d : Int) == 1) = (Dt q == 1) := by
            rw [hdq]
            rcases (show d = 0 ∨ d = 1 by omega) with e | e <;> subst e <;> rfl
          obtain ⟨xn, yn, b, hstep, hxn, hyn⟩ : ∃ (xn yn : Nat) (b : Bool), stepR s o js me (Dx (s.toNat + 1) q : Nat) (Dy (s.toNat + 1) q : Nat) (Dt q == 1) ((k + 1 : Nat) : Int) = (((xn : Int), (yn : Int)), b) ∧ sqR s js xn ∧ sqR s js yn := by
            have h := stepR_sq (me := me) (sec := Dt q == 1) (face := k + 1) HG.out hon.1 hon.2 (by omega)
            obtain ⟨x1, e1⟩ := Int.eq_ofNat_of_zero_le h.1.1
            obtain ⟨y1, e2⟩ := Int.eq_ofNat_of_zero_le h.2.1
            refine ⟨x1, y1, (stepR s o js me (Dx (s.toNat + 1) q : Nat) (Dy (s.toNat + 1) q : Nat) (Dt q == 1) ((k + 1 : Nat) : Int)).2, ?_, by rw [← e1]; exact h.1, by rw [← e2]; exact h.2⟩
            rw [← e1, ← e2, show ((k + 1 : Nat) : Int) = (k : Int) + 1 by omega]
          have hqq := nxS_eq HWON.out hstep hxn hyn
          have hstep2 : stepR s o js me (Dx (s.toNat + 1) q : Nat) (Dy (s.toNat + 1) q : Nat) ((d : Int) == 1) ((k : Int) + 1) = (((xn : Int), (yn : Int)), b) := by rw [hsb]; exact hstep
          have hokn : okQ s js (nxS s o js me q (k + 1)) := okQ_nxS HG.out hon (by omega)
          have hrch := HS.out.reach.step (show 1 ≤ k + 1 by omega) (show k + 1 ≤ f.toNat by omega)
          have hfa : face = k + 1 ↔ DistW (nxS s o js me) (wonQ s) f.toNat who (nxS s o js me q (k + 1)) u := by
            constructor
            · rintro rfl; exact HFA.out
            · intro h
              have : ¬ k + 1 < face := fun hl => HFN.out (k + 1) (by omega) hl h
              omega
          obtain ⟨y, hy⟩ : ∃ y, nxS s o js me q (k + 1) = y := ⟨_, rfl⟩
          rw [hy] at hqq hokn hrch hfa
          have hyn2 : y < n := by rw [HNN.out]; exact okQ_lt hokn
          have hyi : (y : Int) < (n : Int) := by omega
          have hrch2 : Rch (nxS s o js me) f.toNat (cd (s.toNat + 1) (xf : Int).toNat (yo : Int).toNat 0) y := by rw [Int.toNat_natCast, Int.toNat_natCast, ← HQ0.out]; exact hrch
          have hrd : DistW (nxS s o js me) (wonQ s) f.toNat who y u ↔ farW F L y = (u : Int) := by
            cases hFy : F y
            · rw [farW_no hFy]
              exact ⟨fun h => by obtain ⟨⟨zs, _, hz⟩, _⟩ := h; exact absurd hz ((HREACH.out y hrch2).2 hFy _), fun h => by omega⟩
            · rw [farW_yes hFy]
              obtain ⟨hl1, hdy⟩ := (HREACH.out y hrch2).1 hFy
              exact ⟨fun h => by have := Least.uniq hdy h; omega, fun h => by have e : L y - 1 = u := (by omega); rw [← e]; exact hdy⟩
          obtain ⟨dv, hdv⟩ : ∃ dv, farW F L y = dv := ⟨_, rfl⟩
          have d1 := hrow.cell hyn2
          rw [hdv] at d1 hrd
          obtain ⟨z0, hz0⟩ : ∃ z0, z0 = cd (s.toNat + 1) xn yn 0 := ⟨_, rfl⟩
          have hcd1 : cd (s.toNat + 1) xn yn (1 - Dt q) = z0 + (1 - d) := by rw [hz0, hdq]; unfold cd; omega
          have hcd2 : (z0 + (1 - d)) / 2 * 2 = z0 := by rw [hz0]; unfold cd; omega
          rw [hcd1, hcd2] at hqq
          have hz0n : z0 ≤ 4000 := by
            have h1 : y ≤ 4000 := by
              have h2 : (s.toNat + 1) * (s.toNat + 1) ≤ 41 * 41 := Nat.mul_le_mul (by omega) (by omega)
              have := HNN.out; omega
            by_cases hw : wonR s xn yn = 0
            · rw [if_pos hw] at hqq; omega
            · rw [if_neg hw] at hqq; omega
          have hxn1 := hxn.2.1; have hyn1 := hyn.2.1
          have HFD := Lib.hid (hfa.trans hrd); have HQQ := Lib.hid hqq; have HST2 := Lib.hid hstep2; have HZ0 := Lib.hid hz0; have HYE := Lib.hid hy; have HON := Lib.hid hon; have HD := Lib.hid hd
          clear hrch2 hfa hrd hqq hstep hstep2 hz0 hy hdv hrch hokn hxn hyn hdd hdq hsb hcd1 hcd2 hd hon
          go_wp2_with fail
          refine (raStep_any s f o me _ _ _ _ A c js _ (hj.go hB) HG.out HON.out.1 HON.out.2 (by omega) (by omega)).mono ?_
          rintro e w5 ⟨rfl, hx5⟩
          rw [HST2.out]
          have hk5 := (hx5.block _ (by omega)).trans hk
          have hB5 := hB.trans (hx5.mono hBs)
          have hrow5 := hrow.below hx5 hgs
          have hown5 := own_below hown hx5
          have hs5 := hx5.size
          have d5 := (bcell hx5 hgs).trans d1
          clear qb hk hB hrow hown hx5 d1
          go_wp2_with fail
          have hkt5 : (w5.alloc (.cells #[.int .i64 s, .int .i64 f, .int .i64 o, .slice A js.length c, .int .i64 me, .int .i64 xn, .int .i64 yn] 48)).heap[w5.heap.size]? = some (.cells #[.int .i64 s, .int .i64 f, .int .i64 o, .slice A js.length c, .int .i64 me, .int .i64 xn, .int .i64 yn] 48 (0, 0)) := heap_alloc_at _ _ _ rfl
          have ha5 := below1 w5 (.cells #[.int .i64 s, .int .i64 f, .int .i64 o, .slice A js.length c, .int .i64 me, .int .i64 xn, .int .i64 yn] 48)
          obtain ⟨W6, hW6⟩ : ∃ W6, W6 = w5.alloc (.cells #[.int .i64 s, .int .i64 f, .int .i64 o, .slice A js.length c, .int .i64 me, .int .i64 xn, .int .i64 yn] 48) := ⟨_, rfl⟩
          have hs6 : W6.heap.size = w5.heap.size + 1 := by rw [hW6]; simp
          rw [← hW6] at hkt5 ha5
          rw [← hW6]
          have hbs5 : w.heap.size < w5.heap.size := by omega
          have hk6 := (ha5.block w.heap.size (by omega)).trans hk5
          have kt6 := hkt5
          have hB6 := hB5.trans (ha5.mono hB5.size)
          have hrow6 := hrow5.below ha5 hrow5.lt
          have hown6 := own_below hown5 ha5
          have d6 := (bcell ha5 hrow5.lt).trans d5
          have hown5b := hown5.lt
          have HNW := Lib.hid (show ∀ j, (Value.slice Av ys.length cv).ownBlock = some j → j < w5.heap.size from fun j e => (hown5b j e).2)
          clear hW6 hkt5 ha5 hk5 hB5 hrow5 hown5 d5 hown5b
          refine (raStart_any s f o me xn yn A js.length c _ hs1 h40 hxn1 hyn1).mono ?_
          rintro e w7 ⟨rfl, hx7⟩
          rw [← HZ0.out]
          have hk7 := (hx7.block _ (by omega)).trans hk6
          have kt7 := (hx7.block _ (by omega)).trans kt6
          have hB7 := hB6.trans (hx7.mono hB6.size)
          have hrow7 := hrow6.below hx7 hrow6.lt
          have hown7 := own_below hown6 hx7
          have d7 := (bcell hx7 hrow6.lt).trans d6
          have qt7 := fun i => cell_of_row _ w5.heap.size i _ _ _ kt7
          have hs7 := hx7.size
          clear hk6 kt6 hB6 hrow6 hown6 d6 hx7
          go_wp2_with fail
          refine (raWon_any s f o me xn yn A js.length c _).mono ?_
          rintro e w8 ⟨rfl, hx8⟩
          have hk8 := (hx8.block _ (by omega)).trans hk7
          have kt8 := (hx8.block _ (by omega)).trans kt7
          have hB8 := hB7.trans (hx8.mono hB7.size)
          have hrow8 := hrow7.below hx8 hrow7.lt
          have hown8 := own_below hown7 hx8
          have d8 := (bcell hx8 hrow7.lt).trans d7
          have qt8 := fun i => cell_of_row _ w5.heap.size i _ _ _ kt8
          have hs8 := hx8.size
          clear hk7 kt7 hB7 hrow7 hown7 d7 hx8 qt7
          by_cases hwn : wonR s xn yn = 0
          · have hyz : (z0 : Int) + 1 - (d : Int) = (y : Int) := by have := HQQ.out; rw [if_pos hwn] at this; omega
            rw [hwn]
            have hkz := hk8; have ktz := kt8; have hBz := hB8; have hrowz := hrow8; have hownz := hown8
            have hwy : IntKind.i64.wrap ((z0 : Int) + 1 - (d : Int)) = (y : Int) := by rw [hyz, IntWalk.i64_in _ (by omega)]
            clear hk8 kt8 hB8 hrow8 hown8
            by_cases hkk : face = k + 1
            · obtain rfl : dv = (u : Int) := HFD.out.1 hkk
              have e1 : ((u : Int) == (u : Int)) = true := by simp
              have hf := own_from hownz
              have HKK := Lib.hid hkk
              clear hkk
              go_wp2_with (at_builtin; go_loud (refine wpList_append_own _ rfl _ _ 23 rfl (g + 1) 3 j0 (.int .i64 0) 1 8 Try.underlying23 hji hjz0 hjz1 hjz2 rfl (by decide) _ _ _ rfl (hownz.alloc _) ⟨w8.heap.size, 0, none⟩ 1 1 [.int .i64 ((k : Int) + 1)] rfl rfl (cell_new1 _ _ _) (one_int _) (by unfold maxLen; omega) (by omega) (by simp; omega) ?_; intro v1 w9 hown9 hg9 _; have hk9 := (hg9.block w.heap.size (by simp; omega) (fun e => by have := hf _ e.symm; omega)).trans ((Below.heap_alloc _ (.cells #[.int .i64 ((k : Int) + 1)] 3) _ (by omega)).trans hkz); have kt9 := (hg9.block w5.heap.size (by simp; omega) (fun e => by have := HNW.out _ e.symm; omega)).trans ((Below.heap_alloc _ (.cells #[.int .i64 ((k : Int) + 1)] 3) _ (by omega)).trans ktz); have q9 := fun i => cell_of_row w9 w5.heap.size i _ _ _ kt9; have qb9 := fun i => cell_of_row w9 w.heap.size i _ _ _ hk9; have fb9 := fun i => frozen_row (i := i) hk9))
              go_roundw
              case rel =>
                have hd2' : d < 2 := by have := HD.out; omega
                have hycd : y = cd (s.toNat + 1) xn yn (1 - d) := by have h1 := HZ0.out; have h2 := hyz; unfold cd at h1 ⊢; omega
                have hdx : Dx (s.toNat + 1) y = xn := by rw [hycd]; exact Dx_cd (by omega) (by omega)
                have hdy : Dy (s.toNat + 1) y = yn := by rw [hycd]; exact Dy_cd (by omega) (by omega)
                refine ⟨y, u, ys ++ [k + 1], rfl, ?_, ?_, ?_, ?_, ?_⟩
                · have h := HS2.out
                  rw [HKK.out, HYE.out] at h
                  exact h
                · rw [hdx, hdy]
                  exact heap7 _ _ _ _ _ _ _ _ _ _ _ _ _ _ _ _ _ hk9
                · exact set7S ((hBz.alloc (by omega) _).grown hg9 (by simp; omega) (fun i hi => by have := hf i hi; omega)) (Nat.le_refl _) _ _ _ _ _ _ _
                · exact row7 ((hrowz.alloc _).grown hg9 (fun e => by have := hf _ e.symm; omega)) (by omega) _ _ _ _ _ _ _
                · rw [List.length_append, List.length_singleton, List.map_append]
                  have e : (List.map (fun i : Nat => Value.int .i64 (i : Int)) [k + 1]) = [.int .i64 ((k : Int) + 1)] := by simp
                  rw [e]
                  exact own7 hown9 (by omega) _ _ _ _ _ _ _
              case measure => have := HT.out; simp [intOf]; omega
            · have hne : (dv == (u : Int)) = false := beq_eq_false_iff_ne.2 fun h => hkk (HFD.out.2 h)
              have hk2 : k + 1 < face := by omega
              clear hkk
              go_wp2_with fail
              go_roundw
              case rel => exact ⟨k + 1, by omega, by go_num, hkz, hBz, hrowz, hownz⟩
              case measure => simp [intOf]; omega
          · have hyz : y = z0 := by have := HQQ.out; rw [if_neg hwn] at this; exact this
            subst hyz
            have hwp : wonR s xn yn > 0 := by rcases wonR_range s xn yn with h | h | h <;> omega
            obtain ⟨wv, hwv⟩ : ∃ wv, wonR s xn yn = wv := ⟨_, rfl⟩
            rw [hwv] at hwp
            rw [hwv]
            clear hwv hwn
            go_wp2_with fail
            refine (raStart_any s f o me xn yn A js.length c _ hs1 h40 hxn1 hyn1).mono ?_
            rintro e wz ⟨rfl, hx9⟩
            rw [← HZ0.out]
            have hkz := (hx9.block _ (by omega)).trans hk8
            have ktz := (hx9.block _ (by omega)).trans kt8
            have hBz := hB8.trans (hx9.mono hB8.size)
            have hrowz := hrow8.below hx9 hrow8.lt
            have hownz := own_below hown8 hx9
            have dz := (bcell hx9 hrow8.lt).trans d8
            have qtz := fun i => cell_of_row _ w5.heap.size i _ _ _ ktz
            have hsz := hx9.size
            clear hk8 kt8 hB8 hrow8 hown8 d8 hx9 qt8
            by_cases hkk : face = k + 1
            · obtain rfl : dv = (u : Int) := HFD.out.1 hkk
              have e1 : ((u : Int) == (u : Int)) = true := by simp
              have hf := own_from hownz
              have HKK := Lib.hid hkk
              clear hkk
              go_wp2_with (at_builtin; go_loud (refine wpList_append_own _ rfl _ _ 23 rfl (g + 1) 3 j0 (.int .i64 0) 1 8 Try.underlying23 hji hjz0 hjz1 hjz2 rfl (by decide) _ _ _ rfl (hownz.alloc _) ⟨wz.heap.size, 0, none⟩ 1 1 [.int .i64 ((k : Int) + 1)] rfl rfl (cell_new1 _ _ _) (one_int _) (by unfold maxLen; omega) (by omega) (by simp; omega) ?_; intro v1 w9 hown9 hg9 _; have hk9 := (hg9.block w.heap.size (by simp; omega) (fun e => by have := hf _ e.symm; omega)).trans ((Below.heap_alloc _ (.cells #[.int .i64 ((k : Int) + 1)] 3) _ (by omega)).trans hkz); have kt9 := (hg9.block w5.heap.size (by simp; omega) (fun e => by have := HNW.out _ e.symm; omega)).trans ((Below.heap_alloc _ (.cells #[.int .i64 ((k : Int) + 1)] 3) _ (by omega)).trans ktz); have q9 := fun i => cell_of_row w9 w5.heap.size i _ _ _ kt9; have qb9 := fun i => cell_of_row w9 w.heap.size i _ _ _ hk9; have fb9 := fun i => frozen_row (i := i) hk9))
              go_roundw
              case rel =>
                have hd2' : d < 2 := by have := HD.out; omega
                have hycd : y = cd (s.toNat + 1) xn yn 0 := HZ0.out
                have hdx : Dx (s.toNat + 1) y = xn := by rw [hycd]; exact Dx_cd (by omega) (by omega)
                have hdy : Dy (s.toNat + 1) y = yn := by rw [hycd]; exact Dy_cd (by omega) (by omega)
                refine ⟨y, u, ys ++ [k + 1], rfl, ?_, ?_, ?_, ?_, ?_⟩
                · have h := HS2.out
                  rw [HKK.out, HYE.out] at h
                  exact h
                · rw [hdx, hdy]
                  exact heap7 _ _ _ _ _ _ _ _ _ _ _ _ _ _ _ _ _ hk9
                · exact set7S ((hBz.alloc (by omega) _).grown hg9 (by simp; omega) (fun i hi => by have := hf i hi; omega)) (Nat.le_refl _) _ _ _ _ _ _ _
                · exact row7 ((hrowz.alloc _).grown hg9 (fun e => by have := hf _ e.symm; omega)) (by omega) _ _ _ _ _ _ _
                · rw [List.length_append, List.length_singleton, List.map_append]
                  have e : (List.map (fun i : Nat => Value.int .i64 (i : Int)) [k + 1]) = [.int .i64 ((k : Int) + 1)] := by simp
                  rw [e]
                  exact own7 hown9 (by omega) _ _ _ _ _ _ _
              case measure => have := HT.out; simp [intOf]; omega
            · have hne : (dv == (u : Int)) = false := beq_eq_false_iff_ne.2 fun h => hkk (HFD.out.2 h)
              have hk2 : k + 1 < face := by omega
              clear hkk
              go_wp2_with fail
              go_roundw
              case rel => exact ⟨k + 1, by omega, by go_num, hkz, hBz, hrowz, hownz⟩
              case measure => simp [intOf]; omega
end Go.Proofs.Ytknclgfjoajldab

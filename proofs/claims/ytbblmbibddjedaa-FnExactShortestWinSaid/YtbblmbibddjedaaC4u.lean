/-
  Races: the program's FirstWin; ShortestWin on both sides.
-/
import Derived.Test.YtbblmbibddjedaaC4t
import Derived.Test.YtbblmbibddjedaaC4n
namespace Go.Proofs.Ytbblmbibddjedaa
open Go.RowKit

theorem distW_iff {nx nx' : Nat → Nat → Nat} {won won' : Nat → Int} {m q q' t : Nat} {who : Int} (h : ∀ ys, WinL nx won m who q ys ↔ WinL nx' won' m who q' ys) : DistW nx won m who q t ↔ DistW nx' won' m who q' t := by
  unfold DistW
  have e : (fun t => ∃ xs : List Nat, xs.length = t ∧ WinL nx won m who q xs) = (fun t => ∃ xs : List Nat, xs.length = t ∧ WinL nx' won' m who q' xs) := by
    funext t
    simp only [h]
  rw [e]

set_option maxRecDepth 100000 in
theorem implFirstWin_no (s f o me fi ot who : Int) (A : Option Addr) (c : Nat) (js : List (Int × Int)) (w : World) (hj : RJ w w.heap.size A js) (hr : (raceOk s f o js me fi ot && inB who 1 2) = false) :
    Calls Try.prog 25 #[.agg #[.int .i64 s, .int .i64 f, .int .i64 o, .slice A js.length c, .int .i64 me, .int .i64 fi, .int .i64 ot], .int .i64 who] w (IntsBack w ([], false)) := by
  have hl := hj.1
  cases hg : raceOk s f o js me fi ot
  · have HR := Lib.hid hg
    clear hg hr
    go_enter Try.func25, Try.ntmps25
    go_wp2_with fail
    refine (contestOf_no _ _ _ _ _ _ _ _ _ _ (hj.go (below1 _ _)) HR.out).mono ?_
    rintro e w1 ⟨rfl, hx⟩
    have hst := storeContest 0 0 0 (fun _ => 0) false 0 0
    go_wp2_with fail
    go_ret2
    exact ⟨none, 0, rfl, .inl rfl, ((below1 _ _).trans (hx.mono (by simp))).alloc (by have := hx.size; simp at this; omega) _⟩
  · have hi : inB who 1 2 = false := by simpa [hg] using hr
    have HR := Lib.hid hg
    clear hg hr
    go_enter Try.func25, Try.ntmps25
    go_wp2_with fail
    refine (contestOf_yes _ _ _ _ _ _ _ _ _ _ (hj.go (below1 _ _)) HR.out).mono ?_
    rintro e w1 ⟨rfl, hx⟩
    have hst := storeContest s f o (fun i => jumpOf js i) (me == 1) fi ot
    go_wp2_with (go_at_call 41; refine (isWho_any _ _).mono ?_; rintro e w2 ⟨rfl, rfl⟩; rw [hi])
    go_ret2
    exact ⟨none, 0, rfl, .inl rfl, ((below1 _ _).trans (hx.mono (by simp))).alloc (by have := hx.size; simp at this; omega) _⟩

set_option maxRecDepth 100000 in
set_option maxHeartbeats 1000000 in
theorem implFirstWin_yes (s f o me fi ot who : Int) (A : Option Addr) (c : Nat) (js : List (Int × Int)) (R : List Int × Bool) (w : World) (hj : RJ w w.heap.size A js) (hr : raceOk s f o js me fi ot = true) (hi : inB who 1 2 = true) (hwho : 0 < who)
    (hR : WinR (nxP s o js me) (wonQ s) f.toNat who (cd (s.toNat + 1) fi.toNat ot.toNat 0) R) :
    Calls Try.prog 25 #[.agg #[.int .i64 s, .int .i64 f, .int .i64 o, .slice A js.length c, .int .i64 me, .int .i64 fi, .int .i64 ot], .int .i64 who] w (IntsBack w R) := by
  have hl := hj.1
  have HR := Lib.hid hr; have HW := Lib.hid hR
  clear hr hR
  go_enter Try.func25, Try.ntmps25
  go_wp2_with fail
  refine (contestOf_yes _ _ _ _ _ _ _ _ _ _ (hj.go (below1 _ _)) HR.out).mono ?_
  rintro e w1 ⟨rfl, hx⟩
  have hst := storeContest s f o (fun i => jumpOf js i) (me == 1) fi ot
  have hNA : NA (w1.alloc (.cells (ctsCells s f o (fun i => jumpOf js i) (me == 1) fi ot) 60)) w1.heap.size s f o (fun i => jumpOf js i) (me == 1) fi ot := heap_alloc_at _ _ _ rfl
  have HNV := Lib.hid hNA.nv
  have hB1 := ((below1 _ _).trans (hx.mono (by simp))).alloc (by have := hx.size; simp at this; omega) (.cells (ctsCells s f o (fun i => jumpOf js i) (me == 1) fi ot) 60)
  clear hNA
  go_wp2_with (go_at_call 41; refine (isWho_any _ _).mono ?_; rintro e w2 ⟨rfl, rfl⟩; rw [hi])
  refine (firstWin_any _ s f o me fi ot who js R _ HNV.out (by simp) HR.out hwho HW.out).mono ?_
  rintro e w3 ⟨A', c', rfl, ho, hx3⟩
  go_wp2_with fail
  go_ret2
  refine ⟨A', c', rfl, ?_, hB1.trans (hx3.mono hB1.size)⟩
  rcases ho with h | ⟨g', e, hg', hr⟩
  · exact .inl h
  · exact .inr ⟨g', e, by have := hB1.size; omega, hr⟩


theorem implFirstWin_any (s f o me fi ot who : Int) (A : Option Addr) (c : Nat) (js : List (Int × Int)) (R : List Int × Bool) (w : World) (hj : RJ w w.heap.size A js)
    (hR : ((raceOk s f o js me fi ot && inB who 1 2) = false ∧ R = ([], false)) ∨ (raceOk s f o js me fi ot = true ∧ inB who 1 2 = true ∧ 0 < who ∧ WinR (nxP s o js me) (wonQ s) f.toNat who (cd (s.toNat + 1) fi.toNat ot.toNat 0) R)) :
    Calls Try.prog 25 #[.agg #[.int .i64 s, .int .i64 f, .int .i64 o, .slice A js.length c, .int .i64 me, .int .i64 fi, .int .i64 ot], .int .i64 who] w (IntsBack w R) := by
  rcases hR with ⟨h, rfl⟩ | ⟨h1, h2, h3, h4⟩
  · exact implFirstWin_no s f o me fi ot who A c js w hj h
  · exact implFirstWin_yes s f o me fi ot who A c js R w hj h1 h2 h3 h4

set_option maxRecDepth 100000 in
theorem implShortestWin_any (s f o me fi ot who : Int) (A : Option Addr) (c : Nat) (js : List (Int × Int)) (R : List Int × Bool) (w : World) (hj : RJ w w.heap.size A js)
    (hR : ((raceOk s f o js me fi ot && inB who 1 2) = false ∧ R = ([], false)) ∨ (raceOk s f o js me fi ot = true ∧ inB who 1 2 = true ∧ 0 < who ∧ WinR (nxP s o js me) (wonQ s) f.toNat who (cd (s.toNat + 1) fi.toNat ot.toNat 0) R)) :
    Calls Try.prog 23 #[.agg #[.int .i64 s, .int .i64 f, .int .i64 o, .slice A js.length c, .int .i64 me, .int .i64 fi, .int .i64 ot], .int .i64 who] w (NumW w ((R.1.length : Nat), R.2)) := by
  have hl := hj.1
  have HR := Lib.hid hR
  clear hR
  go_enter Try.func23, Try.ntmps23
  go_wp2_with fail
  refine (implFirstWin_any s f o me fi ot who A c js R _ (hj.go (below1 _ _)) HR.out).mono ?_
  rintro e w1 ⟨A', c', rfl, _, hx⟩
  go_wp2_with fail
  go_ret2
  exact ⟨rfl, (below1 _ _).trans (hx.mono (by simp))⟩

set_option maxRecDepth 100000 in
theorem specShortestWin_no (s f o me fi ot who : Int) (A : Option Addr) (c : Nat) (js : List (Int × Int)) (w : World) (hj : RJ w w.heap.size A js) (hr : askedR s f o js me fi ot 0 who = false) :
    Calls Try.prog 22 #[.agg #[.int .i64 s, .int .i64 f, .int .i64 o, .slice A js.length c, .int .i64 me, .int .i64 fi, .int .i64 ot], .int .i64 who] w (NumW w (0, false)) := by
  have hl := hj.1
  have hw0 : Below w.heap.size w (w.alloc (.cells #[.int .i64 s, .int .i64 f, .int .i64 o, .slice A js.length c, .int .i64 me, .int .i64 fi, .int .i64 ot] 33)) := below1 _ _
  go_enter Try.func22, Try.ntmps22
  go_wp2_with (go_at_call 38; refine (raAsked_any _ _ _ _ _ _ _ _ _ _ _ _ ((hj.below hw0).more (by simp))).mono ?_; rintro e w1 ⟨rfl, hx⟩; rw [hr])
  go_ret2
  exact ⟨rfl, hw0.trans (hx.mono (by simp))⟩

set_option maxRecDepth 100000 in
set_option maxHeartbeats 1000000 in
theorem specShortestWin_yes (s f o me who : Int) (xf yo : Nat) (A : Option Addr) (c : Nat) (js : List (Int × Int)) (R : List Int × Bool) (w : World) (hj : RJ w w.heap.size A js) (hr : askedR s f o js me xf yo 0 who = true)
    (hR : WinR (nxP s o js me) (wonQ s) f.toNat who (cd (s.toNat + 1) xf yo 0) R) :
    Calls Try.prog 22 #[.agg #[.int .i64 s, .int .i64 f, .int .i64 o, .slice A js.length c, .int .i64 me, .int .i64 xf, .int .i64 yo], .int .i64 who] w (NumW w ((R.1.length : Nat), R.2)) := by
  have hl := hj.1
  have hr0 : raceOk s f o js me xf yo = true ∧ 1 ≤ who ∧ who ≤ 2 := by
    unfold askedR at hr
    simp only [Bool.and_eq_true] at hr
    obtain ⟨h1, _, h2⟩ := hr
    unfold inB at h2
    simp at h2
    exact ⟨h1, by omega, by omega⟩
  obtain ⟨hrc, hw1, hw2⟩ := hr0
  obtain ⟨hgd, h40, _, ho1, ho2, _⟩ := raceOk_parts hrc
  have hsx := sqR_of ho1
  have hsy := sqR_of ho2
  have hxs := hsx.2.1
  have hys := hsy.2.1
  have hok0 := okQ_cd (t := 0) hsx hsy (by omega)
  simp only [Int.toNat_natCast] at hok0
  have hq0n := okQ_lt hok0
  have hs1 : 1 ≤ s := by have := (good_sizes hgd).1.1; omega
  have hmu : muQ s (cd (s.toNat + 1) xf yo 0) = cd (s.toNat + 1) xf yo 0 := by
    unfold muQ
    split
    · unfold cd; omega
    · rfl
  have hwin : ∀ ys, WinL (nxS s o js me) (wonQ s) f.toNat who (cd (s.toNat + 1) xf yo 0) ys ↔ WinL (nxP s o js me) (wonQ s) f.toNat who (cd (s.toNat + 1) xf yo 0) ys := fun ys => by
    have := win_both (s := s) (o := o) (js := js) (me := me) (m := f.toNat) (who := who) ys (cd (s.toNat + 1) xf yo 0)
    rwa [hmu] at this
  have HA := Lib.hid hr; have HRC := Lib.hid hrc; have HR := Lib.hid hR; have HWIN := Lib.hid hwin; have HQN := Lib.hid hq0n
  clear hr hrc hR hwin hq0n hgd ho1 ho2 hsx hsy hok0 hmu
  have hw0 : Below w.heap.size w (w.alloc (.cells #[.int .i64 s, .int .i64 f, .int .i64 o, .slice A js.length c, .int .i64 me, .int .i64 xf, .int .i64 yo] 33)) := below1 _ _
  go_enter Try.func22, Try.ntmps22
  go_wp2_with fail
  refine (raAsked_any _ _ _ _ _ _ _ _ _ _ _ _ ((hj.below hw0).more (by simp))).mono ?_
  rintro e w1 ⟨rfl, hx⟩
  rw [HA.out]
  have hb := box_on (Below.refl _ _) hx (by simp)
  have q := boxcells hb
  have hb' := hw0.trans (hb.mono (by omega))
  clear hx
  go_wp2_with fail
  refine (raFar_any _ _ _ _ _ _ _ _ _ _ _ ((hj.below hb').more (by have := hb'.size; exact this)) HRC.out (by omega) hw2).mono ?_
  rintro e w2 ⟨g, F, L, Q, rfl, hgb, hrow, hreach, hL, _, _, hy⟩
  replace hb := box_on hb hy (by have := hb.size; simpa using this)
  replace q := boxcells hb
  have hb2 := hw0.trans (hb.mono (by omega))
  have hq := hreach _ .refl
  simp only [Int.toNat_natCast] at hq
  obtain ⟨v, hv, hv2⟩ : ∃ v : Int, v = farW F L (cd (s.toNat + 1) xf yo 0) ∧ ((v < 0 ∧ R = ([], false)) ∨ (¬ v < 0 ∧ v = (R.1.length : Nat) ∧ R.2 = true)) ∧ -1 ≤ v ∧ v ≤ 4000 := by
    refine ⟨_, rfl, ?_⟩
    have hLq := hL (cd (s.toNat + 1) xf yo 0)
    cases hF : F (cd (s.toNat + 1) xf yo 0)
    · rw [farW_no hF]
      have hno := hq.2 hF
      rcases HR.out with ⟨p, hp, _⟩ | ⟨_, e⟩
      · exact absurd ((HWIN.out p).2 hp.1) (hno p)
      · exact ⟨.inl ⟨by omega, e⟩, by omega, by omega⟩
    · rw [farW_yes hF]
      obtain ⟨h1, hd⟩ := hq.1 hF
      rcases HR.out with ⟨p, hp, e⟩ | ⟨hno, _⟩
      · have hu := Least.uniq ((distW_iff HWIN.out).1 hd) hp.dist
        rw [e]
        refine ⟨.inr ⟨by omega, ?_, rfl⟩, by omega, by omega⟩
        simp only [List.length_map]
        omega
      · obtain ⟨⟨ys, _, hys⟩, _⟩ := hd
        exact absurd ((HWIN.out ys).1 hys) (hno ys)
  obtain ⟨q0, hq0⟩ : ∃ q0, q0 = cd (s.toNat + 1) xf yo 0 := ⟨_, rfl⟩
  have hc2 := hrow.cell (by rw [hq0]; exact HQN.out : q0 < _)
  have hqn : q0 < 2 * ((s.toNat + 1) * (s.toNat + 1)) := by rw [hq0]; exact HQN.out
  rw [← hq0] at hv
  rw [← hv] at hc2
  have hrl := hrow.lt
  have HQ0 := Lib.hid hq0
  clear hq hreach hL HR HWIN HQN hq0 hv hrow hy
  generalize 2 * ((s.toNat + 1) * (s.toNat + 1)) = n at hqn ⊢
  have hqi : (q0 : Int) < (n : Int) := by omega
  obtain ⟨hv3, hv4, hv5⟩ := hv2
  rcases hv3 with ⟨hneg, rfl⟩ | ⟨hpos, hvl, hR2⟩
  · go_wp2_with fail
    refine (raStart_any _ _ _ _ _ _ _ _ _ _ hs1 h40 hxs hys).mono ?_
    rintro e w3 ⟨rfl, hx3⟩
    rw [← HQ0.out]
    have hc3 := (bcell hx3 hrl).trans hc2
    go_wp2_with fail
    go_ret2
    exact ⟨rfl, hb2.trans (hx3.mono hb2.size)⟩
  · have HV := Lib.hid hvl
    clear hvl
    go_wp2_with fail
    refine (raStart_any _ _ _ _ _ _ _ _ _ _ hs1 h40 hxs hys).mono ?_
    rintro e w3 ⟨rfl, hx3⟩
    rw [← HQ0.out]
    have hc3 := (bcell hx3 hrl).trans hc2
    have hrl3 : g < w3.heap.size := by have := hx3.size; omega
    replace hb := box_on hb hx3 (by have := hb.size; simpa using this)
    replace q := boxcells hb
    have hb3 := hb2.trans (hx3.mono hb2.size)
    clear hc2 hx3 hb2
    go_wp2_with fail
    refine (raStart_any _ _ _ _ _ _ _ _ _ _ hs1 h40 hxs hys).mono ?_
    rintro e w4 ⟨rfl, hx4⟩
    rw [← HQ0.out]
    have hc4 := (bcell hx4 hrl3).trans hc3
    go_wp2_with fail
    go_ret2
    refine ⟨?_, hb3.trans (hx4.mono hb3.size)⟩
    show _ = Ending.returned (.tuple #[.int .i64 ((R.1.length : Nat) : Int), .bool R.2])
    rw [← HV.out, hR2]
    rfl

theorem shortestWin_both (s f o me fi ot : Int) (js : List (Int × Int)) (who : Int) : ∃ (x : Int) (ok : Bool),
    (∀ (A : Option Addr) (c : Nat) (W : World), RJ W W.heap.size A js → Calls Try.prog 22 #[.agg #[.int .i64 s, .int .i64 f, .int .i64 o, .slice A js.length c, .int .i64 me, .int .i64 fi, .int .i64 ot], .int .i64 who] W (NumW W (x, ok))) ∧
    (∀ (A : Option Addr) (c : Nat) (W : World), RJ W W.heap.size A js → Calls Try.prog 23 #[.agg #[.int .i64 s, .int .i64 f, .int .i64 o, .slice A js.length c, .int .i64 me, .int .i64 fi, .int .i64 ot], .int .i64 who] W (NumW W (x, ok))) := by
  have ha : askedR s f o js me fi ot 0 who = (raceOk s f o js me fi ot && inB who 1 2) := by
    unfold askedR
    rw [show inB 0 0 14 = true from rfl, Bool.true_and]
  cases h : raceOk s f o js me fi ot && inB who 1 2
  · exact ⟨0, false, fun A c W hj => specShortestWin_no s f o me fi ot who A c js W hj (by rw [ha]; exact h), fun A c W hj => implShortestWin_any s f o me fi ot who A c js ([], false) W hj (.inl ⟨h, rfl⟩)⟩
  · simp only [Bool.and_eq_true] at h
    obtain ⟨hr, hi⟩ := h
    have hw : 0 < who := by
      have := hi
      unfold inB at this
      simp at this
      omega
    obtain ⟨_, _, _, ho1, ho2, _⟩ := raceOk_parts hr
    obtain ⟨xf, rfl⟩ := Int.eq_ofNat_of_zero_le (sqR_of ho1).1
    obtain ⟨yo, rfl⟩ := Int.eq_ofNat_of_zero_le (sqR_of ho2).1
    obtain ⟨R, hR⟩ := winR_exists (nx := nxP s o js me) (won := wonQ s) (m := f.toNat) (q0 := cd (s.toNat + 1) xf yo 0) hw
    exact ⟨_, _, fun A c W hj => specShortestWin_yes s f o me who xf yo A c js R W hj (by rw [ha, hr, hi]; rfl) hR, fun A c W hj => implShortestWin_any s f o me xf yo who A c js R W hj (.inr ⟨hr, hi, hw, by simpa only [Int.toNat_natCast] using hR⟩)⟩
end Go.Proofs.Ytbblmbibddjedaa

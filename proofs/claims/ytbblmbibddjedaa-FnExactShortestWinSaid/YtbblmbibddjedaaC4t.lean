/-
  Races: isWho; CanWin on both sides.
-/
import Derived.Test.YtbblmbibddjedaaC4o
import Derived.Test.YtbblmbibddjedaaC4s
import Derived.Test.YtbblmbibddjedaaC4j
import Derived.Test.YtbblmbibddjedaaC4c
namespace Go.Proofs.Ytbblmbibddjedaa
open Go.RowKit

theorem winR_exists {nx : Nat → Nat → Nat} {won : Nat → Int} {m : Nat} {who : Int} {q0 : Nat} (hw : 0 < who) : ∃ R, WinR nx won m who q0 R := by
  by_cases h : ∃ ys, WinL nx won m who q0 ys
  · obtain ⟨ys, hy⟩ := h
    have least : ∀ n (ys : List Nat), ys.length ≤ n → WinL nx won m who q0 ys → ∃ t, DistW nx won m who q0 t := by
      intro n
      induction n with
      | zero => intro ys hl hy; exact ⟨0, ⟨⟨ys, by omega, hy⟩, fun t' _ => Nat.zero_le _⟩⟩
      | succ n ih =>
        intro ys hl hy
        by_cases hs : ∃ zs : List Nat, zs.length < ys.length ∧ WinL nx won m who q0 zs
        · obtain ⟨zs, h1, h2⟩ := hs
          exact ih zs (by omega) h2
        · exact ⟨ys.length, ⟨⟨ys, rfl, hy⟩, fun t' ⟨zs, e, hz⟩ => by
            apply Classical.byContradiction
            intro hlt
            exact hs ⟨zs, by omega, hz⟩⟩⟩
    obtain ⟨t, ht⟩ := least _ ys (Nat.le_refl _) hy
    obtain ⟨xs, _, hf⟩ := ht.exists hw
    exact ⟨_, .inl ⟨xs, hf, rfl⟩⟩
  · exact ⟨_, .inr ⟨fun ys hy => h ⟨ys, hy⟩, rfl⟩⟩

theorem isWho_any (who : Int) (w : World) : Calls Try.prog 41 #[.int .i64 who] w fun e w' => e = .returned (.bool (inB who 1 2)) ∧ w' = w := by
  by_cases h1 : who = 1
  · subst h1
    go_enter Try.func41, Try.ntmps41
    go_wp2_with fail
    go_ret
    exact ⟨rfl, rfl⟩
  · by_cases h2 : who = 2
    · subst h2
      go_enter Try.func41, Try.ntmps41
      go_wp2_with fail
      go_ret
      exact ⟨rfl, rfl⟩
    · have hi : inB who 1 2 = false := by unfold inB; simp; omega
      rw [hi]
      have e1 : (who == 1) = false := by simpa using h1
      have e2 : (who == 2) = false := by simpa using h2
      clear hi
      go_enter Try.func41, Try.ntmps41
      go_wp2_with fail
      go_ret
      exact ⟨rfl, rfl⟩

/-- Two Bools handed back. -/
def BoolsW (w : World) (R : Bool × Bool) (e : Ending) (w' : World) : Prop := e = .returned (.tuple #[.bool R.1, .bool R.2]) ∧ Below w.heap.size w w'

set_option maxRecDepth 100000 in
theorem implCanWin_no (s f o me fi ot who : Int) (A : Option Addr) (c : Nat) (js : List (Int × Int)) (w : World) (hj : RJ w w.heap.size A js) (hr : (raceOk s f o js me fi ot && inB who 1 2) = false) :
    Calls Try.prog 19 #[.agg #[.int .i64 s, .int .i64 f, .int .i64 o, .slice A js.length c, .int .i64 me, .int .i64 fi, .int .i64 ot], .int .i64 who] w (BoolsW w (false, false)) := by
  have hl := hj.1
  cases hg : raceOk s f o js me fi ot
  · have HR := Lib.hid hg
    clear hg hr
    go_enter Try.func19, Try.ntmps19
    go_wp2_with fail
    refine (contestOf_no _ _ _ _ _ _ _ _ _ _ (hj.go (below1 _ _)) HR.out).mono ?_
    rintro e w1 ⟨rfl, hx⟩
    have hst := storeContest 0 0 0 (fun _ => 0) false 0 0
    go_wp2_with fail
    go_ret2
    exact ⟨rfl, ((below1 _ _).trans (hx.mono (by simp))).alloc (by have := hx.size; simp at this; omega) _⟩
  · have hi : inB who 1 2 = false := by simpa [hg] using hr
    have HR := Lib.hid hg
    clear hg hr
    go_enter Try.func19, Try.ntmps19
    go_wp2_with fail
    refine (contestOf_yes _ _ _ _ _ _ _ _ _ _ (hj.go (below1 _ _)) HR.out).mono ?_
    rintro e w1 ⟨rfl, hx⟩
    have hst := storeContest s f o (fun i => jumpOf js i) (me == 1) fi ot
    go_wp2_with (go_at_call 41; refine (isWho_any _ _).mono ?_; rintro e w2 ⟨rfl, rfl⟩; rw [hi])
    go_ret2
    exact ⟨rfl, ((below1 _ _).trans (hx.mono (by simp))).alloc (by have := hx.size; simp at this; omega) _⟩

set_option maxRecDepth 100000 in
set_option maxHeartbeats 1000000 in
theorem implCanWin_yes (s f o me fi ot who : Int) (A : Option Addr) (c : Nat) (js : List (Int × Int)) (R : List Int × Bool) (w : World) (hj : RJ w w.heap.size A js) (hr : raceOk s f o js me fi ot = true) (hi : inB who 1 2 = true) (hwho : 0 < who)
    (hR : WinR (nxP s o js me) (wonQ s) f.toNat who (cd (s.toNat + 1) fi.toNat ot.toNat 0) R) :
    Calls Try.prog 19 #[.agg #[.int .i64 s, .int .i64 f, .int .i64 o, .slice A js.length c, .int .i64 me, .int .i64 fi, .int .i64 ot], .int .i64 who] w (BoolsW w (R.2, true)) := by
  have hl := hj.1
  have HR := Lib.hid hr; have HW := Lib.hid hR
  clear hr hR
  go_enter Try.func19, Try.ntmps19
  go_wp2_with fail
  refine (contestOf_yes _ _ _ _ _ _ _ _ _ _ (hj.go (below1 _ _)) HR.out).mono ?_
  rintro e w1 ⟨rfl, hx⟩
  have hst := storeContest s f o (fun i => jumpOf js i) (me == 1) fi ot
  have hNA : NA (w1.alloc (.cells (ctsCells s f o (fun i => jumpOf js i) (me == 1) fi ot) 60)) w1.heap.size s f o (fun i => jumpOf js i) (me == 1) fi ot := heap_alloc_at _ _ _ rfl
  have HNV := Lib.hid hNA.nv
  have hB1 := ((below1 _ _).trans (hx.mono (by simp))).alloc (by have := hx.size; simp at this; omega) (.cells (ctsCells s f o (fun i => jumpOf js i) (me == 1) fi ot) 60)
  clear hNA
  go_wp2_with (go_at_call 41; refine (isWho_any _ _).mono ?_; rintro e w2 ⟨rfl, rfl⟩; rw [hi])
  refine (firstWin_any _ s f o me fi ot who js R _ HNV.out (by simp) HR.out hwho HW.out).mono ?_
  rintro e w3 ⟨A', c', rfl, _, hx3⟩
  go_wp2_with fail
  go_ret2
  exact ⟨rfl, hB1.trans (hx3.mono hB1.size)⟩

set_option maxRecDepth 100000 in
theorem specCanWin_no (s f o me fi ot who : Int) (A : Option Addr) (c : Nat) (js : List (Int × Int)) (w : World) (hj : RJ w w.heap.size A js) (hr : askedR s f o js me fi ot 0 who = false) :
    Calls Try.prog 18 #[.agg #[.int .i64 s, .int .i64 f, .int .i64 o, .slice A js.length c, .int .i64 me, .int .i64 fi, .int .i64 ot], .int .i64 who] w (BoolsW w (false, false)) := by
  have hl := hj.1
  have hw0 : Below w.heap.size w (w.alloc (.cells #[.int .i64 s, .int .i64 f, .int .i64 o, .slice A js.length c, .int .i64 me, .int .i64 fi, .int .i64 ot] 33)) := below1 _ _
  go_enter Try.func18, Try.ntmps18
  go_wp2_with (go_at_call 38; refine (raAsked_any _ _ _ _ _ _ _ _ _ _ _ _ ((hj.below hw0).more (by simp))).mono ?_; rintro e w1 ⟨rfl, hx⟩; rw [hr])
  go_ret2
  exact ⟨rfl, hw0.trans (hx.mono (by simp))⟩

set_option maxRecDepth 100000 in
set_option maxHeartbeats 1000000 in
theorem specCanWin_yes (s f o me who : Int) (xf yo : Nat) (A : Option Addr) (c : Nat) (js : List (Int × Int)) (R : List Int × Bool) (w : World) (hj : RJ w w.heap.size A js) (hr : askedR s f o js me xf yo 0 who = true)
    (hR : WinR (nxP s o js me) (wonQ s) f.toNat who (cd (s.toNat + 1) xf yo 0) R) :
    Calls Try.prog 18 #[.agg #[.int .i64 s, .int .i64 f, .int .i64 o, .slice A js.length c, .int .i64 me, .int .i64 xf, .int .i64 yo], .int .i64 who] w (BoolsW w (R.2, true)) := by
  have hl := hj.1
  have hr0 : raceOk s f o js me xf yo = true ∧ 1 ≤ who ∧ who ≤ 2 := by
    unfold askedR at hr
    simp only [Bool.and_eq_true] at hr
    obtain ⟨h1, _, h2⟩ := hr
    unfold inB at h2
    simp at h2
    exact ⟨h1, by omega, by omega⟩
  obtain ⟨hrc, hw1, hw2⟩ := hr0
  obtain ⟨hgd, h40, _, ho1, ho2, _⟩ := raceOk_parts hrc
  have hsx := sqR_of ho1
  have hsy := sqR_of ho2
  have hxs := hsx.2.1
  have hys := hsy.2.1
  have hok0 := okQ_cd (t := 0) hsx hsy (by omega)
  simp only [Int.toNat_natCast] at hok0
  have hq0n := okQ_lt hok0
  have hs1 : 1 ≤ s := by have := (good_sizes hgd).1.1; omega
  have hmu : muQ s (cd (s.toNat + 1) xf yo 0) = cd (s.toNat + 1) xf yo 0 := by
    unfold muQ
    split
    · unfold cd; omega
    · rfl
  have hwin : ∀ ys, WinL (nxS s o js me) (wonQ s) f.toNat who (cd (s.toNat + 1) xf yo 0) ys ↔ WinL (nxP s o js me) (wonQ s) f.toNat who (cd (s.toNat + 1) xf yo 0) ys := fun ys => by
    have := win_both (s := s) (o := o) (js := js) (me := me) (m := f.toNat) (who := who) ys (cd (s.toNat + 1) xf yo 0)
    rwa [hmu] at this
  have HA := Lib.hid hr; have HRC := Lib.hid hrc; have HR := Lib.hid hR; have HWIN := Lib.hid hwin; have HQN := Lib.hid hq0n
  clear hr hrc hR hwin hq0n hgd ho1 ho2 hsx hsy hok0 hmu
  have hw0 : Below w.heap.size w (w.alloc (.cells #[.int .i64 s, .int .i64 f, .int .i64 o, .slice A js.length c, .int .i64 me, .int .i64 xf, .int .i64 yo] 33)) := below1 _ _
  go_enter Try.func18, Try.ntmps18
  go_wp2_with fail
  refine (raAsked_any _ _ _ _ _ _ _ _ _ _ _ _ ((hj.below hw0).more (by simp))).mono ?_
  rintro e w1 ⟨rfl, hx⟩
  rw [HA.out]
  have hb := box_on (Below.refl _ _) hx (by simp)
  have q := boxcells hb
  have hb' := hw0.trans (hb.mono (by omega))
  clear hx
  go_wp2_with fail
  refine (raFar_any _ _ _ _ _ _ _ _ _ _ _ ((hj.below hb').more (by have := hb'.size; exact this)) HRC.out (by omega) hw2).mono ?_
  rintro e w2 ⟨g, F, L, Q, rfl, hgb, hrow, hreach, hL, _, _, hy⟩
  replace hb := box_on hb hy (by have := hb.size; simpa using this)
  replace q := boxcells hb
  have hb2 := hw0.trans (hb.mono (by omega))
  have hq := hreach _ .refl
  simp only [Int.toNat_natCast] at hq
  obtain ⟨v, hv, hv2⟩ : ∃ v : Int, v = farW F L (cd (s.toNat + 1) xf yo 0) ∧ (decide (v ≥ 0)) = R.2 ∧ -1 ≤ v ∧ v ≤ 4000 := by
    refine ⟨_, rfl, ?_⟩
    have hLq := hL (cd (s.toNat + 1) xf yo 0)
    cases hF : F (cd (s.toNat + 1) xf yo 0)
    · rw [farW_no hF]
      have hno := hq.2 hF
      rcases HR.out with ⟨p, hp, _⟩ | ⟨_, rfl⟩
      · exact absurd ((HWIN.out p).2 hp.1) (hno p)
      · exact ⟨rfl, by omega, by omega⟩
    · rw [farW_yes hF]
      obtain ⟨h1, hd⟩ := hq.1 hF
      obtain ⟨⟨ys, _, hys⟩, _⟩ := hd
      rcases HR.out with ⟨p, hp, rfl⟩ | ⟨hno, _⟩
      · exact ⟨by simp; omega, by omega, by omega⟩
      · exact absurd ((HWIN.out ys).1 hys) (hno ys)
  obtain ⟨q0, hq0⟩ : ∃ q0, q0 = cd (s.toNat + 1) xf yo 0 := ⟨_, rfl⟩
  have hc2 := hrow.cell (by rw [hq0]; exact HQN.out : q0 < _)
  have hqn : q0 < 2 * ((s.toNat + 1) * (s.toNat + 1)) := by rw [hq0]; exact HQN.out
  rw [← hq0] at hv
  rw [← hv] at hc2
  have hrl := hrow.lt
  have HQ0 := Lib.hid hq0
  clear hq hreach hL HR HWIN HQN hq0 hv hrow hy
  generalize 2 * ((s.toNat + 1) * (s.toNat + 1)) = n at hqn ⊢
  have hqi : (q0 : Int) < (n : Int) := by omega
  obtain ⟨hv3, hv4, hv5⟩ := hv2
  go_wp2_with fail
  refine (raStart_any _ _ _ _ _ _ _ _ _ _ hs1 h40 hxs hys).mono ?_
  rintro e w3 ⟨rfl, hx3⟩
  rw [← HQ0.out]
  have hc3 := (bcell hx3 hrl).trans hc2
  go_wp2_with fail
  go_ret2
  refine ⟨?_, hb2.trans (hx3.mono hb2.size)⟩
  rw [← hv3]; rfl

theorem canWin_both (s f o me fi ot : Int) (js : List (Int × Int)) (who : Int) : ∃ (x ok : Bool),
    (∀ (A : Option Addr) (c : Nat) (W : World), RJ W W.heap.size A js → Calls Try.prog 18 #[.agg #[.int .i64 s, .int .i64 f, .int .i64 o, .slice A js.length c, .int .i64 me, .int .i64 fi, .int .i64 ot], .int .i64 who] W (BoolsW W (x, ok))) ∧
    (∀ (A : Option Addr) (c : Nat) (W : World), RJ W W.heap.size A js → Calls Try.prog 19 #[.agg #[.int .i64 s, .int .i64 f, .int .i64 o, .slice A js.length c, .int .i64 me, .int .i64 fi, .int .i64 ot], .int .i64 who] W (BoolsW W (x, ok))) := by
  have ha : askedR s f o js me fi ot 0 who = (raceOk s f o js me fi ot && inB who 1 2) := by
    unfold askedR
    rw [show inB 0 0 14 = true from rfl, Bool.true_and]
  cases h : raceOk s f o js me fi ot && inB who 1 2
  · exact ⟨false, false, fun A c W hj => specCanWin_no s f o me fi ot who A c js W hj (by rw [ha]; exact h), fun A c W hj => implCanWin_no s f o me fi ot who A c js W hj h⟩
  · simp only [Bool.and_eq_true] at h
    obtain ⟨hr, hi⟩ := h
    have hw : 0 < who := by
      have := hi
      unfold inB at this
      simp at this
      omega
    obtain ⟨_, _, _, ho1, ho2, _⟩ := raceOk_parts hr
    obtain ⟨xf, rfl⟩ := Int.eq_ofNat_of_zero_le (sqR_of ho1).1
    obtain ⟨yo, rfl⟩ := Int.eq_ofNat_of_zero_le (sqR_of ho2).1
    obtain ⟨R, hR⟩ := winR_exists (nx := nxP s o js me) (won := wonQ s) (m := f.toNat) (q0 := cd (s.toNat + 1) xf yo 0) hw
    exact ⟨R.2, true, fun A c W hj => specCanWin_yes s f o me who xf yo A c js R W hj (by rw [ha, hr, hi]; rfl) hR, fun A c W hj => implCanWin_yes s f o me xf yo who A c js R W hj hr hi hw (by simpa only [Int.toNat_natCast] using hR)⟩
end Go.Proofs.Ytbblmbibddjedaa

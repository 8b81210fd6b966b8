/-
  Races: the program's FirstWin; ShortestWin on both sides.
-/
import Derived.Test.YtknclgfjoajldabC4t
import Derived.Test.YtknclgfjoajldabC4n
namespace Go.Proofs.Ytknclgfjoajldab
open Go.RowKit

theorem distW_iff {nx nx' : Nat → Nat → Nat} {won won' : Nat → Int} {m q q' t : Nat} {who : Int} (h : ∀ ys, WinL nx won m who q ys ↔ WinL nx' won' m who q' ys) : DistW nx won m who q t ↔ DistW nx' won' m who q' t := by
  unfold DistW
  have e : (fun t => ∃ xs : List Nat, xs.length = t ∧ WinL nx won m who q xs) = (fun t => ∃ xs : List Nat, xs.length = t ∧ WinL nx' won' m who q' xs) := by
    funext t
    simp only [h]
  rw [e]

set_option maxRecDepth 100000 in
theorem implFirstWin_no (s f o me fi ot who : Int) (A : Option Addr) (c : Nat) (js : List (Int × Int)) (w : World) (hj : RJ w w.heap.size A js) (hr : (raceOk s f o js me fi ot && inB who 1 2) = false) :
    Calls Try.prog 31 #[.agg #[.int .i64 s, .int .i64 f, .int .i64 o, .slice A js.length c, .int .i64 me, .int .i64 fi, .int .i64 ot], .int .i64 who] w (IntsBack w ([], false)) := by
  have hl := hj.1
  cases hg : raceOk s f o js me fi ot
  · have HR := Lib.hid hg
    clear hg hr
    go_enter Try.func31, Try.ntmps31
    go_wp2_with fail
    refine (contestOf_no _ _ _ _ _ _ _ _ _ _ (hj.go (below1 _ _)) HR.out).mono ?_
    rintro e w1 ⟨rfl, hx⟩
    have hst := storeContest 0 0 0 (fun _ => 0) false 0 0
    go_wp2_with fail
    go_ret2
    exact ⟨none, 0, rfl, .inl rfl, ((below1 _ _).trans (hx.mono (by simp))).alloc (by have := hx.size; simp at this; omega) _⟩
  · have hi : inB who 1 2 = false := by simpa [hg] using hr
    have HR := Lib.hid hg
    clear hg hr
    go_enter Try.func31, Try.ntmps31
    go_wp2_with fail
    refine (contestOf_yes _ _ _ _ _ _ _ _ _ _ (hj.go (below1 _ _)) HR.out).mono ?_
    rintro e w1 ⟨rfl, hx⟩
    have hst := storeContest s f o (fun i => jumpOf js i) (me == 1) fi ot
    go_wp2_with (go_at_call 54; refine (isWho_any _ _).mono ?_; rintro e w2 ⟨rfl, rfl⟩; rw [hi])
    go_ret2
    exact ⟨none, 0, rfl, .inl rfl, ((below1 _ _).trans (hx.mono (by simp))).alloc (by have := hx.size; simp at this; omega) _⟩

set_option maxRecDepth 100000 in
set_option maxHeartbeats 1000000 in
theorem implFirstWin_yes (s f o me fi ot who : Int) (A : Option Addr) (c : Nat) (js : List (Int × Int)) (R : List Int × Bool) (w : World) (hj : RJ w w.heap.size A js) (hr : raceOk s f o js me fi ot = true) (hi : inB who 1 2 = true) (hwho : 0 < who)
    (hR : WinR (nxP s o js me) (wonQ s) f.toNat who (cd (s.toNat + 1) fi.toNat ot.toNat 0) R) :
    Calls Try.prog 31 #[.agg #[.int .i64 s, .int .i64 f, .int .i64 o, .slice A js.length c, .int .i64 me, .int .i64 fi, .int .i64 ot], .int .i64 who] w (IntsBack w R) := by
  have hl := hj.1
  have HR := Lib.hid hr; have HW := Lib.hid hR
  clear hr hR
  go_enter Try.func31, Try.ntmps31
  go_wp2_with fail
  refine (contestOf_yes _ _ _ _ _ _ _ _ _ _ (hj.go (below1 _ _)) HR.out).mono ?_
  rintro e w1 ⟨rfl, hx⟩
  have hst := storeContest s f o (fun i => jumpOf js i) (me == 1) fi ot
  have hNA : NA (w1.alloc (.cells (ctsCells s f o (fun i => jumpOf js i) (me == 1) fi ot) 85)) w1.heap.size s f o (fun i => jumpOf js i) (me == 1) fi ot := heap_alloc_at _ _ _ rfl
  have HNV := Lib.hid hNA.nv
  have hB1 := ((below1 _ _).trans (hx.mono (by simp))).alloc (by have := hx.size; simp at this; omega) (.cells (ctsCells s f o (fun i => jumpOf js i) (me == 1) fi ot) 85)
  clear hNA
  go_wp2_with (go_at_call 54; refine (isWho_any _ _).mono ?_; rintro e w2 ⟨rfl, rfl⟩; rw [hi])
  refine (firstWin_any _ s f o me fi ot who js R _ HNV.out (by simp) HR.out hwho HW.out).mono ?_
  rintro e w3 ⟨A', c', rfl, ho, hx3⟩
  go_wp2_with fail
  go_ret2
  refine ⟨A', c', rfl, ?_, hB1.trans (hx3.mono hB1.size)⟩
  rcases ho with h | ⟨g', e, hg', hr⟩
  · exact .inl h
  · exact .inr ⟨g', e, by have := hB1.size; omega, hr⟩


theorem implFirstWin_any (s f o me fi ot who : Int) (A : Option Addr) (c : Nat) (js : List (Int × Int)) (R : List Int × Bool) (w : World) (hj : RJ w w.heap.size A js)
    (hR : ((raceOk s f o js me fi ot && inB who 1 2) = false ∧ R = ([], false)) ∨ (raceOk s f o js me fi ot = true ∧ inB who 1 2 = true ∧ 0 < who ∧ WinR (nxP s o js me) (wonQ s) f.toNat who (cd (s.toNat + 1) fi.toNat ot.toNat 0) R)) :
    Calls Try.prog 31 #[.agg #[.int .i64 s, .int .i64 f, .int .i64 o, .slice A js.length c, .int .i64 me, .int .i64 fi, .int .i64 ot], .int .i64 who] w (IntsBack w R) := by
  rcases hR with ⟨h, rfl⟩ | ⟨h1, h2, h3, h4⟩
  · exact implFirstWin_no s f o me fi ot who A c js w hj h
  · exact implFirstWin_yes s f o me fi ot who A c js R w hj h1 h2 h3 h4




end Go.Proofs.Ytknclgfjoajldab

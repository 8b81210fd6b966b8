/-
  Contracts of the laws' helpers on races: marks.
-/
import Derived.Test.YtknclgfjoajldabL5
import Derived.Test.YtknclgfjoajldabL7
namespace Go.Proofs.Ytknclgfjoajldab
open Go.RowKit

theorem markRace_any (s f o me fi ot : Int) (A : Option Addr) (n c lo : Nat) (F : Nat → Int × Int) (k0 : Int) (w : World) (h : OJ w lo 121 A n F) (hn : n ≤ 1048576) (h0 : 0 ≤ k0) (h1 : k0 ≤ 1000000000) :
    Calls Try.prog 33 #[.agg #[.int .i64 s, .int .i64 f, .int .i64 o, .slice A n c, .int .i64 me, .int .i64 fi, .int .i64 ot], .int .i64 k0] w fun e w' => e = .returned (.int .i64 (k0 + 2 * n)) ∧ OJ w' lo 121 A n (marksJ k0) ∧ w.grownBy w' (A.map (·.block)) := by
  have ha : OJ (w.alloc (.cells #[.int .i64 s, .int .i64 f, .int .i64 o, .slice A n c, .int .i64 me, .int .i64 fi, .int .i64 ot] 48)) lo 121 A n F := by
    rcases h with h | ⟨g, e, hl, h⟩
    · exact .inl h
    · exact .inr ⟨g, e, hl, h.alloc _⟩
  go_enter Try.func33, Try.ntmps33
  go_wp2_with (go_at_call 57; refine (markBoard_any _ _ _ _ _ _ _ _ _ _ ha hn h0 h1).mono ?_; rintro e w2 ⟨rfl, ho, hg⟩)
  go_ret
  exact ⟨rfl, ho, grown_trans (World.grownBy_alloc w _ _) hg⟩

theorem markRaceK_any (s f o me fi ot : Int) (A : Option Addr) (n c lo : Nat) (F : Nat → Int × Int) (k0 : Int) (w : World) (h : OJ w lo 121 A n F) (hlo : lo ≤ w.heap.size) (hn : n ≤ 1048576) (h0 : 0 ≤ k0) (h1 : k0 ≤ 1000000000) :
    Calls Try.prog 33 #[.agg #[.int .i64 s, .int .i64 f, .int .i64 o, .slice A n c, .int .i64 me, .int .i64 fi, .int .i64 ot], .int .i64 k0] w fun e w' =>
      e = .returned (.int .i64 (k0 + 2 * n)) ∧ OJ w' lo 121 A n (marksJ k0) ∧ Below lo w w' ∧ ∃ row, w.grownBy w' row ∧ ∀ g, row = some g → lo ≤ g ∧ ∃ F', RowJ w g 121 n F' := by
  by_cases hz : n = 0
  · have HM := Lib.hid (fun W : World => markBoard0_any s f o A n c k0 W hz h0 h1)
    have HZ := Lib.hid hz
    clear hz h
    go_enter Try.func33, Try.ntmps33
    go_wp2_with (go_at_call 57; refine (HM.out _).mono ?_; rintro e w2 ⟨rfl, hx⟩)
    go_ret
    have hb := (below1 w _).trans (hx.mono (by simp))
    exact ⟨rfl, .inl HZ.out, hb.mono hlo, none, below_grown hb none, fun g e => by cases e⟩
  · obtain ⟨g, rfl, hg, hr⟩ := h.resolve_left hz
    refine (markRace_any s f o me fi ot (some ⟨g, 0, none⟩) n c lo F k0 w (.inr ⟨g, rfl, hg, hr⟩) hn h0 h1).mono ?_
    rintro e w' ⟨rfl, ho, hgr⟩
    have hgr' : w.grownBy w' (some g) := hgr
    exact ⟨rfl, ho, grown_below hgr' hlo (fun k e => by cases e; exact hg), some g, hgr', fun k e => by cases e; exact ⟨hg, F, hr⟩⟩

end Go.Proofs.Ytknclgfjoajldab

/-
  Races: isWho; CanWin on both sides.
-/
import Derived.Test.YtknclgfjoajldabC4o
import Derived.Test.YtknclgfjoajldabC4s
import Derived.Test.YtknclgfjoajldabC4j
import Derived.Test.YtknclgfjoajldabC4c
namespace Go.Proofs.Ytknclgfjoajldab
open Go.RowKit

theorem winR_exists {nx : Nat → Nat → Nat} {won : Nat → Int} {m : Nat} {who : Int} {q0 : Nat} (hw : 0 < who) : ∃ R, WinR nx won m who q0 R := by
  by_cases h : ∃ ys, WinL nx won m who q0 ys
  · obtain ⟨ys, hy⟩ := h
    have least : ∀ n (ys : List Nat), ys.length ≤ n → WinL nx won m who q0 ys → ∃ t, DistW nx won m who q0 t := by
      intro n
      induction n with
      | zero => intro ys hl hy; exact ⟨0, ⟨⟨ys, by omega, hy⟩, fun t' _ => Nat.zero_le _⟩⟩
      | succ n ih =>
        intro ys hl hy
        by_cases hs : ∃ zs : List Nat, zs.length < ys.length ∧ WinL nx won m who q0 zs
        · obtain ⟨zs, h1, h2⟩ := hs
          exact ih zs (by omega) h2
        · exact ⟨ys.length, ⟨⟨ys, rfl, hy⟩, fun t' ⟨zs, e, hz⟩ => by
            apply Classical.byContradiction
            intro hlt
            exact hs ⟨zs, by omega, hz⟩⟩⟩
    obtain ⟨t, ht⟩ := least _ ys (Nat.le_refl _) hy
    obtain ⟨xs, _, hf⟩ := ht.exists hw
    exact ⟨_, .inl ⟨xs, hf, rfl⟩⟩
  · exact ⟨_, .inr ⟨fun ys hy => h ⟨ys, hy⟩, rfl⟩⟩

theorem isWho_any (who : Int) (w : World) : Calls Try.prog 54 #[.int .i64 who] w fun e w' => e = .returned (.bool (inB who 1 2)) ∧ w' = w := by
  by_cases h1 : who = 1
  · subst h1
    go_enter Try.func54, Try.ntmps54
    go_wp2_with fail
    go_ret
    exact ⟨rfl, rfl⟩
  · by_cases h2 : who = 2
    · subst h2
      go_enter Try.func54, Try.ntmps54
      go_wp2_with fail
      go_ret
      exact ⟨rfl, rfl⟩
    · have hi : inB who 1 2 = false := by unfold inB; simp; omega
      rw [hi]
      have e1 : (who == 1) = false := by simpa using h1
      have e2 : (who == 2) = false := by simpa using h2
      clear hi
      go_enter Try.func54, Try.ntmps54
      go_wp2_with fail
      go_ret
      exact ⟨rfl, rfl⟩

/-- Two Bools handed back. -/
def BoolsW (w : World) (R : Bool × Bool) (e : Ending) (w' : World) : Prop := e = .returned (.tuple #[.bool R.1, .bool R.2]) ∧ Below w.heap.size w w'





end Go.Proofs.Ytknclgfjoajldab

/-
  Squares that are reached, the program's: reached.
-/
import Derived.Test.YtjngiinfpoappaaC1k
import Derived.Test.YtjngiinfpoappaaC1d
import Derived.Deep.LoopGhost
namespace Go.Proofs.Ytjngiinfpoappaa
open Go.RowKit

theorem boolZero : Try.zeroCells152 = arrT (fun _ => false) := by kernel_rfl
theorem sizeBools : (Try.prog.info? 152).map (·.size) = some 101 := by kernel_rfl
/-- What the program's search hands back. -/
def ReachArr (w : World) (s f o : Int) (js : List (Int × Int)) (q : Nat) (e : Ending) (w' : World) : Prop :=
  ∃ F, e = .returned (.agg (arrT F)) ∧ (∀ i, F i = true ↔ Rch (nxB s o js) f.toNat q i) ∧ Below w.heap.size w w'
/-- The front of a row. -/
theorem own_cut {w : World} {base e g n c m : Nat} {xs : List Value} (h : w.ownsRow base e 1 (.slice (some ⟨g, 0, none⟩) n c) n xs) (hm : m ≤ n) : w.ownsRow base e 1 (.slice (some ⟨g, 0, none⟩) m c) m (xs.take m) := by
  obtain ⟨h0, ⟨hv, _⟩ | ⟨g', cap, cs, hv, hb, hh, hn, hx, hsz, htk⟩⟩ := h
  · cases hv
  · injection hv with h1 h2 h3
    injection h1 with h1; injection h1 with h1 _ _
    subst h1; subst h3
    refine ⟨by rw [List.length_take, h0]; omega, .inr ⟨g, c, cs, rfl, hb, hh, by omega, hx, hsz, ?_⟩⟩
    rw [← htk, List.take_take]
    congr 1
    omega

end Go.Proofs.Ytjngiinfpoappaa

/-
  Squares that are reached, the program's: reached. Numbers selected; an array of 101 Bools read at an index.
-/
import Derived.Test.YteogfondnpfklaaC1k
import Derived.Test.YteogfondnpfklaaC1d
import Derived.Deep.LoopGhost
namespace Go.Proofs.Yteogfondnpfklaa
open Go.RowKit

theorem boolZero : Try.zeroCells195 = arrT (fun _ => false) := by kernel_rfl
theorem sizeBools : (Try.prog.info? 195).map (·.size) = some 101 := by kernel_rfl
/-- What the program's search hands back. -/
def ReachArr (w : World) (s f o : Int) (js : List (Int × Int)) (q : Nat) (e : Ending) (w' : World) : Prop :=
  ∃ F, e = .returned (.agg (arrT F)) ∧ (∀ i, F i = true ↔ Rch (nxB s o js) f.toNat q i) ∧ Below w.heap.size w w'
/-- The front of a row. -/
theorem own_cut {w : World} {base e g n c m : Nat} {xs : List Value} (h : w.ownsRow base e 1 (.slice (some ⟨g, 0, none⟩) n c) n xs) (hm : m ≤ n) : w.ownsRow base e 1 (.slice (some ⟨g, 0, none⟩) m c) m (xs.take m) := by
  obtain ⟨h0, ⟨hv, _⟩ | ⟨g', cap, cs, hv, hb, hh, hn, hx, hsz, htk⟩⟩ := h
  · cases hv
  · injection hv with h1 h2 h3
    injection h1 with h1; injection h1 with h1 _ _
    subst h1; subst h3
    refine ⟨by rw [List.length_take, h0]; omega, .inr ⟨g, c, cs, rfl, hb, hh, by omega, hx, hsz, ?_⟩⟩
    rw [← htk, List.take_take]
    congr 1
    omega

end Go.Proofs.Yteogfondnpfklaa

namespace Go.Proofs.Yteogfondnpfklaa
open Go.RowKit

/-- The numbers below n at which F holds. -/
def selL (F : Nat → Bool) (n : Nat) : List Int := ((List.range n).filter F).map (fun i : Nat => (i : Int))
theorem selL_succ (F : Nat → Bool) (k : Nat) : selL F (k + 1) = selL F k ++ if F k then [(k : Int)] else [] := by
  unfold selL
  rw [List.range_succ, List.filter_append, List.map_append]
  cases h : F k <;> simp [h]
theorem selL_len (F : Nat → Bool) (k : Nat) : (selL F k).length ≤ k := by
  unfold selL
  have := List.length_filter_le F (List.range k)
  simp at this ⊢; exact this
theorem selL_more {F : Nat → Bool} {m : Nat} (n : Nat) (hmn : m ≤ n) (h : ∀ i, m ≤ i → F i = false) : selL F n = selL F m := by
  induction hmn with
  | refl => rfl
  | @step k hk ih => rw [selL_succ, h k hk, ih]; simp
theorem same_of {P : Nat → Prop} {F G : Nat → Bool} (hF : ∀ i, F i = true ↔ P i) (hG : ∀ i, G i = true ↔ P i) : G = F := by
  funext i
  rw [Bool.eq_iff_iff, hF, hG]
theorem arrTIdx (P : Nat → Bool) {k : Nat} (hk : k < 101) (w : World) : (Instr.index 195 (.agg (arrT P)) (.int .i64 k)).run Try.prog w = .ok (.bool (P k)) w := by
  have h1 : (0 : Int) ≤ (k : Int) ∧ (k : Int) < ((101 : Nat) : Int) := by omega
  have hs : (arrT P)[k]? = some (.bool (P k)) := arrT_at P hk
  have hu : Try.prog.underlying 195 = some (.array (Try.prog.arrayLen 195) (Try.prog.elem 195)) := by kernel_rfl
  have hn : Try.prog.arrayLen 195 = 101 := by kernel_rfl
  have he : (sizeOf (Try.prog.elem 195)).run Try.prog w = .ok 1 w := by kernel_rfl
  have hc : (part (Try.prog.elem 195) (arrT P) (((k : Int)).toNat * 1)).run Try.prog w = .ok (.bool (P k)) w := by
    rw [Int.toNat_natCast, Nat.mul_one]
    simp [part, hs, go_sem]
  simp only [Instr.index, asIntOf, Sem.run_bind, Sem.run_pure, Result.andThen_ok, run_underlying hu, hn]
  rw [if_pos h1]
  simp only [Sem.run_bind, he, Result.andThen_ok]
  exact hc
theorem rch_ok {s f o : Int} {js : List (Int × Int)} {q : Nat} (h : asked s f o js q = true) : ∀ i, Rch (nxB s o js) f.toNat q i → okB s js i := fun i hi => by
  induction hi with
  | refl => exact okB_of (asked_on h)
  | step _ h1 h2 ih => exact okB_next (asked_good h) f.toNat _ ih _ h1 h2
theorem onSq_ok {s : Int} {js : List (Int × Int)} {x : Nat} (h : okB s js x) : onSq s js x = true := by
  rw [onSq, inB_iff.2 ⟨by omega, h.1⟩, Bool.true_and, h.2]; simp
end Go.Proofs.Yteogfondnpfklaa

/-
  FewestThrows, the model's and the program's.
-/
import Derived.Test.YteogfondnpfklaaC1n
import Derived.Test.YteogfondnpfklaaC1o
namespace Go.Proofs.Yteogfondnpfklaa
open Go.RowKit

/-- A number and a bool are handed back. -/
def NumIs (w : World) (R : Int × Bool) (e : Ending) (w' : World) : Prop := e = .returned (.tuple #[.int .i64 R.1, .bool R.2]) ∧ Below w.heap.size w w'
/-- The least number of throws. -/
def FewR (s f o : Int) (js : List (Int × Int)) (q : Nat) (R : Int × Bool) : Prop :=
  (R.2 = true ∧ ∃ t : Nat, R.1 = (t : Int) ∧ Least (fun t => Way (eB s f o js) q t s.toNat) t) ∨ (R.2 = false ∧ R.1 = 0 ∧ ∀ t, ¬ Way (eB s f o js) q t s.toNat)
theorem least_ex {W : Nat → Prop} {t : Nat} (h : W t) : ∃ t, Least W t := by
  induction t using Nat.strongRecOn with
  | ind t ih =>
    rcases Classical.em (∃ t', t' < t ∧ W t') with ⟨t', h1, h2⟩ | hn
    · exact ih t' h1 h2
    · exact ⟨t, h, fun t' ht' => Nat.le_of_not_lt fun hl => hn ⟨t', hl, ht'⟩⟩
theorem FewR.uniq {s f o : Int} {js : List (Int × Int)} {q : Nat} {R R' : Int × Bool} (h : FewR s f o js q R) (h' : FewR s f o js q R') : R = R' := by
  obtain ⟨x, b⟩ := R
  obtain ⟨x', b'⟩ := R'
  rcases h with ⟨e, t, et, ht⟩ | ⟨e, et, hn⟩ <;> rcases h' with ⟨e', t', et', ht'⟩ | ⟨e', et', hn'⟩
  · have := ht.uniq ht'
    simp only at e e' et et'
    rw [e, e', et, et', this]
  · exact absurd ht.1 (hn' _)
  · exact absurd ht'.1 (hn _)
  · simp only at e e' et et'
    rw [e, e', et, et']



set_option maxRecDepth 100000 in
theorem implFewestThrows_no (s f o : Int) (A : Option Addr) (c : Nat) (sq : Int) (js : List (Int × Int)) (w : World) (hj : RJ w w.heap.size A js) (ha : asked s f o js sq = false) :
    Calls Try.prog 120 #[.agg #[.int .i64 s, .int .i64 f, .int .i64 o, .slice A js.length c], .int .i64 sq] w (NumIs w (0, false)) := by
  have hl := hj.1
  have hst := storeCourse 0 0 0 (fun _ => 0)
  have HA := Lib.hid ha; clear ha
  go_enter Try.func120, Try.ntmps120
  go_wp2_with fail
  refine (courseAt_no _ _ _ _ _ _ _ _ (hj.go (below1 _ _)) HA.out).mono ?_
  rintro e w2 ⟨rfl, hx⟩
  go_wp2
  go_ret2
  exact ⟨rfl, ((below1 _ _).trans (hx.mono (by simp))).alloc (by have := hx.size; simp at this; omega) _⟩

set_option maxRecDepth 100000 in
set_option maxHeartbeats 400000 in
theorem implFewestThrows_yes (s f o : Int) (A : Option Addr) (c : Nat) (q : Nat) (js : List (Int × Int)) (R : Int × Bool) (w : World) (hj : RJ w w.heap.size A js) (ha : asked s f o js q = true) (hR : FewR s f o js q R) :
    Calls Try.prog 120 #[.agg #[.int .i64 s, .int .i64 f, .int .i64 o, .slice A js.length c], .int .i64 q] w (NumIs w R) := by
  have hl := hj.1
  have hst := storeCourse s f o (fun i => jumpOf js i)
  have HA := Lib.hid ha; have HR := Lib.hid hR; clear ha hR
  go_enter Try.func120, Try.ntmps120
  go_wp2_with fail
  refine (courseAt_yes _ _ _ _ _ _ _ _ (hj.go (below1 _ _)) HA.out).mono ?_
  rintro e w2 ⟨rfl, hx⟩
  have hs2 : w.heap.size < w2.heap.size := by have := hx.size; simp at this; omega
  have hCn : CA (w2.alloc (.cells (crsCells s f o (fun i => jumpOf js i)) 138)) w2.heap.size s f o (fun i => jumpOf js i) := heap_alloc_at _ _ _ rfl
  have hB2 : Below w.heap.size w (w2.alloc (.cells (crsCells s f o (fun i => jumpOf js i)) 138)) := ((below1 _ _).trans (hx.mono (by simp))).alloc (by omega) _
  clear hx
  go_wp2_with fail
  refine (fewest_any _ _ _ _ _ _ _ hCn.cv (by simp) HA.out).mono ?_
  rintro e w3 ⟨x, ok, rfl, hr, hx3⟩
  have hr := HR.out.uniq (R' := (x, ok)) hr
  subst hr
  have hB3 := hB2.trans (hx3.mono (by simp; omega))
  clear hx3
  go_wp2
  go_ret2
  exact ⟨rfl, hB3⟩

end Go.Proofs.Yteogfondnpfklaa

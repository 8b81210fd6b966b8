/-
  The statement FnExactHopelessSquaresSaid: for every input laws.FnExactHopelessSquares returns true, and its arguments read behind the call as before it. No conditions.
-/
import Derived.Test.YtiekdokgjdgajaaFHopelessSquares
import Derived.Test.YtiekdokgjdgajaaR0
namespace Go.Proofs.Ytiekdokgjdgajaa
open Go.ChangeShapes Go.WideShapes Go.ChangeAt Go.RowKit Go.Deep Go.Joins

set_option maxRecDepth 100000 in
theorem hopelessSquares_lifted (os : Os) (started : os.Started) (H : Type) (enc : TypeId × Value → H) :
    ReturnsInHanded {} Try.checked os 15 .any (Rows.fnExactHopelessSquaresSpec.pre6 enc Try.prog Try.f15 Rows.fnExactHopelessSquaresRow.domain false) (Rows.fnExactHopelessSquaresSpec.post enc Try.prog Try.f15 false true false false) := by
  refine returnsInHanded_of_change (C := Try.checked) head_own started (by kernel_rfl) Try.func15
    (ChangeSpec.witness6 (enc := enc) (C := Try.checked) false ⟨#[], #[.agg #[.int .i64 0, .int .i64 0, .int .i64 0, .slice none 0 0]], []⟩ 8 (by kernel_rfl) (by kernel_rfl) (by kernel_rfl) (by kernel_rfl)) ?_
  intro W base args ds gs before hval hW _ _
  have hW' := hW
  obtain ⟨p, q, hA0, hV, rfl, _, _⟩ := hW
  have hA : DataW.TrodAll enc Try.prog W 0 (fun _ => true) true Try.f15.params.toList args.toList ds p := hA0
  have hA' := hA
  rw [Try.params15] at hA hval
  obtain ⟨v0, vs0, d0, ds0, p0, q0, hargs0, rfl, rfl, h0, r0⟩ := trodAll_cons hA
  obtain ⟨rfl, rfl, rfl⟩ := trodAll_nil r0
  obtain rfl : args = #[v0] := by cases args; simp_all
  obtain ⟨rfl, rfl⟩ := trodVars_none hV
  have fin : ∀ W' : World, Below W.heap.size W W' → Rows.fnExactHopelessSquaresSpec.post enc Try.prog Try.f15 false true false false W #[v0] (.bool true) W' := fun W' hb =>
    law_post head_laid hW' (by simpa using hA') rfl (by kernel_rfl) (T := 4) rfl Try.underlying4 rfl rfl rfl hb
  obtain ⟨s, f, o, A, n, c, rfl, _, _, _, hn, hj⟩ := open_board (hval 0 _ v0 rfl rfl) h0
  by_cases hb : n ≤ 1048576
  · obtain ⟨js, hjl, hj2⟩ := hj hb
    subst hjl
    exact (lawHopelessSquares_small s f o A c js W hj2).mono fun e W' ⟨he, hx⟩ => ⟨_, he, fin W' hx⟩
  · exact (lawHopelessSquares_big s f o A n c W hn (by omega)).mono fun e W' ⟨he, hx⟩ => ⟨_, he, fin W' hx⟩

theorem hopelessSquares_joined : joinedFacts Try.prog 15 Try.f15 Rows.fnExactHopelessSquaresSpec Rows.fnExactHopelessSquaresRow = true := by
  simp only [joinedFacts, Bool.and_eq_true]
  repeat' apply And.intro
  all_goals first
    | with_reducible exact head_enter
    | with_reducible exact head_laid
    | with_reducible exact head_maps
    | (rw [head_lifts]; as_aux_lemma => kernel_rfl)
    | (rw [head_make]; as_aux_lemma => kernel_rfl)
    | as_aux_lemma => kernel_rfl
theorem hopelessSquares_named : Try.prog.funcNamed Rows.fnExactHopelessSquaresRow.func = some 15 := by kernel_rfl
theorem hopelessSquares_wrap : Try.f15.isWrapper Try.prog Rows.fnExactHopelessSquaresRow.wrapper Rows.fnExactHopelessSquaresRow.mainSum := by unfold Func.isWrapper; first | (rw [if_pos (by decide +kernel)]; kernel_rfl) | (rw [if_neg (by decide +kernel)]; exact ⟨rfl, rfl⟩)
theorem hopelessSquares_inst : Try.f15.isInstance Try.prog Rows.fnExactHopelessSquaresRow.origin Rows.fnExactHopelessSquaresRow.targs := of_decide_eq_true (by kernel_rfl)

theorem hopelessSquares_holds : Rows.FnExactHopelessSquaresSaid :=
  OpenClaim.holds_of_wide 15 Try.f15 rfl rfl rfl rfl rfl rfl rfl ⟨rfl, rfl, rfl, rfl, rfl⟩ rfl rfl rfl rfl rfl hopelessSquares_named Try.func15 hopelessSquares_joined hopelessSquares_inst hopelessSquares_wrap
    (fun os started H enc _ => hopelessSquares_lifted os started H enc)
#print axioms hopelessSquares_holds
end Go.Proofs.Ytiekdokgjdgajaa

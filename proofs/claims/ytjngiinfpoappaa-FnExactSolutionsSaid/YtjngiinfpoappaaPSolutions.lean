/-
  The statement FnExactSolutionsSaid: for every input laws.FnExactSolutions returns true, and its arguments read behind the call as before it. No conditions.
-/
import Derived.Test.YtjngiinfpoappaaFSolutions
import Derived.Test.YtjngiinfpoappaaR80
namespace Go.Proofs.Ytjngiinfpoappaa
open Go.ChangeShapes Go.WideShapes Go.ChangeAt Go.RowKit Go.Deep Go.Joins

set_option maxRecDepth 100000 in
theorem solutions_lifted (os : Os) (started : os.Started) (H : Type) (enc : TypeId × Value → H) :
    ReturnsInHanded {} Try.checked os 4 .any (Rows.fnExactSolutionsSpec.pre6 enc Try.prog Try.f4 Rows.fnExactSolutionsRow.domain false) (Rows.fnExactSolutionsSpec.post enc Try.prog Try.f4 false true false false) := by
  refine returnsInHanded_of_change (C := Try.checked) head_own started (by kernel_rfl) Try.func4
    (ChangeSpec.witness6 (enc := enc) (C := Try.checked) false ⟨#[], #[.agg #[.int .i64 0, .int .i64 0, .slice none 0 0]], []⟩ 8 (by kernel_rfl) (by kernel_rfl) (by kernel_rfl) (by kernel_rfl)) ?_
  intro W base args ds gs before hval hW _ _
  have hW' := hW
  obtain ⟨p, q, hA0, hV, rfl, _, _⟩ := hW
  have hA : DataW.TrodAll enc Try.prog W 0 (fun _ => true) true Try.f4.params.toList args.toList ds p := hA0
  have hA' := hA
  rw [Try.params4] at hA hval
  obtain ⟨v0, vs0, d0, ds0, p0, q0, hargs0, rfl, rfl, h0, r0⟩ := trodAll_cons hA
  obtain ⟨rfl, rfl, rfl⟩ := trodAll_nil r0
  obtain rfl : args = #[v0] := by cases args; simp_all
  obtain ⟨rfl, rfl⟩ := trodVars_none hV
  have fin : ∀ W' : World, Below W.heap.size W W' → Rows.fnExactSolutionsSpec.post enc Try.prog Try.f4 false true false false W #[v0] (.bool true) W' := fun W' hb =>
    law_post head_laid hW' (by simpa using hA') rfl (by kernel_rfl) (T := 4) rfl Try.underlying4 rfl rfl rfl hb
  obtain ⟨q, f, A, n, c, rfl, hn, hj⟩ := open_puzzle (hval 0 _ v0 rfl rfl) h0
  by_cases hb : n ≤ 1048576
  · obtain ⟨L, hjl, hj2⟩ := hj hb
    subst hjl
    exact (lawSolutions_small q f A c L W hj2).mono fun e W' ⟨he, hx⟩ => ⟨_, he, fin W' hx⟩
  · exact (lawSolutions_big q f A n c W hn (by omega)).mono fun e W' ⟨he, hx⟩ => ⟨_, he, fin W' hx⟩

theorem solutions_joined : joinedFacts Try.prog 4 Try.f4 Rows.fnExactSolutionsSpec Rows.fnExactSolutionsRow = true := by
  simp only [joinedFacts, Bool.and_eq_true]
  repeat' apply And.intro
  all_goals first
    | with_reducible exact head_enter
    | with_reducible exact head_laid
    | with_reducible exact head_maps
    | (rw [head_lifts]; as_aux_lemma => kernel_rfl)
    | (rw [head_make]; as_aux_lemma => kernel_rfl)
    | as_aux_lemma => kernel_rfl
theorem solutions_named : Try.prog.funcNamed Rows.fnExactSolutionsRow.func = some 4 := by kernel_rfl
theorem solutions_wrap : Try.f4.isWrapper Try.prog Rows.fnExactSolutionsRow.wrapper Rows.fnExactSolutionsRow.mainSum := by unfold Func.isWrapper; first | (rw [if_pos (by decide +kernel)]; kernel_rfl) | (rw [if_neg (by decide +kernel)]; exact ⟨rfl, rfl⟩)
theorem solutions_inst : Try.f4.isInstance Try.prog Rows.fnExactSolutionsRow.origin Rows.fnExactSolutionsRow.targs := of_decide_eq_true (by kernel_rfl)

theorem solutions_holds : Rows.FnExactSolutionsSaid :=
  OpenClaim.holds_of_wide 4 Try.f4 rfl rfl rfl rfl rfl rfl rfl ⟨rfl, rfl, rfl, rfl, rfl⟩ rfl rfl rfl rfl rfl solutions_named Try.func4 solutions_joined solutions_inst solutions_wrap
    (fun os started H enc _ => solutions_lifted os started H enc)
#print axioms solutions_holds
end Go.Proofs.Ytjngiinfpoappaa

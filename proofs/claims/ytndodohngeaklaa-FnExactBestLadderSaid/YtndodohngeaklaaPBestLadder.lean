/-
  The statement FnExactBestLadderSaid: for every input laws.FnExactBestLadder returns true, and its arguments read behind the call as before it. No conditions.
-/
import Derived.Test.YtndodohngeaklaaFBestLadder
import Derived.Test.YtndodohngeaklaaR0
namespace Go.Proofs.Ytndodohngeaklaa
open Go.ChangeShapes Go.WideShapes Go.ChangeAt Go.RowKit Go.Deep Go.Joins

set_option maxRecDepth 100000 in
theorem bestLadder_lifted (os : Os) (started : os.Started) (H : Type) (enc : TypeId × Value → H) :
    ReturnsInHanded {} Try.checked os 7 .any (Rows.fnExactBestLadderSpec.pre6 enc Try.prog Try.f7 Rows.fnExactBestLadderRow.domain false) (Rows.fnExactBestLadderSpec.post enc Try.prog Try.f7 false true false false) := by
  refine returnsInHanded_of_change (C := Try.checked) head_own started (by kernel_rfl) Try.func7
    (ChangeSpec.witness6 (enc := enc) (C := Try.checked) false ⟨#[], #[.agg #[.int .i64 0, .int .i64 0, .int .i64 0, .slice none 0 0]], []⟩ 8 (by kernel_rfl) (by kernel_rfl) (by kernel_rfl) (by kernel_rfl)) ?_
  intro W base args ds gs before hval hW _ _
  have hW' := hW
  obtain ⟨p, q, hA0, hV, rfl, _, _⟩ := hW
  have hA : DataW.TrodAll enc Try.prog W 0 (fun _ => true) true Try.f7.params.toList args.toList ds p := hA0
  have hA' := hA
  rw [Try.params7] at hA hval
  obtain ⟨v0, vs0, d0, ds0, p0, q0, hargs0, rfl, rfl, h0, r0⟩ := trodAll_cons hA
  obtain ⟨rfl, rfl, rfl⟩ := trodAll_nil r0
  obtain rfl : args = #[v0] := by cases args; simp_all
  obtain ⟨rfl, rfl⟩ := trodVars_none hV
  have fin : ∀ W' : World, Below W.heap.size W W' → Rows.fnExactBestLadderSpec.post enc Try.prog Try.f7 false true false false W #[v0] (.bool true) W' := fun W' hb =>
    law_post head_laid hW' (by simpa using hA') rfl (by kernel_rfl) (T := 4) rfl Try.underlying4 rfl rfl rfl hb
  obtain ⟨s, f, o, A, n, c, rfl, _, _, _, hn, hj⟩ := open_board (hval 0 _ v0 rfl rfl) h0
  by_cases hb : n ≤ 1048576
  · obtain ⟨js, hjl, hj2⟩ := hj hb
    subst hjl
    exact (lawBestLadder_small s f o A c js W hj2).mono fun e W' ⟨he, hx⟩ => ⟨_, he, fin W' hx⟩
  · exact (lawBestLadder_big s f o A n c W hn (by omega)).mono fun e W' ⟨he, hx⟩ => ⟨_, he, fin W' hx⟩

theorem bestLadder_joined : joinedFacts Try.prog 7 Try.f7 Rows.fnExactBestLadderSpec Rows.fnExactBestLadderRow = true := by
  simp only [joinedFacts, Bool.and_eq_true]
  repeat' apply And.intro
  all_goals first
    | with_reducible exact head_enter
    | with_reducible exact head_laid
    | with_reducible exact head_maps
    | (rw [head_lifts]; as_aux_lemma => kernel_rfl)
    | (rw [head_make]; as_aux_lemma => kernel_rfl)
    | as_aux_lemma => kernel_rfl
theorem bestLadder_named : Try.prog.funcNamed Rows.fnExactBestLadderRow.func = some 7 := by kernel_rfl
theorem bestLadder_wrap : Try.f7.isWrapper Try.prog Rows.fnExactBestLadderRow.wrapper Rows.fnExactBestLadderRow.mainSum := by unfold Func.isWrapper; first | (rw [if_pos (by decide +kernel)]; kernel_rfl) | (rw [if_neg (by decide +kernel)]; exact ⟨rfl, rfl⟩)
theorem bestLadder_inst : Try.f7.isInstance Try.prog Rows.fnExactBestLadderRow.origin Rows.fnExactBestLadderRow.targs := of_decide_eq_true (by kernel_rfl)

theorem bestLadder_holds : Rows.FnExactBestLadderSaid :=
  OpenClaim.holds_of_wide 7 Try.f7 rfl rfl rfl rfl rfl rfl rfl ⟨rfl, rfl, rfl, rfl, rfl⟩ rfl rfl rfl rfl rfl bestLadder_named Try.func7 bestLadder_joined bestLadder_inst bestLadder_wrap
    (fun os started H enc _ => bestLadder_lifted os started H enc)
#print axioms bestLadder_holds
end Go.Proofs.Ytndodohngeaklaa

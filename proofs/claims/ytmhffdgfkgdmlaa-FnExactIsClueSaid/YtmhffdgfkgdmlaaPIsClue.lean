/-
  The statement FnExactIsClueSaid: for every input laws.FnExactIsClue returns true, and its arguments read behind the call as before it. No conditions.
-/
import Derived.Test.YtmhffdgfkgdmlaaFIsClue
import Derived.Test.YtmhffdgfkgdmlaaR80
namespace Go.Proofs.Ytmhffdgfkgdmlaa
open Go.ChangeShapes Go.WideShapes Go.ChangeAt Go.RowKit Go.Deep Go.Joins

set_option maxRecDepth 100000 in
theorem isClue_lifted (os : Os) (started : os.Started) (H : Type) (enc : TypeId × Value → H) :
    ReturnsInHanded {} Try.checked os 11 .any (Rows.fnExactIsClueSpec.pre6 enc Try.prog Try.f11 Rows.fnExactIsClueRow.domain false) (Rows.fnExactIsClueSpec.post enc Try.prog Try.f11 false true false false) := by
  refine returnsInHanded_of_change (C := Try.checked) head_own started (by kernel_rfl) Try.func11
    (ChangeSpec.witness6 (enc := enc) (C := Try.checked) false ⟨#[], #[.int .i64 0, .int .i64 0, .agg #[.int .i64 0, .int .i64 0, .int .i64 0, .int .i64 0]], []⟩ 8 (by kernel_rfl) (by kernel_rfl) (by kernel_rfl) (by kernel_rfl)) ?_
  intro W base args ds gs before hval hW _ _
  have hW' := hW
  obtain ⟨p, q, hA0, hV, rfl, _, _⟩ := hW
  have hA : DataW.TrodAll enc Try.prog W 0 (fun _ => true) true Try.f11.params.toList args.toList ds p := hA0
  have hA' := hA
  rw [Try.params11] at hA hval
  obtain ⟨v0, vs0, d0, ds0, p0, q0, hargs0, rfl, rfl, h0, r0⟩ := trodAll_cons hA
  obtain ⟨v1, vs1, d1, ds1, p1, q1, hargs1, rfl, rfl, h1, r1⟩ := trodAll_cons r0
  obtain ⟨v2, vs2, d2, ds2, p2, q2, hargs2, rfl, rfl, h2, r2⟩ := trodAll_cons r1
  obtain ⟨rfl, rfl, rfl⟩ := trodAll_nil r2
  subst hargs2
  subst hargs1
  obtain rfl : args = #[v0, v1, v2] := by cases args; simp_all
  obtain ⟨rfl, rfl⟩ := trodVars_none hV
  have fin : ∀ W' : World, Below W.heap.size W W' → Rows.fnExactIsClueSpec.post enc Try.prog Try.f11 false true false false W #[v0, v1, v2] (.bool true) W' := fun W' hb =>
    law_post head_laid hW' (by simpa using hA') rfl (by kernel_rfl) (T := 4) rfl Try.underlying4 rfl rfl rfl hb
  obtain ⟨q, rfl, _, _, _⟩ := open_int Try.underlying3 (hval 0 _ v0 rfl rfl) h0
  obtain ⟨f, rfl, _, _, _⟩ := open_int Try.underlying3 (hval 1 _ v1 rfl rfl) h1
  obtain ⟨k, a, b, c, rfl⟩ := open_clue (hval 2 _ v2 rfl rfl) h2
  exact (lawIsClue_any q f k a b c W).mono fun e W' ⟨he, hx⟩ => ⟨_, he, fin W' hx⟩

theorem isClue_joined : joinedFacts Try.prog 11 Try.f11 Rows.fnExactIsClueSpec Rows.fnExactIsClueRow = true := by
  simp only [joinedFacts, Bool.and_eq_true]
  repeat' apply And.intro
  all_goals first
    | with_reducible exact head_enter
    | with_reducible exact head_laid
    | with_reducible exact head_maps
    | (rw [head_lifts]; as_aux_lemma => kernel_rfl)
    | (rw [head_make]; as_aux_lemma => kernel_rfl)
    | as_aux_lemma => kernel_rfl
theorem isClue_named : Try.prog.funcNamed Rows.fnExactIsClueRow.func = some 11 := by kernel_rfl
theorem isClue_wrap : Try.f11.isWrapper Try.prog Rows.fnExactIsClueRow.wrapper Rows.fnExactIsClueRow.mainSum := by unfold Func.isWrapper; first | (rw [if_pos (by decide +kernel)]; kernel_rfl) | (rw [if_neg (by decide +kernel)]; exact ⟨rfl, rfl⟩)
theorem isClue_inst : Try.f11.isInstance Try.prog Rows.fnExactIsClueRow.origin Rows.fnExactIsClueRow.targs := of_decide_eq_true (by kernel_rfl)

theorem isClue_holds : Rows.FnExactIsClueSaid :=
  OpenClaim.holds_of_wide 11 Try.f11 rfl rfl rfl rfl rfl rfl rfl ⟨rfl, rfl, rfl, rfl, rfl⟩ rfl rfl rfl rfl rfl isClue_named Try.func11 isClue_joined isClue_inst isClue_wrap
    (fun os started H enc _ => isClue_lifted os started H enc)
#print axioms isClue_holds
end Go.Proofs.Ytmhffdgfkgdmlaa

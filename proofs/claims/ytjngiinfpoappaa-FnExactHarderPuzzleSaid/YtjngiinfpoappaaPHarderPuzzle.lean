/-
  The statement FnExactHarderPuzzleSaid: for every input laws.FnExactHarderPuzzle returns true, and its arguments read behind the call as before it. No conditions.
-/
import Derived.Test.YtjngiinfpoappaaFHarderPuzzle
import Derived.Test.YtjngiinfpoappaaR80
namespace Go.Proofs.Ytjngiinfpoappaa
open Go.ChangeShapes Go.WideShapes Go.ChangeAt Go.RowKit Go.Deep Go.Joins

set_option maxRecDepth 100000 in
theorem harderPuzzle_lifted (os : Os) (started : os.Started) (H : Type) (enc : TypeId × Value → H) :
    ReturnsInHanded {} Try.checked os 12 .any (Rows.fnExactHarderPuzzleSpec.pre6 enc Try.prog Try.f12 Rows.fnExactHarderPuzzleRow.domain false) (Rows.fnExactHarderPuzzleSpec.post enc Try.prog Try.f12 false true false false) := by
  refine returnsInHanded_of_change (C := Try.checked) head_own started (by kernel_rfl) Try.func12
    (ChangeSpec.witness6 (enc := enc) (C := Try.checked) false ⟨#[], #[.agg #[.int .i64 0, .int .i64 0, .slice none 0 0]], []⟩ 8 (by kernel_rfl) (by kernel_rfl) (by kernel_rfl) (by kernel_rfl)) ?_
  intro W base args ds gs before hval hW _ _
  have hW' := hW
  obtain ⟨p, q, hA0, hV, rfl, _, _⟩ := hW
  have hA : DataW.TrodAll enc Try.prog W 0 (fun _ => true) true Try.f12.params.toList args.toList ds p := hA0
  have hA' := hA
  rw [Try.params12] at hA hval
  obtain ⟨v0, vs0, d0, ds0, p0, q0, hargs0, rfl, rfl, h0, r0⟩ := trodAll_cons hA
  obtain ⟨rfl, rfl, rfl⟩ := trodAll_nil r0
  obtain rfl : args = #[v0] := by cases args; simp_all
  obtain ⟨rfl, rfl⟩ := trodVars_none hV
  have fin : ∀ W' : World, Below W.heap.size W W' → Rows.fnExactHarderPuzzleSpec.post enc Try.prog Try.f12 false true false false W #[v0] (.bool true) W' := fun W' hb =>
    law_post head_laid hW' (by simpa using hA') rfl (by kernel_rfl) (T := 4) rfl Try.underlying4 rfl rfl rfl hb
  obtain ⟨q, f, A, n, c, rfl, hn, hj⟩ := open_puzzle (hval 0 _ v0 rfl rfl) h0
  by_cases hb : n ≤ 1048576
  · obtain ⟨L, hjl, hj2⟩ := hj hb
    subst hjl
    exact (lawHarderPuzzle_small q f A c L W hj2).mono fun e W' ⟨he, hx⟩ => ⟨_, he, fin W' hx⟩
  · exact (lawHarderPuzzle_big q f A n c W hn (by omega)).mono fun e W' ⟨he, hx⟩ => ⟨_, he, fin W' hx⟩

theorem harderPuzzle_joined : joinedFacts Try.prog 12 Try.f12 Rows.fnExactHarderPuzzleSpec Rows.fnExactHarderPuzzleRow = true := by
  simp only [joinedFacts, Bool.and_eq_true]
  repeat' apply And.intro
  all_goals first
    | with_reducible exact head_enter
    | with_reducible exact head_laid
    | with_reducible exact head_maps
    | (rw [head_lifts]; as_aux_lemma => kernel_rfl)
    | (rw [head_make]; as_aux_lemma => kernel_rfl)
    | as_aux_lemma => kernel_rfl
theorem harderPuzzle_named : Try.prog.funcNamed Rows.fnExactHarderPuzzleRow.func = some 12 := by kernel_rfl
theorem harderPuzzle_wrap : Try.f12.isWrapper Try.prog Rows.fnExactHarderPuzzleRow.wrapper Rows.fnExactHarderPuzzleRow.mainSum := by unfold Func.isWrapper; first | (rw [if_pos (by decide +kernel)]; kernel_rfl) | (rw [if_neg (by decide +kernel)]; exact ⟨rfl, rfl⟩)
theorem harderPuzzle_inst : Try.f12.isInstance Try.prog Rows.fnExactHarderPuzzleRow.origin Rows.fnExactHarderPuzzleRow.targs := of_decide_eq_true (by kernel_rfl)

theorem harderPuzzle_holds : Rows.FnExactHarderPuzzleSaid :=
  OpenClaim.holds_of_wide 12 Try.f12 rfl rfl rfl rfl rfl rfl rfl ⟨rfl, rfl, rfl, rfl, rfl⟩ rfl rfl rfl rfl rfl harderPuzzle_named Try.func12 harderPuzzle_joined harderPuzzle_inst harderPuzzle_wrap
    (fun os started H enc _ => harderPuzzle_lifted os started H enc)
#print axioms harderPuzzle_holds
end Go.Proofs.Ytjngiinfpoappaa

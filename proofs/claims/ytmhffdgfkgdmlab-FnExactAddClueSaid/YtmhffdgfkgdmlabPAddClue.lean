/-
  The statement FnExactAddClueSaid: for every input laws.FnExactAddClue returns true, and its arguments read behind the call as before it. No conditions.
-/
import Derived.Test.YtmhffdgfkgdmlabFAddClue
import Derived.Test.YtmhffdgfkgdmlabR80
namespace Go.Proofs.Ytmhffdgfkgdmlab
open Go.ChangeShapes Go.WideShapes Go.ChangeAt Go.RowKit Go.Deep Go.Joins

set_option maxRecDepth 100000 in
theorem addClue_lifted (os : Os) (started : os.Started) (H : Type) (enc : TypeId × Value → H) :
    ReturnsInHanded {} Try.checked os 12 .any (Rows.fnExactAddClueSpec.pre6 enc Try.prog Try.f12 Rows.fnExactAddClueRow.domain false) (Rows.fnExactAddClueSpec.post enc Try.prog Try.f12 false true false false) := by
  refine returnsInHanded_of_change (C := Try.checked) head_own started (by kernel_rfl) Try.func12
    (ChangeSpec.witness6 (enc := enc) (C := Try.checked) false ⟨#[], #[.agg #[.int .i64 0, .int .i64 0, .slice none 0 0], .agg #[.int .i64 0, .int .i64 0, .int .i64 0, .int .i64 0]], []⟩ 8 (by kernel_rfl) (by kernel_rfl) (by kernel_rfl) (by kernel_rfl)) ?_
  intro W base args ds gs before hval hW _ _
  have hW' := hW
  obtain ⟨p, q, hA0, hV, rfl, _, _⟩ := hW
  have hA : DataW.TrodAll enc Try.prog W 0 (fun _ => true) true Try.f12.params.toList args.toList ds p := hA0
  have hA' := hA
  rw [Try.params12] at hA hval
  obtain ⟨v0, vs0, d0, ds0, p0, q0, hargs0, rfl, rfl, h0, r0⟩ := trodAll_cons hA
  obtain ⟨v1, vs1, d1, ds1, p1, q1, hargs1, rfl, rfl, h1, r1⟩ := trodAll_cons r0
  obtain ⟨rfl, rfl, rfl⟩ := trodAll_nil r1
  subst hargs1
  obtain rfl : args = #[v0, v1] := by cases args; simp_all
  obtain ⟨rfl, rfl⟩ := trodVars_none hV
  have fin : ∀ W' : World, Below W.heap.size W W' → Rows.fnExactAddClueSpec.post enc Try.prog Try.f12 false true false false W #[v0, v1] (.bool true) W' := fun W' hb =>
    law_post head_laid hW' (by simpa using hA') rfl (by kernel_rfl) (T := 4) rfl Try.underlying4 rfl rfl rfl hb
  obtain ⟨q, f, A, n, c, rfl, hn, hj⟩ := open_puzzle (hval 0 _ v0 rfl rfl) h0
  obtain ⟨ck, ca, cb, cc, rfl⟩ := open_clue (hval 1 _ v1 rfl rfl) h1
  by_cases hb : n ≤ 1048576
  · obtain ⟨L, hjl, hj2⟩ := hj hb
    subst hjl
    exact (lawAddClue_small q f A c ck ca cb cc L W hj2).mono fun e W' ⟨he, hx⟩ => ⟨_, he, fin W' hx⟩
  · exact (lawAddClue_big q f A n c ck ca cb cc W hn (by omega)).mono fun e W' ⟨he, hx⟩ => ⟨_, he, fin W' hx⟩

theorem addClue_joined : joinedFacts Try.prog 12 Try.f12 Rows.fnExactAddClueSpec Rows.fnExactAddClueRow = true := by
  simp only [joinedFacts, Bool.and_eq_true]
  repeat' apply And.intro
  all_goals first
    | with_reducible exact head_enter
    | with_reducible exact head_laid
    | with_reducible exact head_maps
    | (rw [head_lifts]; as_aux_lemma => kernel_rfl)
    | (rw [head_make]; as_aux_lemma => kernel_rfl)
    | as_aux_lemma => kernel_rfl
theorem addClue_named : Try.prog.funcNamed Rows.fnExactAddClueRow.func = some 12 := by kernel_rfl
theorem addClue_wrap : Try.f12.isWrapper Try.prog Rows.fnExactAddClueRow.wrapper Rows.fnExactAddClueRow.mainSum := by unfold Func.isWrapper; first | (rw [if_pos (by decide +kernel)]; kernel_rfl) | (rw [if_neg (by decide +kernel)]; exact ⟨rfl, rfl⟩)
theorem addClue_inst : Try.f12.isInstance Try.prog Rows.fnExactAddClueRow.origin Rows.fnExactAddClueRow.targs := of_decide_eq_true (by kernel_rfl)

theorem addClue_holds : Rows.FnExactAddClueSaid :=
  OpenClaim.holds_of_wide 12 Try.f12 rfl rfl rfl rfl rfl rfl rfl ⟨rfl, rfl, rfl, rfl, rfl⟩ rfl rfl rfl rfl rfl addClue_named Try.func12 addClue_joined addClue_inst addClue_wrap
    (fun os started H enc _ => addClue_lifted os started H enc)
#print axioms addClue_holds
end Go.Proofs.Ytmhffdgfkgdmlab

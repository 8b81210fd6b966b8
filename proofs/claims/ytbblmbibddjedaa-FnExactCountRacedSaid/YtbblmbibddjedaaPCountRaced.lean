/-
  The statement FnExactCountRacedSaid: for every input laws.FnExactCountRaced returns true, and its arguments read behind the call as before it. No conditions.
-/
import Derived.Test.YtbblmbibddjedaaFCountRaced
import Derived.Test.YtbblmbibddjedaaR3
namespace Go.Proofs.Ytbblmbibddjedaa
open Go.ChangeShapes Go.WideShapes Go.ChangeAt Go.RowKit Go.Deep Go.Joins

set_option maxRecDepth 100000 in
theorem countRaced_lifted (os : Os) (started : os.Started) (H : Type) (enc : TypeId × Value → H) :
    ReturnsInHanded {} Try.checked os 6 .any (Rows.fnExactCountRacedSpec.pre6 enc Try.prog Try.f6 Rows.fnExactCountRacedRow.domain false) (Rows.fnExactCountRacedSpec.post enc Try.prog Try.f6 false true false false) := by
  refine returnsInHanded_of_change (C := Try.checked) head_own started (by kernel_rfl) Try.func6
    (ChangeSpec.witness6 (enc := enc) (C := Try.checked) false ⟨#[], #[.agg #[.int .i64 0, .int .i64 0, .int .i64 0, .slice none 0 0, .int .i64 0, .int .i64 0, .int .i64 0]], []⟩ 8 (by kernel_rfl) (by kernel_rfl) (by kernel_rfl) (by kernel_rfl)) ?_
  intro W base args ds gs before hval hW _ _
  have hW' := hW
  obtain ⟨p, q, hA0, hV, rfl, _, _⟩ := hW
  have hA : DataW.TrodAll enc Try.prog W 0 (fun _ => true) true Try.f6.params.toList args.toList ds p := hA0
  have hA' := hA
  rw [Try.params6] at hA hval
  obtain ⟨v0, vs0, d0, ds0, p0, q0, hargs0, rfl, rfl, h0, r0⟩ := trodAll_cons hA
  obtain ⟨rfl, rfl, rfl⟩ := trodAll_nil r0
  obtain rfl : args = #[v0] := by cases args; simp_all
  obtain ⟨rfl, rfl⟩ := trodVars_none hV
  have fin : ∀ W' : World, Below W.heap.size W W' → Rows.fnExactCountRacedSpec.post enc Try.prog Try.f6 false true false false W #[v0] (.bool true) W' := fun W' hb =>
    law_post head_laid hW' (by simpa using hA') rfl (by kernel_rfl) (T := 4) rfl Try.underlying4 rfl rfl rfl hb
  obtain ⟨s, f, o, A, n, c, me, fi, ot, rfl, hn, hj⟩ := open_race (hval 0 _ v0 rfl rfl) h0
  by_cases hb : n ≤ 1048576
  · obtain ⟨js, hjl, hj2⟩ := hj hb
    subst hjl
    exact (lawCountRaced_small s f o me fi ot A c js W hj2).mono fun e W' ⟨he, hx⟩ => ⟨_, he, fin W' hx⟩
  · exact (lawCountRaced_big s f o me fi ot A n c W hn (by omega)).mono fun e W' ⟨he, hx⟩ => ⟨_, he, fin W' hx⟩

theorem countRaced_joined : joinedFacts Try.prog 6 Try.f6 Rows.fnExactCountRacedSpec Rows.fnExactCountRacedRow = true := by
  simp only [joinedFacts, Bool.and_eq_true]
  repeat' apply And.intro
  all_goals first
    | with_reducible exact head_enter
    | with_reducible exact head_laid
    | with_reducible exact head_maps
    | (rw [head_lifts]; as_aux_lemma => kernel_rfl)
    | (rw [head_make]; as_aux_lemma => kernel_rfl)
    | as_aux_lemma => kernel_rfl
theorem countRaced_named : Try.prog.funcNamed Rows.fnExactCountRacedRow.func = some 6 := by kernel_rfl
theorem countRaced_wrap : Try.f6.isWrapper Try.prog Rows.fnExactCountRacedRow.wrapper Rows.fnExactCountRacedRow.mainSum := by unfold Func.isWrapper; first | (rw [if_pos (by decide +kernel)]; kernel_rfl) | (rw [if_neg (by decide +kernel)]; exact ⟨rfl, rfl⟩)
theorem countRaced_inst : Try.f6.isInstance Try.prog Rows.fnExactCountRacedRow.origin Rows.fnExactCountRacedRow.targs := of_decide_eq_true (by kernel_rfl)

theorem countRaced_holds : Rows.FnExactCountRacedSaid :=
  OpenClaim.holds_of_wide 6 Try.f6 rfl rfl rfl rfl rfl rfl rfl ⟨rfl, rfl, rfl, rfl, rfl⟩ rfl rfl rfl rfl rfl countRaced_named Try.func6 countRaced_joined countRaced_inst countRaced_wrap
    (fun os started H enc _ => countRaced_lifted os started H enc)
#print axioms countRaced_holds
end Go.Proofs.Ytbblmbibddjedaa

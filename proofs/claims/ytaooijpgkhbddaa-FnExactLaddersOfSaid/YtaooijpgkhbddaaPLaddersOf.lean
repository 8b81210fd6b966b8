/-
  The statement FnExactLaddersOfSaid: for every input laws.FnExactLaddersOf returns true, and its arguments read behind the call as before it. No conditions.
-/
import Derived.Test.YtaooijpgkhbddaaFLaddersOf
import Derived.Test.YtaooijpgkhbddaaR0
namespace Go.Proofs.Ytaooijpgkhbddaa
open Go.ChangeShapes Go.WideShapes Go.ChangeAt Go.RowKit Go.Deep Go.Joins

set_option maxRecDepth 100000 in
theorem laddersOf_lifted (os : Os) (started : os.Started) (H : Type) (enc : TypeId × Value → H) :
    ReturnsInHanded {} Try.checked os 16 .any (Rows.fnExactLaddersOfSpec.pre6 enc Try.prog Try.f16 Rows.fnExactLaddersOfRow.domain false) (Rows.fnExactLaddersOfSpec.post enc Try.prog Try.f16 false true false false) := by
  refine returnsInHanded_of_change (C := Try.checked) head_own started (by kernel_rfl) Try.func16
    (ChangeSpec.witness6 (enc := enc) (C := Try.checked) false ⟨#[], #[.agg #[.int .i64 0, .int .i64 0, .int .i64 0, .slice none 0 0]], []⟩ 8 (by kernel_rfl) (by kernel_rfl) (by kernel_rfl) (by kernel_rfl)) ?_
  intro W base args ds gs before hval hW _ _
  have hW' := hW
  obtain ⟨p, q, hA0, hV, rfl, _, _⟩ := hW
  have hA : DataW.TrodAll enc Try.prog W 0 (fun _ => true) true Try.f16.params.toList args.toList ds p := hA0
  have hA' := hA
  rw [Try.params16] at hA hval
  obtain ⟨v0, vs0, d0, ds0, p0, q0, hargs0, rfl, rfl, h0, r0⟩ := trodAll_cons hA
  obtain ⟨rfl, rfl, rfl⟩ := trodAll_nil r0
  obtain rfl : args = #[v0] := by cases args; simp_all
  obtain ⟨rfl, rfl⟩ := trodVars_none hV
  have fin : ∀ W' : World, Below W.heap.size W W' → Rows.fnExactLaddersOfSpec.post enc Try.prog Try.f16 false true false false W #[v0] (.bool true) W' := fun W' hb =>
    law_post head_laid hW' (by simpa using hA') rfl (by kernel_rfl) (T := 4) rfl Try.underlying4 rfl rfl rfl hb
  obtain ⟨s, f, o, A, n, c, rfl, _, _, _, hn, hj⟩ := open_board (hval 0 _ v0 rfl rfl) h0
  by_cases hb : n ≤ 1048576
  · obtain ⟨js, hjl, hj2⟩ := hj hb
    subst hjl
    exact (lawLaddersOf_small s f o A c js W hj2).mono fun e W' ⟨he, hx⟩ => ⟨_, he, fin W' hx⟩
  · exact (lawLaddersOf_big s f o A n c W hn (by omega)).mono fun e W' ⟨he, hx⟩ => ⟨_, he, fin W' hx⟩

theorem laddersOf_joined : joinedFacts Try.prog 16 Try.f16 Rows.fnExactLaddersOfSpec Rows.fnExactLaddersOfRow = true := by
  simp only [joinedFacts, Bool.and_eq_true]
  repeat' apply And.intro
  all_goals first
    | with_reducible exact head_enter
    | with_reducible exact head_laid
    | with_reducible exact head_maps
    | (rw [head_lifts]; as_aux_lemma => kernel_rfl)
    | (rw [head_make]; as_aux_lemma => kernel_rfl)
    | as_aux_lemma => kernel_rfl
theorem laddersOf_named : Try.prog.funcNamed Rows.fnExactLaddersOfRow.func = some 16 := by kernel_rfl
theorem laddersOf_wrap : Try.f16.isWrapper Try.prog Rows.fnExactLaddersOfRow.wrapper Rows.fnExactLaddersOfRow.mainSum := by unfold Func.isWrapper; first | (rw [if_pos (by decide +kernel)]; kernel_rfl) | (rw [if_neg (by decide +kernel)]; exact ⟨rfl, rfl⟩)
theorem laddersOf_inst : Try.f16.isInstance Try.prog Rows.fnExactLaddersOfRow.origin Rows.fnExactLaddersOfRow.targs := of_decide_eq_true (by kernel_rfl)

theorem laddersOf_holds : Rows.FnExactLaddersOfSaid :=
  OpenClaim.holds_of_wide 16 Try.f16 rfl rfl rfl rfl rfl rfl rfl ⟨rfl, rfl, rfl, rfl, rfl⟩ rfl rfl rfl rfl rfl laddersOf_named Try.func16 laddersOf_joined laddersOf_inst laddersOf_wrap
    (fun os started H enc _ => laddersOf_lifted os started H enc)
#print axioms laddersOf_holds
end Go.Proofs.Ytaooijpgkhbddaa

/-
  The statement FnExactThrowsForAllSaid: for every input laws.FnExactThrowsForAll returns true, and its arguments read behind the call as before it. No conditions.
-/
import Derived.Test.YtblpfjjnlfjloacFThrowsForAll
import Derived.Test.YtblpfjjnlfjloacR8
namespace Go.Proofs.Ytblpfjjnlfjloac
open Go.ChangeShapes Go.WideShapes Go.ChangeAt Go.RowKit Go.Deep Go.Joins

set_option maxRecDepth 100000 in
theorem throwsForAll_lifted (os : Os) (started : os.Started) (H : Type) (enc : TypeId × Value → H) :
    ReturnsInHanded {} Try.checked os 5 .any (Rows.fnExactThrowsForAllSpec.pre6 enc Try.prog Try.f5 Rows.fnExactThrowsForAllRow.domain false) (Rows.fnExactThrowsForAllSpec.post enc Try.prog Try.f5 false true false false) := by
  refine returnsInHanded_of_change (C := Try.checked) head_own started (by kernel_rfl) Try.func5
    (ChangeSpec.witness6 (enc := enc) (C := Try.checked) false ⟨#[], #[.int .i64 0], []⟩ 8 (by kernel_rfl) (by kernel_rfl) (by kernel_rfl) (by kernel_rfl)) ?_
  intro W base args ds gs before hval hW _ _
  have hW' := hW
  obtain ⟨p, q, hA0, hV, rfl, _, _⟩ := hW
  have hA : DataW.TrodAll enc Try.prog W 0 (fun _ => true) true Try.f5.params.toList args.toList ds p := hA0
  have hA' := hA
  rw [Try.params5] at hA hval
  obtain ⟨v0, vs0, d0, ds0, p0, q0, hargs0, rfl, rfl, h0, r0⟩ := trodAll_cons hA
  obtain ⟨rfl, rfl, rfl⟩ := trodAll_nil r0
  obtain rfl : args = #[v0] := by cases args; simp_all
  obtain ⟨rfl, rfl⟩ := trodVars_none hV
  have fin : ∀ W' : World, Below W.heap.size W W' → Rows.fnExactThrowsForAllSpec.post enc Try.prog Try.f5 false true false false W #[v0] (.bool true) W' := fun W' hb =>
    law_post head_laid hW' (by simpa using hA') rfl (by kernel_rfl) (T := 4) rfl Try.underlying4 rfl rfl rfl hb
  obtain ⟨f, rfl, _, _, _⟩ := open_int Try.underlying3 (hval 0 _ v0 rfl rfl) h0
  exact (lawThrowsForAll f W).mono fun e W' ⟨he, hx⟩ => ⟨_, he, fin W' hx⟩

theorem throwsForAll_joined : joinedFacts Try.prog 5 Try.f5 Rows.fnExactThrowsForAllSpec Rows.fnExactThrowsForAllRow = true := by
  simp only [joinedFacts, Bool.and_eq_true]
  repeat' apply And.intro
  all_goals first
    | with_reducible exact head_enter
    | with_reducible exact head_laid
    | with_reducible exact head_maps
    | (rw [head_lifts]; as_aux_lemma => kernel_rfl)
    | (rw [head_make]; as_aux_lemma => kernel_rfl)
    | as_aux_lemma => kernel_rfl
theorem throwsForAll_named : Try.prog.funcNamed Rows.fnExactThrowsForAllRow.func = some 5 := by kernel_rfl
theorem throwsForAll_wrap : Try.f5.isWrapper Try.prog Rows.fnExactThrowsForAllRow.wrapper Rows.fnExactThrowsForAllRow.mainSum := by unfold Func.isWrapper; first | (rw [if_pos (by decide +kernel)]; kernel_rfl) | (rw [if_neg (by decide +kernel)]; exact ⟨rfl, rfl⟩)
theorem throwsForAll_inst : Try.f5.isInstance Try.prog Rows.fnExactThrowsForAllRow.origin Rows.fnExactThrowsForAllRow.targs := of_decide_eq_true (by kernel_rfl)

theorem throwsForAll_holds : Rows.FnExactThrowsForAllSaid :=
  OpenClaim.holds_of_wide 5 Try.f5 rfl rfl rfl rfl rfl rfl rfl ⟨rfl, rfl, rfl, rfl, rfl⟩ rfl rfl rfl rfl rfl throwsForAll_named Try.func5 throwsForAll_joined throwsForAll_inst throwsForAll_wrap
    (fun os started H enc _ => throwsForAll_lifted os started H enc)
#print axioms throwsForAll_holds
end Go.Proofs.Ytblpfjjnlfjloac

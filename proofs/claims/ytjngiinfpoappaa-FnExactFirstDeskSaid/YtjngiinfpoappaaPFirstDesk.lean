/-
  The statement FnExactFirstDeskSaid: for every input laws.FnExactFirstDesk returns true, and its arguments read behind the call as before it. No conditions.
-/
import Derived.Test.YtjngiinfpoappaaC10b
import Derived.Test.YtjngiinfpoappaaR8
namespace Go.Proofs.Ytjngiinfpoappaa
open Go.ChangeShapes Go.WideShapes Go.ChangeAt Go.RowKit Go.Deep Go.Joins

set_option maxRecDepth 100000 in
theorem firstDesk_lifted (os : Os) (started : os.Started) (H : Type) (enc : TypeId × Value → H) :
    ReturnsInHanded {} Try.checked os 14 .any (Rows.fnExactFirstDeskSpec.pre6 enc Try.prog Try.f14 Rows.fnExactFirstDeskRow.domain false) (Rows.fnExactFirstDeskSpec.post enc Try.prog Try.f14 false true false false) := by
  refine returnsInHanded_of_change (C := Try.checked) head_own started (by kernel_rfl) Try.func14
    (ChangeSpec.witness6 (enc := enc) (C := Try.checked) false ⟨#[], #[], []⟩ 8 (by kernel_rfl) (by kernel_rfl) (by kernel_rfl) (by kernel_rfl)) ?_
  intro W base args ds gs before hval hW _ _
  have hW' := hW
  obtain ⟨p, q, hA0, hV, rfl, _, _⟩ := hW
  have hA : DataW.TrodAll enc Try.prog W 0 (fun _ => true) true Try.f14.params.toList args.toList ds p := hA0
  have hA' := hA
  rw [Try.params14] at hA hval
  obtain ⟨hargs, rfl, rfl⟩ := trodAll_nil hA
  obtain rfl : args = #[] := by cases args; simp_all
  obtain ⟨rfl, rfl⟩ := trodVars_none hV
  have fin : ∀ W' : World, Below W.heap.size W W' → Rows.fnExactFirstDeskSpec.post enc Try.prog Try.f14 false true false false W #[] (.bool true) W' := fun W' hb =>
    law_post head_laid hW' (by simpa using hA') rfl (by kernel_rfl) (T := 4) rfl Try.underlying4 rfl rfl rfl hb
  exact (lawFirstDesk W).mono fun e W' ⟨he, hx⟩ => ⟨_, he, fin W' hx⟩

theorem firstDesk_joined : joinedFacts Try.prog 14 Try.f14 Rows.fnExactFirstDeskSpec Rows.fnExactFirstDeskRow = true := by
  simp only [joinedFacts, Bool.and_eq_true]
  repeat' apply And.intro
  all_goals first
    | with_reducible exact head_enter
    | with_reducible exact head_laid
    | with_reducible exact head_maps
    | (rw [head_lifts]; as_aux_lemma => kernel_rfl)
    | (rw [head_make]; as_aux_lemma => kernel_rfl)
    | as_aux_lemma => kernel_rfl
theorem firstDesk_named : Try.prog.funcNamed Rows.fnExactFirstDeskRow.func = some 14 := by kernel_rfl
theorem firstDesk_wrap : Try.f14.isWrapper Try.prog Rows.fnExactFirstDeskRow.wrapper Rows.fnExactFirstDeskRow.mainSum := by unfold Func.isWrapper; first | (rw [if_pos (by decide +kernel)]; kernel_rfl) | (rw [if_neg (by decide +kernel)]; exact ⟨rfl, rfl⟩)
theorem firstDesk_inst : Try.f14.isInstance Try.prog Rows.fnExactFirstDeskRow.origin Rows.fnExactFirstDeskRow.targs := of_decide_eq_true (by kernel_rfl)

theorem firstDesk_holds : Rows.FnExactFirstDeskSaid :=
  OpenClaim.holds_of_wide 14 Try.f14 rfl rfl rfl rfl rfl rfl rfl ⟨rfl, rfl, rfl, rfl, rfl⟩ rfl rfl rfl rfl rfl firstDesk_named Try.func14 firstDesk_joined firstDesk_inst firstDesk_wrap
    (fun os started H enc _ => firstDesk_lifted os started H enc)
#print axioms firstDesk_holds
end Go.Proofs.Ytjngiinfpoappaa

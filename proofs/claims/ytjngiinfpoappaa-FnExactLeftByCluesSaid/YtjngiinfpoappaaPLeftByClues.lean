/-
  The statement FnExactLeftByCluesSaid: for every input laws.FnExactLeftByClues returns true, and its arguments read behind the call as before it. No conditions.
-/
import Derived.Test.YtjngiinfpoappaaFLeftByClues
import Derived.Test.YtjngiinfpoappaaR80
namespace Go.Proofs.Ytjngiinfpoappaa
open Go.ChangeShapes Go.WideShapes Go.ChangeAt Go.RowKit Go.Deep Go.Joins

set_option maxRecDepth 100000 in
theorem leftByClues_lifted (os : Os) (started : os.Started) (H : Type) (enc : TypeId × Value → H) :
    ReturnsInHanded {} Try.checked os 10 .any (Rows.fnExactLeftByCluesSpec.pre6 enc Try.prog Try.f10 Rows.fnExactLeftByCluesRow.domain false) (Rows.fnExactLeftByCluesSpec.post enc Try.prog Try.f10 false true false false) := by
  refine returnsInHanded_of_change (C := Try.checked) head_own started (by kernel_rfl) Try.func10
    (ChangeSpec.witness6 (enc := enc) (C := Try.checked) false ⟨#[], #[.agg #[.int .i64 0, .int .i64 0, .slice none 0 0]], []⟩ 8 (by kernel_rfl) (by kernel_rfl) (by kernel_rfl) (by kernel_rfl)) ?_
  intro W base args ds gs before hval hW _ _
  have hW' := hW
  obtain ⟨p, q, hA0, hV, rfl, _, _⟩ := hW
  have hA : DataW.TrodAll enc Try.prog W 0 (fun _ => true) true Try.f10.params.toList args.toList ds p := hA0
  have hA' := hA
  rw [Try.params10] at hA hval
  obtain ⟨v0, vs0, d0, ds0, p0, q0, hargs0, rfl, rfl, h0, r0⟩ := trodAll_cons hA
  obtain ⟨rfl, rfl, rfl⟩ := trodAll_nil r0
  obtain rfl : args = #[v0] := by cases args; simp_all
  obtain ⟨rfl, rfl⟩ := trodVars_none hV
  have fin : ∀ W' : World, Below W.heap.size W W' → Rows.fnExactLeftByCluesSpec.post enc Try.prog Try.f10 false true false false W #[v0] (.bool true) W' := fun W' hb =>
    law_post head_laid hW' (by simpa using hA') rfl (by kernel_rfl) (T := 4) rfl Try.underlying4 rfl rfl rfl hb
  obtain ⟨q, f, A, n, c, rfl, hn, hj⟩ := open_puzzle (hval 0 _ v0 rfl rfl) h0
  by_cases hb : n ≤ 1048576
  · obtain ⟨L, hjl, hj2⟩ := hj hb
    subst hjl
    exact (lawLeftByClues_small q f A c L W hj2).mono fun e W' ⟨he, hx⟩ => ⟨_, he, fin W' hx⟩
  · exact (lawLeftByClues_big q f A n c W hn (by omega)).mono fun e W' ⟨he, hx⟩ => ⟨_, he, fin W' hx⟩

theorem leftByClues_joined : joinedFacts Try.prog 10 Try.f10 Rows.fnExactLeftByCluesSpec Rows.fnExactLeftByCluesRow = true := by
  simp only [joinedFacts, Bool.and_eq_true]
  repeat' apply And.intro
  all_goals first
    | with_reducible exact head_enter
    | with_reducible exact head_laid
    | with_reducible exact head_maps
    | (rw [head_lifts]; as_aux_lemma => kernel_rfl)
    | (rw [head_make]; as_aux_lemma => kernel_rfl)
    | as_aux_lemma => kernel_rfl
theorem leftByClues_named : Try.prog.funcNamed Rows.fnExactLeftByCluesRow.func = some 10 := by kernel_rfl
theorem leftByClues_wrap : Try.f10.isWrapper Try.prog Rows.fnExactLeftByCluesRow.wrapper Rows.fnExactLeftByCluesRow.mainSum := by unfold Func.isWrapper; first | (rw [if_pos (by decide +kernel)]; kernel_rfl) | (rw [if_neg (by decide +kernel)]; exact ⟨rfl, rfl⟩)
theorem leftByClues_inst : Try.f10.isInstance Try.prog Rows.fnExactLeftByCluesRow.origin Rows.fnExactLeftByCluesRow.targs := of_decide_eq_true (by kernel_rfl)

theorem leftByClues_holds : Rows.FnExactLeftByCluesSaid :=
  OpenClaim.holds_of_wide 10 Try.f10 rfl rfl rfl rfl rfl rfl rfl ⟨rfl, rfl, rfl, rfl, rfl⟩ rfl rfl rfl rfl rfl leftByClues_named Try.func10 leftByClues_joined leftByClues_inst leftByClues_wrap
    (fun os started H enc _ => leftByClues_lifted os started H enc)
#print axioms leftByClues_holds
end Go.Proofs.Ytjngiinfpoappaa

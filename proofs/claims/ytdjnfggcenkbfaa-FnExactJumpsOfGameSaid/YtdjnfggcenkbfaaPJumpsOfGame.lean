/-
  The statement FnExactJumpsOfGameSaid: for every input laws.FnExactJumpsOfGame returns true, and its arguments read behind the call as before it. No conditions.
-/
import Derived.Test.YtdjnfggcenkbfaaFJumpsOfGame
import Derived.Test.YtdjnfggcenkbfaaR1
namespace Go.Proofs.Ytdjnfggcenkbfaa
open Go.ChangeShapes Go.WideShapes Go.ChangeAt Go.RowKit Go.Deep Go.Joins

set_option maxRecDepth 100000 in
theorem jumpsOfGame_lifted (os : Os) (started : os.Started) (H : Type) (enc : TypeId × Value → H) :
    ReturnsInHanded {} Try.checked os 4 .any (Rows.fnExactJumpsOfGameSpec.pre6 enc Try.prog Try.f4 Rows.fnExactJumpsOfGameRow.domain false) (Rows.fnExactJumpsOfGameSpec.post enc Try.prog Try.f4 false true false false) := by
  refine returnsInHanded_of_change (C := Try.checked) head_own started (by kernel_rfl) Try.func4
    (ChangeSpec.witness6 (enc := enc) (C := Try.checked) false ⟨#[], #[.agg #[.int .i64 0, .int .i64 0, .int .i64 0, .slice none 0 0], .slice none 0 0], []⟩ 8 (by kernel_rfl) (by kernel_rfl) (by kernel_rfl) (by kernel_rfl)) ?_
  intro W base args ds gs before hval hW _ _
  have hW' := hW
  obtain ⟨p, q, hA0, hV, rfl, _, _⟩ := hW
  have hA : DataW.TrodAll enc Try.prog W 0 (fun _ => true) true Try.f4.params.toList args.toList ds p := hA0
  have hA' := hA
  rw [Try.params4] at hA hval
  obtain ⟨v0, vs0, d0, ds0, p0, q0, hargs0, rfl, rfl, h0, r0⟩ := trodAll_cons hA
  obtain ⟨v1, vs1, d1, ds1, p1, q1, hargs1, rfl, rfl, h1, r1⟩ := trodAll_cons r0
  obtain ⟨rfl, rfl, rfl⟩ := trodAll_nil r1
  subst hargs1
  obtain rfl : args = #[v0, v1] := by cases args; simp_all
  obtain ⟨rfl, rfl⟩ := trodVars_none hV
  have fin : ∀ W' : World, Below W.heap.size W W' → Rows.fnExactJumpsOfGameSpec.post enc Try.prog Try.f4 false true false false W #[v0, v1] (.bool true) W' := fun W' hb =>
    law_post head_laid hW' (by simpa using hA') rfl (by kernel_rfl) (T := 4) rfl Try.underlying4 rfl rfl rfl hb
  obtain ⟨s, f, o, A, n, c, rfl, _, _, _, hn, hj⟩ := open_board (hval 0 _ v0 rfl rfl) h0
  obtain ⟨A2, m, c2, rfl, hm, hx2⟩ := open_intS (hval 1 _ v1 rfl rfl) h1
  by_cases hb : n ≤ 1048576 ∧ m ≤ 1048576
  · obtain ⟨js, hjl, hj2⟩ := hj hb.1
    obtain ⟨xs, hxl, hxs2⟩ := hx2 hb.2
    subst hjl hxl
    exact (lawJumpsOfGame_small s f o A c A2 c2 xs js W hj2 hxs2).mono fun e W' ⟨he, hx⟩ => ⟨_, he, fin W' hx⟩
  · exact (lawJumpsOfGame_big s f o A n c A2 m c2 W hn (by omega)).mono fun e W' ⟨he, hx⟩ => ⟨_, he, fin W' hx⟩

theorem jumpsOfGame_joined : joinedFacts Try.prog 4 Try.f4 Rows.fnExactJumpsOfGameSpec Rows.fnExactJumpsOfGameRow = true := by
  simp only [joinedFacts, Bool.and_eq_true]
  repeat' apply And.intro
  all_goals first
    | with_reducible exact head_enter
    | with_reducible exact head_laid
    | with_reducible exact head_maps
    | (rw [head_lifts]; as_aux_lemma => kernel_rfl)
    | (rw [head_make]; as_aux_lemma => kernel_rfl)
    | as_aux_lemma => kernel_rfl
theorem jumpsOfGame_named : Try.prog.funcNamed Rows.fnExactJumpsOfGameRow.func = some 4 := by kernel_rfl
theorem jumpsOfGame_wrap : Try.f4.isWrapper Try.prog Rows.fnExactJumpsOfGameRow.wrapper Rows.fnExactJumpsOfGameRow.mainSum := by unfold Func.isWrapper; first | (rw [if_pos (by decide +kernel)]; kernel_rfl) | (rw [if_neg (by decide +kernel)]; exact ⟨rfl, rfl⟩)
theorem jumpsOfGame_inst : Try.f4.isInstance Try.prog Rows.fnExactJumpsOfGameRow.origin Rows.fnExactJumpsOfGameRow.targs := of_decide_eq_true (by kernel_rfl)

theorem jumpsOfGame_holds : Rows.FnExactJumpsOfGameSaid :=
  OpenClaim.holds_of_wide 4 Try.f4 rfl rfl rfl rfl rfl rfl rfl ⟨rfl, rfl, rfl, rfl, rfl⟩ rfl rfl rfl rfl rfl jumpsOfGame_named Try.func4 jumpsOfGame_joined jumpsOfGame_inst jumpsOfGame_wrap
    (fun os started H enc _ => jumpsOfGame_lifted os started H enc)
#print axioms jumpsOfGame_holds
end Go.Proofs.Ytdjnfggcenkbfaa

/-
  The statement FnExactAddJumpSaid: for every input laws.FnExactAddJump returns true, and its arguments read behind the call as before it. No conditions.
-/
import Derived.Test.YtndodohngeaklaaFAddJump
import Derived.Test.YtndodohngeaklaaR2
namespace Go.Proofs.Ytndodohngeaklaa
open Go.ChangeShapes Go.WideShapes Go.ChangeAt Go.RowKit Go.Deep Go.Joins

set_option maxRecDepth 100000 in
theorem addJump_lifted (os : Os) (started : os.Started) (H : Type) (enc : TypeId × Value → H) :
    ReturnsInHanded {} Try.checked os 4 .any (Rows.fnExactAddJumpSpec.pre6 enc Try.prog Try.f4 Rows.fnExactAddJumpRow.domain false) (Rows.fnExactAddJumpSpec.post enc Try.prog Try.f4 false true false false) := by
  refine returnsInHanded_of_change (C := Try.checked) head_own started (by kernel_rfl) Try.func4
    (ChangeSpec.witness6 (enc := enc) (C := Try.checked) false ⟨#[], #[.agg #[.int .i64 0, .int .i64 0, .int .i64 0, .slice none 0 0], .agg #[.int .i64 0, .int .i64 0]], []⟩ 8 (by kernel_rfl) (by kernel_rfl) (by kernel_rfl) (by kernel_rfl)) ?_
  intro W base args ds gs before hval hW _ _
  have hW' := hW
  obtain ⟨p, q, hA0, hV, rfl, _, _⟩ := hW
  have hA : DataW.TrodAll enc Try.prog W 0 (fun _ => true) true Try.f4.params.toList args.toList ds p := hA0
  have hA' := hA
  rw [Try.params4] at hA hval
  obtain ⟨v0, vs0, d0, ds0, p0, q0, hargs0, rfl, rfl, h0, r0⟩ := trodAll_cons hA
  obtain ⟨v1, vs1, d1, ds1, p1, q1, hargs1, rfl, rfl, h1, r1⟩ := trodAll_cons r0
  obtain ⟨rfl, rfl, rfl⟩ := trodAll_nil r1
  subst hargs1
  obtain rfl : args = #[v0, v1] := by cases args; simp_all
  obtain ⟨rfl, rfl⟩ := trodVars_none hV
  have fin : ∀ W' : World, Below W.heap.size W W' → Rows.fnExactAddJumpSpec.post enc Try.prog Try.f4 false true false false W #[v0, v1] (.bool true) W' := fun W' hb =>
    law_post head_laid hW' (by simpa using hA') rfl (by kernel_rfl) (T := 4) rfl Try.underlying4 rfl rfl rfl hb
  obtain ⟨s, f, o, A, n, c, rfl, _, _, _, hn, hj⟩ := open_board (hval 0 _ v0 rfl rfl) h0
  obtain ⟨a, b, rfl, wa, wb⟩ := open_jump (hval 1 _ v1 rfl rfl) h1
  by_cases hb : n ≤ 1048576
  · obtain ⟨js, hjl, hj2⟩ := hj hb
    subst hjl
    exact (lawAddJump_small s f o A c a b js W hj2 wa wb).mono fun e W' ⟨he, hx⟩ => ⟨_, he, fin W' hx⟩
  · exact (lawAddJump_big s f o A n c a b W hn (by omega)).mono fun e W' ⟨he, hx⟩ => ⟨_, he, fin W' hx⟩

theorem addJump_joined : joinedFacts Try.prog 4 Try.f4 Rows.fnExactAddJumpSpec Rows.fnExactAddJumpRow = true := by
  simp only [joinedFacts, Bool.and_eq_true]
  repeat' apply And.intro
  all_goals first
    | with_reducible exact head_enter
    | with_reducible exact head_laid
    | with_reducible exact head_maps
    | (rw [head_lifts]; as_aux_lemma => kernel_rfl)
    | (rw [head_make]; as_aux_lemma => kernel_rfl)
    | as_aux_lemma => kernel_rfl
theorem addJump_named : Try.prog.funcNamed Rows.fnExactAddJumpRow.func = some 4 := by kernel_rfl
theorem addJump_wrap : Try.f4.isWrapper Try.prog Rows.fnExactAddJumpRow.wrapper Rows.fnExactAddJumpRow.mainSum := by unfold Func.isWrapper; first | (rw [if_pos (by decide +kernel)]; kernel_rfl) | (rw [if_neg (by decide +kernel)]; exact ⟨rfl, rfl⟩)
theorem addJump_inst : Try.f4.isInstance Try.prog Rows.fnExactAddJumpRow.origin Rows.fnExactAddJumpRow.targs := of_decide_eq_true (by kernel_rfl)

theorem addJump_holds : Rows.FnExactAddJumpSaid :=
  OpenClaim.holds_of_wide 4 Try.f4 rfl rfl rfl rfl rfl rfl rfl ⟨rfl, rfl, rfl, rfl, rfl⟩ rfl rfl rfl rfl rfl addJump_named Try.func4 addJump_joined addJump_inst addJump_wrap
    (fun os started H enc _ => addJump_lifted os started H enc)
#print axioms addJump_holds
end Go.Proofs.Ytndodohngeaklaa

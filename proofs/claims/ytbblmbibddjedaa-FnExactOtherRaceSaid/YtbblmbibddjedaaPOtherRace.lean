/-
  The statement FnExactOtherRaceSaid: for every input laws.FnExactOtherRace returns true, and its arguments read behind the call as before it. No conditions.
-/
import Derived.Test.YtbblmbibddjedaaFOtherRace
import Derived.Test.YtbblmbibddjedaaR3
namespace Go.Proofs.Ytbblmbibddjedaa
open Go.ChangeShapes Go.WideShapes Go.ChangeAt Go.RowKit Go.Deep Go.Joins

set_option maxRecDepth 100000 in
theorem otherRace_lifted (os : Os) (started : os.Started) (H : Type) (enc : TypeId × Value → H) :
    ReturnsInHanded {} Try.checked os 4 .any (Rows.fnExactOtherRaceSpec.pre6 enc Try.prog Try.f4 Rows.fnExactOtherRaceRow.domain false) (Rows.fnExactOtherRaceSpec.post enc Try.prog Try.f4 false true false false) := by
  refine returnsInHanded_of_change (C := Try.checked) head_own started (by kernel_rfl) Try.func4
    (ChangeSpec.witness6 (enc := enc) (C := Try.checked) false ⟨#[], #[.agg #[.int .i64 0, .int .i64 0, .int .i64 0, .slice none 0 0, .int .i64 0, .int .i64 0, .int .i64 0]], []⟩ 8 (by kernel_rfl) (by kernel_rfl) (by kernel_rfl) (by kernel_rfl)) ?_
  intro W base args ds gs before hval hW _ _
  have hW' := hW
  obtain ⟨p, q, hA0, hV, rfl, _, _⟩ := hW
  have hA : DataW.TrodAll enc Try.prog W 0 (fun _ => true) true Try.f4.params.toList args.toList ds p := hA0
  have hA' := hA
  rw [Try.params4] at hA hval
  obtain ⟨v0, vs0, d0, ds0, p0, q0, hargs0, rfl, rfl, h0, r0⟩ := trodAll_cons hA
  obtain ⟨rfl, rfl, rfl⟩ := trodAll_nil r0
  obtain rfl : args = #[v0] := by cases args; simp_all
  obtain ⟨rfl, rfl⟩ := trodVars_none hV
  have fin : ∀ W' : World, Below W.heap.size W W' → Rows.fnExactOtherRaceSpec.post enc Try.prog Try.f4 false true false false W #[v0] (.bool true) W' := fun W' hb =>
    law_post head_laid hW' (by simpa using hA') rfl (by kernel_rfl) (T := 4) rfl Try.underlying4 rfl rfl rfl hb
  obtain ⟨s, f, o, A, n, c, me, fi, ot, rfl, hn, hj⟩ := open_race (hval 0 _ v0 rfl rfl) h0
  by_cases hb : n ≤ 1048576
  · obtain ⟨js, hjl, hj2⟩ := hj hb
    subst hjl
    exact (lawOtherRace_small s f o me fi ot A c js W hj2).mono fun e W' ⟨he, hx⟩ => ⟨_, he, fin W' hx⟩
  · exact (lawOtherRace_big s f o me fi ot A n c W hn (by omega)).mono fun e W' ⟨he, hx⟩ => ⟨_, he, fin W' hx⟩

theorem otherRace_joined : joinedFacts Try.prog 4 Try.f4 Rows.fnExactOtherRaceSpec Rows.fnExactOtherRaceRow = true := by
  simp only [joinedFacts, Bool.and_eq_true]
  repeat' apply And.intro
  all_goals first
    | with_reducible exact head_enter
    | with_reducible exact head_laid
    | with_reducible exact head_maps
    | (rw [head_lifts]; as_aux_lemma => kernel_rfl)
    | (rw [head_make]; as_aux_lemma => kernel_rfl)
    | as_aux_lemma => kernel_rfl
theorem otherRace_named : Try.prog.funcNamed Rows.fnExactOtherRaceRow.func = some 4 := by kernel_rfl
theorem otherRace_wrap : Try.f4.isWrapper Try.prog Rows.fnExactOtherRaceRow.wrapper Rows.fnExactOtherRaceRow.mainSum := by unfold Func.isWrapper; first | (rw [if_pos (by decide +kernel)]; kernel_rfl) | (rw [if_neg (by decide +kernel)]; exact ⟨rfl, rfl⟩)
theorem otherRace_inst : Try.f4.isInstance Try.prog Rows.fnExactOtherRaceRow.origin Rows.fnExactOtherRaceRow.targs := of_decide_eq_true (by kernel_rfl)

theorem otherRace_holds : Rows.FnExactOtherRaceSaid :=
  OpenClaim.holds_of_wide 4 Try.f4 rfl rfl rfl rfl rfl rfl rfl ⟨rfl, rfl, rfl, rfl, rfl⟩ rfl rfl rfl rfl rfl otherRace_named Try.func4 otherRace_joined otherRace_inst otherRace_wrap
    (fun os started H enc _ => otherRace_lifted os started H enc)
#print axioms otherRace_holds
end Go.Proofs.Ytbblmbibddjedaa

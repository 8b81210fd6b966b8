/-
  The statement FnExactTrackStartSaid: for every input laws.FnExactTrackStart returns true, and its arguments read behind the call as before it. No conditions.
-/
import Derived.Test.YtmhffdgfkgdmlaaFTrackStart
import Derived.Test.YtmhffdgfkgdmlaaR20
namespace Go.Proofs.Ytmhffdgfkgdmlaa
open Go.ChangeShapes Go.WideShapes Go.ChangeAt Go.RowKit Go.Deep Go.Joins

set_option maxRecDepth 100000 in
theorem trackStart_lifted (os : Os) (started : os.Started) (H : Type) (enc : TypeId × Value → H) :
    ReturnsInHanded {} Try.checked os 3 .any (Rows.fnExactTrackStartSpec.pre6 enc Try.prog Try.f3 Rows.fnExactTrackStartRow.domain false) (Rows.fnExactTrackStartSpec.post enc Try.prog Try.f3 false true false false) := by
  refine returnsInHanded_of_change (C := Try.checked) head_own started (by kernel_rfl) Try.func3
    (ChangeSpec.witness6 (enc := enc) (C := Try.checked) false ⟨#[], #[.agg #[.int .i64 0, .int .i64 0, .int .i64 0, .slice none 0 0, .slice none 0 0]], []⟩ 8 (by kernel_rfl) (by kernel_rfl) (by kernel_rfl) (by kernel_rfl)) ?_
  intro W base args ds gs before hval hW _ _
  have hW' := hW
  obtain ⟨p, q, hA0, hV, rfl, _, _⟩ := hW
  have hA : DataW.TrodAll enc Try.prog W 0 (fun _ => true) true Try.f3.params.toList args.toList ds p := hA0
  have hA' := hA
  rw [Try.params3] at hA hval
  obtain ⟨v0, vs0, d0, ds0, p0, q0, hargs0, rfl, rfl, h0, r0⟩ := trodAll_cons hA
  obtain ⟨rfl, rfl, rfl⟩ := trodAll_nil r0
  obtain rfl : args = #[v0] := by cases args; simp_all
  obtain ⟨rfl, rfl⟩ := trodVars_none hV
  have fin : ∀ W' : World, Below W.heap.size W W' → Rows.fnExactTrackStartSpec.post enc Try.prog Try.f3 false true false false W #[v0] (.bool true) W' := fun W' hb =>
    law_post head_laid hW' (by simpa using hA') rfl (by kernel_rfl) (T := 4) rfl Try.underlying4 rfl rfl rfl hb
  obtain ⟨q, f, k, A1, n1, c1, A2, n2, c2, rfl, hn1, hn2, hj1, hj2⟩ := open_track (hval 0 _ v0 rfl rfl) h0
  by_cases hb : n1 + n2 ≤ 1048576
  · obtain ⟨st, hsl, hs1⟩ := hj1 (by omega)
    obtain ⟨sf, hfl, hs2⟩ := hj2 (by omega)
    subst hsl hfl
    exact (lawTrackStart_small q f k A1 A2 c1 c2 st sf W hs1 hs2 hb).mono fun e W' ⟨he, hx⟩ => ⟨_, he, fin W' hx⟩
  · exact (lawTrackStart_big q f k A1 A2 n1 c1 n2 c2 W hn1 hn2 (by omega)).mono fun e W' ⟨he, hx⟩ => ⟨_, he, fin W' hx⟩

theorem trackStart_joined : joinedFacts Try.prog 3 Try.f3 Rows.fnExactTrackStartSpec Rows.fnExactTrackStartRow = true := by
  simp only [joinedFacts, Bool.and_eq_true]
  repeat' apply And.intro
  all_goals first
    | with_reducible exact head_enter
    | with_reducible exact head_laid
    | with_reducible exact head_maps
    | (rw [head_lifts]; as_aux_lemma => kernel_rfl)
    | (rw [head_make]; as_aux_lemma => kernel_rfl)
    | as_aux_lemma => kernel_rfl
theorem trackStart_named : Try.prog.funcNamed Rows.fnExactTrackStartRow.func = some 3 := by kernel_rfl
theorem trackStart_wrap : Try.f3.isWrapper Try.prog Rows.fnExactTrackStartRow.wrapper Rows.fnExactTrackStartRow.mainSum := by unfold Func.isWrapper; first | (rw [if_pos (by decide +kernel)]; kernel_rfl) | (rw [if_neg (by decide +kernel)]; exact ⟨rfl, rfl⟩)
theorem trackStart_inst : Try.f3.isInstance Try.prog Rows.fnExactTrackStartRow.origin Rows.fnExactTrackStartRow.targs := of_decide_eq_true (by kernel_rfl)

theorem trackStart_holds : Rows.FnExactTrackStartSaid :=
  OpenClaim.holds_of_wide 3 Try.f3 rfl rfl rfl rfl rfl rfl rfl ⟨rfl, rfl, rfl, rfl, rfl⟩ rfl rfl rfl rfl rfl trackStart_named Try.func3 trackStart_joined trackStart_inst trackStart_wrap
    (fun os started H enc _ => trackStart_lifted os started H enc)
#print axioms trackStart_holds
end Go.Proofs.Ytmhffdgfkgdmlaa

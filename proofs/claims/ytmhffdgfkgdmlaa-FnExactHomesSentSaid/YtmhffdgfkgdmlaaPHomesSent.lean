/-
  The statement FnExactHomesSentSaid: for every input laws.FnExactHomesSent returns true, and its arguments read behind the call as before it. No conditions.
-/
import Derived.Test.YtmhffdgfkgdmlaaFHomesSent
import Derived.Test.YtmhffdgfkgdmlaaR20
namespace Go.Proofs.Ytmhffdgfkgdmlaa
open Go.ChangeShapes Go.WideShapes Go.ChangeAt Go.RowKit Go.Deep Go.Joins

set_option maxRecDepth 100000 in
theorem homesSent_lifted (os : Os) (started : os.Started) (H : Type) (enc : TypeId × Value → H) :
    ReturnsInHanded {} Try.checked os 6 .any (Rows.fnExactHomesSentSpec.pre6 enc Try.prog Try.f6 Rows.fnExactHomesSentRow.domain false) (Rows.fnExactHomesSentSpec.post enc Try.prog Try.f6 false true false false) := by
  refine returnsInHanded_of_change (C := Try.checked) head_own started (by kernel_rfl) Try.func6
    (ChangeSpec.witness6 (enc := enc) (C := Try.checked) false ⟨#[], #[.agg #[.int .i64 0, .int .i64 0, .int .i64 0, .slice none 0 0, .slice none 0 0], .slice none 0 0], []⟩ 8 (by kernel_rfl) (by kernel_rfl) (by kernel_rfl) (by kernel_rfl)) ?_
  intro W base args ds gs before hval hW _ _
  have hW' := hW
  obtain ⟨p, q, hA0, hV, rfl, _, _⟩ := hW
  have hA : DataW.TrodAll enc Try.prog W 0 (fun _ => true) true Try.f6.params.toList args.toList ds p := hA0
  have hA' := hA
  rw [Try.params6] at hA hval
  obtain ⟨v0, vs0, d0, ds0, p0, q0, hargs0, rfl, rfl, h0, r0⟩ := trodAll_cons hA
  obtain ⟨v1, vs1, d1, ds1, p1, q1, hargs1, rfl, rfl, h1, r1⟩ := trodAll_cons r0
  obtain ⟨rfl, rfl, rfl⟩ := trodAll_nil r1
  subst hargs1
  obtain rfl : args = #[v0, v1] := by cases args; simp_all
  obtain ⟨rfl, rfl⟩ := trodVars_none hV
  have fin : ∀ W' : World, Below W.heap.size W W' → Rows.fnExactHomesSentSpec.post enc Try.prog Try.f6 false true false false W #[v0, v1] (.bool true) W' := fun W' hb =>
    law_post head_laid hW' (by simpa using hA') rfl (by kernel_rfl) (T := 4) rfl Try.underlying4 rfl rfl rfl hb
  obtain ⟨q, f, k, A1, n1, c1, A2, n2, c2, rfl, hn1, hn2, hj1, hj2⟩ := open_track (hval 0 _ v0 rfl rfl) h0
  obtain ⟨A3, n3, c3, R, rfl, hn3, hr, hj3⟩ := open_grid (hval 1 _ v1 rfl rfl) h1
  by_cases hb : n1 + n2 + (n3 + cumL (fun y => (R y).2.1) n3) ≤ 1048576
  · obtain ⟨st, hsl, hs1⟩ := hj1 (by omega)
    obtain ⟨sf, hfl, hs2⟩ := hj2 (by omega)
    obtain ⟨LL, hLl, hs3⟩ := rawG_rg hr (by omega) (fun y hy => ⟨by have := cumL_row (fun y => (R y).2.1) hy; omega, hj3 y hy⟩)
    subst hsl hfl hLl
    exact (lawHomesSent_small q f k A1 A2 c1 c2 st sf A3 c3 R LL W hs1 hs2 hr hs3 hb).mono fun e W' ⟨he, hx⟩ => ⟨_, he, fin W' hx⟩
  · exact (lawHomesSent_big q f k A1 A2 n1 c1 n2 c2 A3 n3 c3 R W hn1 hn2 hr hn3 (by omega)).mono fun e W' ⟨he, hx⟩ => ⟨_, he, fin W' hx⟩

theorem homesSent_joined : joinedFacts Try.prog 6 Try.f6 Rows.fnExactHomesSentSpec Rows.fnExactHomesSentRow = true := by
  simp only [joinedFacts, Bool.and_eq_true]
  repeat' apply And.intro
  all_goals first
    | with_reducible exact head_enter
    | with_reducible exact head_laid
    | with_reducible exact head_maps
    | (rw [head_lifts]; as_aux_lemma => kernel_rfl)
    | (rw [head_make]; as_aux_lemma => kernel_rfl)
    | as_aux_lemma => kernel_rfl
theorem homesSent_named : Try.prog.funcNamed Rows.fnExactHomesSentRow.func = some 6 := by kernel_rfl
theorem homesSent_wrap : Try.f6.isWrapper Try.prog Rows.fnExactHomesSentRow.wrapper Rows.fnExactHomesSentRow.mainSum := by unfold Func.isWrapper; first | (rw [if_pos (by decide +kernel)]; kernel_rfl) | (rw [if_neg (by decide +kernel)]; exact ⟨rfl, rfl⟩)
theorem homesSent_inst : Try.f6.isInstance Try.prog Rows.fnExactHomesSentRow.origin Rows.fnExactHomesSentRow.targs := of_decide_eq_true (by kernel_rfl)

theorem homesSent_holds : Rows.FnExactHomesSentSaid :=
  OpenClaim.holds_of_wide 6 Try.f6 rfl rfl rfl rfl rfl rfl rfl ⟨rfl, rfl, rfl, rfl, rfl⟩ rfl rfl rfl rfl rfl homesSent_named Try.func6 homesSent_joined homesSent_inst homesSent_wrap
    (fun os started H enc _ => homesSent_lifted os started H enc)
#print axioms homesSent_holds
end Go.Proofs.Ytmhffdgfkgdmlaa

/-
  The statement FnExactFirstWinSaid: for every input laws.FnExactFirstWin returns true, and its arguments read behind the call as before it. No conditions.
-/
import Derived.Test.YtknclgfjoajldabFFirstWin
import Derived.Test.YtknclgfjoajldabR3
namespace Go.Proofs.Ytknclgfjoajldab
open Go.ChangeShapes Go.WideShapes Go.ChangeAt Go.RowKit Go.Deep Go.Joins

set_option maxRecDepth 100000 in
theorem firstWin_lifted (os : Os) (started : os.Started) (H : Type) (enc : TypeId × Value → H) :
    ReturnsInHanded {} Try.checked os 9 .any (Rows.fnExactFirstWinSpec.pre6 enc Try.prog Try.f9 Rows.fnExactFirstWinRow.domain false) (Rows.fnExactFirstWinSpec.post enc Try.prog Try.f9 false true false false) := by
  refine returnsInHanded_of_change (C := Try.checked) head_own started (by kernel_rfl) Try.func9
    (ChangeSpec.witness6 (enc := enc) (C := Try.checked) false ⟨#[], #[.agg #[.int .i64 0, .int .i64 0, .int .i64 0, .slice none 0 0, .int .i64 0, .int .i64 0, .int .i64 0], .int .i64 0], []⟩ 8 (by kernel_rfl) (by kernel_rfl) (by kernel_rfl) (by kernel_rfl)) ?_
  intro W base args ds gs before hval hW _ _
  have hW' := hW
  obtain ⟨p, q, hA0, hV, rfl, _, _⟩ := hW
  have hA : DataW.TrodAll enc Try.prog W 0 (fun _ => true) true Try.f9.params.toList args.toList ds p := hA0
  have hA' := hA
  rw [Try.params9] at hA hval
  obtain ⟨v0, vs0, d0, ds0, p0, q0, hargs0, rfl, rfl, h0, r0⟩ := trodAll_cons hA
  obtain ⟨v1, vs1, d1, ds1, p1, q1, hargs1, rfl, rfl, h1, r1⟩ := trodAll_cons r0
  obtain ⟨rfl, rfl, rfl⟩ := trodAll_nil r1
  subst hargs1
  obtain rfl : args = #[v0, v1] := by cases args; simp_all
  obtain ⟨rfl, rfl⟩ := trodVars_none hV
  have fin : ∀ W' : World, Below W.heap.size W W' → Rows.fnExactFirstWinSpec.post enc Try.prog Try.f9 false true false false W #[v0, v1] (.bool true) W' := fun W' hb =>
    law_post head_laid hW' (by simpa using hA') rfl (by kernel_rfl) (T := 4) rfl Try.underlying4 rfl rfl rfl hb
  obtain ⟨s, f, o, A, n, c, me, fi, ot, rfl, hn, hj⟩ := open_race (hval 0 _ v0 rfl rfl) h0
  obtain ⟨who, rfl, _, _, _⟩ := open_int Try.underlying3 (hval 1 _ v1 rfl rfl) h1
  by_cases hb : n ≤ 1048576
  · obtain ⟨js, hjl, hj2⟩ := hj hb
    subst hjl
    exact (lawFirstWin_small s f o me fi ot A c who js W hj2).mono fun e W' ⟨he, hx⟩ => ⟨_, he, fin W' hx⟩
  · exact (lawFirstWin_big s f o me fi ot A n c who W hn (by omega)).mono fun e W' ⟨he, hx⟩ => ⟨_, he, fin W' hx⟩

theorem firstWin_joined : joinedFacts Try.prog 9 Try.f9 Rows.fnExactFirstWinSpec Rows.fnExactFirstWinRow = true := by
  simp only [joinedFacts, Bool.and_eq_true]
  repeat' apply And.intro
  all_goals first
    | with_reducible exact head_enter
    | with_reducible exact head_laid
    | with_reducible exact head_maps
    | (rw [head_lifts]; as_aux_lemma => kernel_rfl)
    | (rw [head_make]; as_aux_lemma => kernel_rfl)
    | as_aux_lemma => kernel_rfl
theorem firstWin_named : Try.prog.funcNamed Rows.fnExactFirstWinRow.func = some 9 := by kernel_rfl
theorem firstWin_wrap : Try.f9.isWrapper Try.prog Rows.fnExactFirstWinRow.wrapper Rows.fnExactFirstWinRow.mainSum := by unfold Func.isWrapper; first | (rw [if_pos (by decide +kernel)]; kernel_rfl) | (rw [if_neg (by decide +kernel)]; exact ⟨rfl, rfl⟩)
theorem firstWin_inst : Try.f9.isInstance Try.prog Rows.fnExactFirstWinRow.origin Rows.fnExactFirstWinRow.targs := of_decide_eq_true (by kernel_rfl)

theorem firstWin_holds : Rows.FnExactFirstWinSaid :=
  OpenClaim.holds_of_wide 9 Try.f9 rfl rfl rfl rfl rfl rfl rfl ⟨rfl, rfl, rfl, rfl, rfl⟩ rfl rfl rfl rfl rfl firstWin_named Try.func9 firstWin_joined firstWin_inst firstWin_wrap
    (fun os started H enc _ => firstWin_lifted os started H enc)
#print axioms firstWin_holds
end Go.Proofs.Ytknclgfjoajldab

/-
  The statement FnExactPairCountFewestSaid: for every input laws.FnExactPairCountFewest returns true, and its arguments read behind the call as before it. No conditions.
-/
import Derived.Test.YtmiefdjbhcpnbaaZPCap
import Derived.Test.YtmiefdjbhcpnbaaZPCag

namespace Go.Proofs.Ytmiefdjbhcpnbaa
open Go.RowKit

set_option maxRecDepth 100000 in
set_option maxHeartbeats 1000000 in
theorem lawPairCountFewest (s f a b : Int) (w : World) :
    Calls Try.prog 3 #[.int .i64 s, .int .i64 f, .int .i64 a, .int .i64 b] w fun e w' => e = .returned (.bool true) ∧ Below w.heap.size w w' := by
  obtain ⟨x, ok, hS, hI⟩ := pairCountFewest_both s f a b
  have hS := Lib.hid hS
  have hI := Lib.hid hI
  go_enter Try.func3, Try.ntmps3
  go_wp2_with fail
  refine (hS.out _).mono ?_
  rintro e w1 ⟨rfl, hx1⟩
  go_wp2_with fail
  refine (hI.out _).mono ?_
  rintro e w2 ⟨rfl, hx2⟩
  go_wp2
  go_ret
  exact ⟨rfl, hx1.trans (hx2.mono hx1.size)⟩
end Go.Proofs.Ytmiefdjbhcpnbaa

namespace Go.Proofs.Ytmiefdjbhcpnbaa
open Go.ChangeShapes Go.WideShapes Go.ChangeAt Go.RowKit Go.Deep Go.Joins

set_option maxRecDepth 100000 in
theorem pairCountFewest_lifted (os : Os) (started : os.Started) (H : Type) (enc : TypeId × Value → H) :
    ReturnsInHanded {} Try.checked os 3 .any (Rows.fnExactPairCountFewestSpec.pre6 enc Try.prog Try.f3 Rows.fnExactPairCountFewestRow.domain false) (Rows.fnExactPairCountFewestSpec.post enc Try.prog Try.f3 false true false false) := by
  refine returnsInHanded_of_change (C := Try.checked) head_own started (by kernel_rfl) Try.func3
    (ChangeSpec.witness6 (enc := enc) (C := Try.checked) false ⟨#[], #[.int .i64 0, .int .i64 0, .int .i64 0, .int .i64 0], []⟩ 8 (by kernel_rfl) (by kernel_rfl) (by kernel_rfl) (by kernel_rfl)) ?_
  intro W base args ds gs before hval hW _ _
  have hW' := hW
  obtain ⟨p, q, hA0, hV, rfl, _, _⟩ := hW
  have hA : DataW.TrodAll enc Try.prog W 0 (fun _ => true) true Try.f3.params.toList args.toList ds p := hA0
  have hA' := hA
  rw [Try.params3] at hA hval
  obtain ⟨v0, vs0, d0, ds0, p0, q0, hargs0, rfl, rfl, h0, r0⟩ := trodAll_cons hA
  obtain ⟨v1, vs1, d1, ds1, p1, q1, hargs1, rfl, rfl, h1, r1⟩ := trodAll_cons r0
  obtain ⟨v2, vs2, d2, ds2, p2, q2, hargs2, rfl, rfl, h2, r2⟩ := trodAll_cons r1
  obtain ⟨v3, vs3, d3, ds3, p3, q3, hargs3, rfl, rfl, h3, r3⟩ := trodAll_cons r2
  obtain ⟨rfl, rfl, rfl⟩ := trodAll_nil r3
  subst hargs3
  subst hargs2
  subst hargs1
  obtain rfl : args = #[v0, v1, v2, v3] := by cases args; simp_all
  obtain ⟨rfl, rfl⟩ := trodVars_none hV
  have fin : ∀ W' : World, Below W.heap.size W W' → Rows.fnExactPairCountFewestSpec.post enc Try.prog Try.f3 false true false false W #[v0, v1, v2, v3] (.bool true) W' := fun W' hb =>
    law_post head_laid hW' (by simpa using hA') rfl (by kernel_rfl) (T := 4) rfl Try.underlying4 rfl rfl rfl hb
  obtain ⟨s, rfl, _, _, _⟩ := open_int Try.underlying3 (hval 0 _ v0 rfl rfl) h0
  obtain ⟨f, rfl, _, _, _⟩ := open_int Try.underlying3 (hval 1 _ v1 rfl rfl) h1
  obtain ⟨a, rfl, _, _, _⟩ := open_int Try.underlying3 (hval 2 _ v2 rfl rfl) h2
  obtain ⟨b, rfl, _, _, _⟩ := open_int Try.underlying3 (hval 3 _ v3 rfl rfl) h3
  exact (lawPairCountFewest s f a b W).mono fun e W' ⟨he, hx⟩ => ⟨_, he, fin W' hx⟩

theorem pairCountFewest_joined : joinedFacts Try.prog 3 Try.f3 Rows.fnExactPairCountFewestSpec Rows.fnExactPairCountFewestRow = true := by
  simp only [joinedFacts, Bool.and_eq_true]
  repeat' apply And.intro
  all_goals first
    | with_reducible exact head_enter
    | with_reducible exact head_laid
    | with_reducible exact head_maps
    | (rw [head_lifts]; as_aux_lemma => kernel_rfl)
    | (rw [head_make]; as_aux_lemma => kernel_rfl)
    | as_aux_lemma => kernel_rfl
theorem pairCountFewest_named : Try.prog.funcNamed Rows.fnExactPairCountFewestRow.func = some 3 := by kernel_rfl
theorem pairCountFewest_wrap : Try.f3.isWrapper Try.prog Rows.fnExactPairCountFewestRow.wrapper Rows.fnExactPairCountFewestRow.mainSum := by unfold Func.isWrapper; first | (rw [if_pos (by decide +kernel)]; kernel_rfl) | (rw [if_neg (by decide +kernel)]; exact ⟨rfl, rfl⟩)
theorem pairCountFewest_inst : Try.f3.isInstance Try.prog Rows.fnExactPairCountFewestRow.origin Rows.fnExactPairCountFewestRow.targs := of_decide_eq_true (by kernel_rfl)

theorem pairCountFewest_holds : Rows.FnExactPairCountFewestSaid :=
  OpenClaim.holds_of_wide 3 Try.f3 rfl rfl rfl rfl rfl rfl rfl ⟨rfl, rfl, rfl, rfl, rfl⟩ rfl rfl rfl rfl rfl pairCountFewest_named Try.func3 pairCountFewest_joined pairCountFewest_inst pairCountFewest_wrap
    (fun os started H enc _ => pairCountFewest_lifted os started H enc)
#print axioms pairCountFewest_holds
end Go.Proofs.Ytmiefdjbhcpnbaa

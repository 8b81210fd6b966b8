/-
  The statement FnExactPairThrowsUsedSaid: for every input laws.FnExactPairThrowsUsed returns true, and its arguments read behind the call as before it. No conditions.
-/
import Derived.Test.YtmiefdjbhcpnbaaZPPaz
import Derived.Test.YtmiefdjbhcpnbaaZPPax
import Derived.Test.YtmiefdjbhcpnbaaZPPay

namespace Go.Proofs.Ytmiefdjbhcpnbaa
open Go.RowKit

set_option maxRecDepth 100000 in
theorem lawPairThrowsUsed_big (s f a b : Int) (A : Option Addr) (n c : Nat) (w : World) (h : 1048576 < n) :
    Calls Try.prog 5 #[.int .i64 s, .int .i64 f, .int .i64 a, .int .i64 b, .slice A n c] w fun e w' => e = .returned (.bool true) ∧ Below w.heap.size w w' := by
  have h3 : (1048576 : Int) < n := by omega
  go_enter Try.func5, Try.ntmps5
  go_wp2
  go_ret
  exact ⟨rfl, Below.refl _ _⟩

set_option maxRecDepth 100000 in
set_option maxHeartbeats 1000000 in
theorem lawPairThrowsUsed_small (s f a b : Int) (A : Option Addr) (c : Nat) (ys : List Int) (w : World) (hxs : RI w w.heap.size A ys) :
    Calls Try.prog 5 #[.int .i64 s, .int .i64 f, .int .i64 a, .int .i64 b, .slice A ys.length c] w fun e w' => e = .returned (.bool true) ∧ Below w.heap.size w w' := by
  have hl' := hxs.1
  have h0 : ¬ (1048576 : Int) < ys.length := by omega
  obtain ⟨u, ok, hI, hS⟩ := throwsUsed_both s f a b ys
  have hyy : (ys == ys) = true := by simp
  have hS := Lib.hid hS
  have hI := Lib.hid hI
  go_enter Try.func5, Try.ntmps5
  go_wp2_with fail
  refine (toIntS_any _ _ _ _ hxs).mono ?_
  rintro e w1 ⟨rfl, hri1, hx1⟩
  have z1 := hx1.size
  go_wp2_with fail
  refine (hS.out _ _ _ (OI.ri (.inr ⟨_, rfl, Nat.le_refl _, hri1⟩) hl')).mono ?_
  rintro e w2 ⟨rfl, hx2⟩
  have b2 := hx1.trans (hx2.mono z1)
  have z2 := hx2.size
  clear hri1
  go_wp2_with fail
  refine (toIntS_any _ _ _ _ (hxs.go b2)).mono ?_
  rintro e w3 ⟨rfl, hri3, hx3⟩
  have z3 := hx3.size
  have lt3 := hri3.lt
  have b3 := b2.trans (hx3.mono b2.size)
  go_wp2_with fail
  refine (hI.out _ _ _ (OI.ri (.inr ⟨_, rfl, Nat.le_refl _, hri3⟩) hl')).mono ?_
  rintro e w4 ⟨rfl, hx4⟩
  have z4 := hx4.size
  have hri4 := hri3.below hx4 hri3.lt
  have b4 := b3.trans (hx4.mono b3.size)
  clear hri3
  go_wp2_with fail
  refine (toIntS_any _ _ _ _ (hxs.go b4)).mono ?_
  rintro e w6 ⟨rfl, hri8, hx6⟩
  have z6 := hx6.size
  have hri6 := hri4.below hx6 hri4.lt
  have b6 := b4.trans (hx6.mono b4.size)
  clear hri4
  go_wp2_with fail
  refine (eqIntS_any _ _ _ _ ys ys _ (OI.ri (.inr ⟨_, rfl, Nat.le_refl _, hri6⟩) hl') (OI.ri (.inr ⟨_, rfl, Nat.le_refl _, hri8⟩) hl')).mono ?_
  rintro e w7 ⟨rfl, hx7⟩
  have z7 := hx7.size
  have hri7 := hri6.below hx7 hri6.lt
  have b7 := b6.trans (hx7.mono b6.size)
  clear hri6 hri8
  clear hri7
  go_wp2
  go_ret
  exact ⟨rfl, b7⟩
end Go.Proofs.Ytmiefdjbhcpnbaa

namespace Go.Proofs.Ytmiefdjbhcpnbaa
open Go.ChangeShapes Go.WideShapes Go.ChangeAt Go.RowKit Go.Deep Go.Joins

set_option maxRecDepth 100000 in
theorem pairThrowsUsed_lifted (os : Os) (started : os.Started) (H : Type) (enc : TypeId × Value → H) :
    ReturnsInHanded {} Try.checked os 5 .any (Rows.fnExactPairThrowsUsedSpec.pre6 enc Try.prog Try.f5 Rows.fnExactPairThrowsUsedRow.domain false) (Rows.fnExactPairThrowsUsedSpec.post enc Try.prog Try.f5 false true false false) := by
  refine returnsInHanded_of_change (C := Try.checked) head_own started (by kernel_rfl) Try.func5
    (ChangeSpec.witness6 (enc := enc) (C := Try.checked) false ⟨#[], #[.int .i64 0, .int .i64 0, .int .i64 0, .int .i64 0, .slice none 0 0], []⟩ 8 (by kernel_rfl) (by kernel_rfl) (by kernel_rfl) (by kernel_rfl)) ?_
  intro W base args ds gs before hval hW _ _
  have hW' := hW
  obtain ⟨p, q, hA0, hV, rfl, _, _⟩ := hW
  have hA : DataW.TrodAll enc Try.prog W 0 (fun _ => true) true Try.f5.params.toList args.toList ds p := hA0
  have hA' := hA
  rw [Try.params5] at hA hval
  obtain ⟨v0, vs0, d0, ds0, p0, q0, hargs0, rfl, rfl, h0, r0⟩ := trodAll_cons hA
  obtain ⟨v1, vs1, d1, ds1, p1, q1, hargs1, rfl, rfl, h1, r1⟩ := trodAll_cons r0
  obtain ⟨v2, vs2, d2, ds2, p2, q2, hargs2, rfl, rfl, h2, r2⟩ := trodAll_cons r1
  obtain ⟨v3, vs3, d3, ds3, p3, q3, hargs3, rfl, rfl, h3, r3⟩ := trodAll_cons r2
  obtain ⟨v4, vs4, d4, ds4, p4, q4, hargs4, rfl, rfl, h4, r4⟩ := trodAll_cons r3
  obtain ⟨rfl, rfl, rfl⟩ := trodAll_nil r4
  subst hargs4
  subst hargs3
  subst hargs2
  subst hargs1
  obtain rfl : args = #[v0, v1, v2, v3, v4] := by cases args; simp_all
  obtain ⟨rfl, rfl⟩ := trodVars_none hV
  have fin : ∀ W' : World, Below W.heap.size W W' → Rows.fnExactPairThrowsUsedSpec.post enc Try.prog Try.f5 false true false false W #[v0, v1, v2, v3, v4] (.bool true) W' := fun W' hb =>
    law_post head_laid hW' (by simpa using hA') rfl (by kernel_rfl) (T := 4) rfl Try.underlying4 rfl rfl rfl hb
  obtain ⟨s, rfl, _, _, _⟩ := open_int Try.underlying3 (hval 0 _ v0 rfl rfl) h0
  obtain ⟨f, rfl, _, _, _⟩ := open_int Try.underlying3 (hval 1 _ v1 rfl rfl) h1
  obtain ⟨a, rfl, _, _, _⟩ := open_int Try.underlying3 (hval 2 _ v2 rfl rfl) h2
  obtain ⟨b, rfl, _, _, _⟩ := open_int Try.underlying3 (hval 3 _ v3 rfl rfl) h3
  obtain ⟨A, n, c, rfl, hm, hx4⟩ := open_intS (hval 4 _ v4 rfl rfl) h4
  by_cases hb : n ≤ 1048576
  · obtain ⟨xs, hxl, hxs⟩ := hx4 hb
    subst hxl
    exact (lawPairThrowsUsed_small s f a b A c xs W hxs).mono fun e W' ⟨he, hx⟩ => ⟨_, he, fin W' hx⟩
  · exact (lawPairThrowsUsed_big s f a b A n c W (by omega)).mono fun e W' ⟨he, hx⟩ => ⟨_, he, fin W' hx⟩

theorem pairThrowsUsed_joined : joinedFacts Try.prog 5 Try.f5 Rows.fnExactPairThrowsUsedSpec Rows.fnExactPairThrowsUsedRow = true := by
  simp only [joinedFacts, Bool.and_eq_true]
  repeat' apply And.intro
  all_goals first
    | with_reducible exact head_enter
    | with_reducible exact head_laid
    | with_reducible exact head_maps
    | (rw [head_lifts]; as_aux_lemma => kernel_rfl)
    | (rw [head_make]; as_aux_lemma => kernel_rfl)
    | as_aux_lemma => kernel_rfl
theorem pairThrowsUsed_named : Try.prog.funcNamed Rows.fnExactPairThrowsUsedRow.func = some 5 := by kernel_rfl
theorem pairThrowsUsed_wrap : Try.f5.isWrapper Try.prog Rows.fnExactPairThrowsUsedRow.wrapper Rows.fnExactPairThrowsUsedRow.mainSum := by unfold Func.isWrapper; first | (rw [if_pos (by decide +kernel)]; kernel_rfl) | (rw [if_neg (by decide +kernel)]; exact ⟨rfl, rfl⟩)
theorem pairThrowsUsed_inst : Try.f5.isInstance Try.prog Rows.fnExactPairThrowsUsedRow.origin Rows.fnExactPairThrowsUsedRow.targs := of_decide_eq_true (by kernel_rfl)

theorem pairThrowsUsed_holds : Rows.FnExactPairThrowsUsedSaid :=
  OpenClaim.holds_of_wide 5 Try.f5 rfl rfl rfl rfl rfl rfl rfl ⟨rfl, rfl, rfl, rfl, rfl⟩ rfl rfl rfl rfl rfl pairThrowsUsed_named Try.func5 pairThrowsUsed_joined pairThrowsUsed_inst pairThrowsUsed_wrap
    (fun os started H enc _ => pairThrowsUsed_lifted os started H enc)
#print axioms pairThrowsUsed_holds
end Go.Proofs.Ytmiefdjbhcpnbaa

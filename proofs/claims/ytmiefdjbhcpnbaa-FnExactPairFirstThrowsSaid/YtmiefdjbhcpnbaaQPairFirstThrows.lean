/-
  The statement FnExactPairFirstThrowsSaid: for every input laws.FnExactPairFirstThrows returns true, and its arguments read behind the call as before it. No conditions.
-/
import Derived.Test.YtmiefdjbhcpnbaaZPCaq
import Derived.Test.YtmiefdjbhcpnbaaZPCar
import Derived.Test.YtmiefdjbhcpnbaaZPCap

namespace Go.Proofs.Ytmiefdjbhcpnbaa
open Go.RowKit

set_option maxRecDepth 100000 in
set_option maxHeartbeats 1000000 in
theorem lawPairFirstThrows (s f a b : Int) (w : World) :
    Calls Try.prog 6 #[.int .i64 s, .int .i64 f, .int .i64 a, .int .i64 b] w fun e w' => e = .returned (.bool true) ∧ Below w.heap.size w w' := by
  obtain ⟨R, hlen, hS, hI⟩ := pairFirstThrows_both s f a b
  obtain ⟨xs, ok⟩ := R
  have hS := Lib.hid hS
  have hI := Lib.hid hI
  have hxx : (xs == xs) = true := by simp
  have hxl : xs.length ≤ 1048576 := hlen
  clear hlen
  go_enter Try.func6, Try.ntmps6
  go_wp2_with fail
  refine (hS.out _).mono ?_
  rintro e w1 ⟨A0, c0, rfl, R0, hx1⟩
  go_wp2_with fail
  refine (hI.out _).mono ?_
  rintro e w2 ⟨A1, c1, rfl, ho1, hx2⟩
  go_wp2_with fail
  refine (eqIntS_any _ _ _ _ xs xs _ (ho1.ri hxl) ((R0.below hx2).more hx2.size)).mono ?_
  rintro e w3 ⟨rfl, hx3⟩
  have R3 := (R0.below hx2).below (hx3.mono hx2.size)
  have O3 := ho1.below hx3 (Nat.le_refl _)
  have b3 := hx1.trans ((hx2.trans (hx3.mono hx2.size)).mono hx1.size)
  have z1 := hx1.size
  have z2 := hx2.size
  have z3 := hx3.size
  go_wp2_with fail
  -- marks on what was handed back
  refine (markIntS_any _ _ _ _ _ 1 _ O3 hxl (by omega) (by omega)).mono ?_
  rintro e w4 ⟨rfl, O4, d4, s4⟩
  have n4 : ¬ (1 + (xs.length : Int)) < 0 := by omega
  have R4 := R3.below (d4 _ (Nat.le_refl _))
  have b4 := b3.trans (d4 _ z1)
  clear d4 O3 R3
  go_wp2_with fail
  refine (heldIntS_any _ _ _ _ 1 _ O4 hxl (by omega) (by omega)).mono ?_
  rintro e w5 ⟨rfl, rfl⟩
  go_wp2_with fail
  -- the call once more
  refine (hI.out _).mono ?_
  rintro e w6 ⟨A3, c3, rfl, ho3, hx6⟩
  have z6 := hx6.size
  have R6 := (R4.below (hx6.mono (by omega))).more (show w1.heap.size ≤ w6.heap.size by omega)
  go_wp2_with fail
  refine (eqIntS_any _ _ _ _ xs xs _ (ho3.ri hxl) R6).mono ?_
  rintro e w7 ⟨rfl, hx7⟩
  have O7 := (O4.below hx6 (Nat.le_refl _)).below hx7 (Nat.le_refl _)
  go_wp2_with fail
  refine (heldIntS_any _ _ _ _ 1 _ O7 hxl (by omega) (by omega)).mono ?_
  rintro e w8 ⟨rfl, rfl⟩
  go_wp2
  go_ret
  exact ⟨rfl, b4.trans ((hx6.trans (hx7.mono hx6.size)).mono (by omega))⟩
end Go.Proofs.Ytmiefdjbhcpnbaa

namespace Go.Proofs.Ytmiefdjbhcpnbaa
open Go.ChangeShapes Go.WideShapes Go.ChangeAt Go.RowKit Go.Deep Go.Joins

set_option maxRecDepth 100000 in
theorem pairFirstThrows_lifted (os : Os) (started : os.Started) (H : Type) (enc : TypeId × Value → H) :
    ReturnsInHanded {} Try.checked os 6 .any (Rows.fnExactPairFirstThrowsSpec.pre6 enc Try.prog Try.f6 Rows.fnExactPairFirstThrowsRow.domain false) (Rows.fnExactPairFirstThrowsSpec.post enc Try.prog Try.f6 false true false false) := by
  refine returnsInHanded_of_change (C := Try.checked) head_own started (by kernel_rfl) Try.func6
    (ChangeSpec.witness6 (enc := enc) (C := Try.checked) false ⟨#[], #[.int .i64 0, .int .i64 0, .int .i64 0, .int .i64 0], []⟩ 8 (by kernel_rfl) (by kernel_rfl) (by kernel_rfl) (by kernel_rfl)) ?_
  intro W base args ds gs before hval hW _ _
  have hW' := hW
  obtain ⟨p, q, hA0, hV, rfl, _, _⟩ := hW
  have hA : DataW.TrodAll enc Try.prog W 0 (fun _ => true) true Try.f6.params.toList args.toList ds p := hA0
  have hA' := hA
  rw [Try.params6] at hA hval
  obtain ⟨v0, vs0, d0, ds0, p0, q0, hargs0, rfl, rfl, h0, r0⟩ := trodAll_cons hA
  obtain ⟨v1, vs1, d1, ds1, p1, q1, hargs1, rfl, rfl, h1, r1⟩ := trodAll_cons r0
  obtain ⟨v2, vs2, d2, ds2, p2, q2, hargs2, rfl, rfl, h2, r2⟩ := trodAll_cons r1
  obtain ⟨v3, vs3, d3, ds3, p3, q3, hargs3, rfl, rfl, h3, r3⟩ := trodAll_cons r2
  obtain ⟨rfl, rfl, rfl⟩ := trodAll_nil r3
  subst hargs3
  subst hargs2
  subst hargs1
  obtain rfl : args = #[v0, v1, v2, v3] := by cases args; simp_all
  obtain ⟨rfl, rfl⟩ := trodVars_none hV
  have fin : ∀ W' : World, Below W.heap.size W W' → Rows.fnExactPairFirstThrowsSpec.post enc Try.prog Try.f6 false true false false W #[v0, v1, v2, v3] (.bool true) W' := fun W' hb =>
    law_post head_laid hW' (by simpa using hA') rfl (by kernel_rfl) (T := 4) rfl Try.underlying4 rfl rfl rfl hb
  obtain ⟨s, rfl, _, _, _⟩ := open_int Try.underlying3 (hval 0 _ v0 rfl rfl) h0
  obtain ⟨f, rfl, _, _, _⟩ := open_int Try.underlying3 (hval 1 _ v1 rfl rfl) h1
  obtain ⟨a, rfl, _, _, _⟩ := open_int Try.underlying3 (hval 2 _ v2 rfl rfl) h2
  obtain ⟨b, rfl, _, _, _⟩ := open_int Try.underlying3 (hval 3 _ v3 rfl rfl) h3
  exact (lawPairFirstThrows s f a b W).mono fun e W' ⟨he, hx⟩ => ⟨_, he, fin W' hx⟩

theorem pairFirstThrows_joined : joinedFacts Try.prog 6 Try.f6 Rows.fnExactPairFirstThrowsSpec Rows.fnExactPairFirstThrowsRow = true := by
  simp only [joinedFacts, Bool.and_eq_true]
  repeat' apply And.intro
  all_goals first
    | with_reducible exact head_enter
    | with_reducible exact head_laid
    | with_reducible exact head_maps
    | (rw [head_lifts]; as_aux_lemma => kernel_rfl)
    | (rw [head_make]; as_aux_lemma => kernel_rfl)
    | as_aux_lemma => kernel_rfl
theorem pairFirstThrows_named : Try.prog.funcNamed Rows.fnExactPairFirstThrowsRow.func = some 6 := by kernel_rfl
theorem pairFirstThrows_wrap : Try.f6.isWrapper Try.prog Rows.fnExactPairFirstThrowsRow.wrapper Rows.fnExactPairFirstThrowsRow.mainSum := by unfold Func.isWrapper; first | (rw [if_pos (by decide +kernel)]; kernel_rfl) | (rw [if_neg (by decide +kernel)]; exact ⟨rfl, rfl⟩)
theorem pairFirstThrows_inst : Try.f6.isInstance Try.prog Rows.fnExactPairFirstThrowsRow.origin Rows.fnExactPairFirstThrowsRow.targs := of_decide_eq_true (by kernel_rfl)

theorem pairFirstThrows_holds : Rows.FnExactPairFirstThrowsSaid :=
  OpenClaim.holds_of_wide 6 Try.f6 rfl rfl rfl rfl rfl rfl rfl ⟨rfl, rfl, rfl, rfl, rfl⟩ rfl rfl rfl rfl rfl pairFirstThrows_named Try.func6 pairFirstThrows_joined pairFirstThrows_inst pairFirstThrows_wrap
    (fun os started H enc _ => pairFirstThrows_lifted os started H enc)
#print axioms pairFirstThrows_holds
end Go.Proofs.Ytmiefdjbhcpnbaa

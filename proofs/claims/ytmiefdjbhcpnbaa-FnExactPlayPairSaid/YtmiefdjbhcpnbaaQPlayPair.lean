/-
  The statement FnExactPlayPairSaid: for every input laws.FnExactPlayPair returns true, and its arguments read behind the call as before it. No conditions.
-/
import Derived.Test.YtmiefdjbhcpnbaaZPPax
import Derived.Test.YtmiefdjbhcpnbaaZPPay

namespace Go.Proofs.Ytmiefdjbhcpnbaa
open Go.RowKit

set_option maxRecDepth 100000 in
theorem lawPlayPair_big (s f a b : Int) (A : Option Addr) (n c : Nat) (w : World) (h : 1048576 < n) :
    Calls Try.prog 4 #[.int .i64 s, .int .i64 f, .int .i64 a, .int .i64 b, .slice A n c] w fun e w' => e = .returned (.bool true) ∧ Below w.heap.size w w' := by
  have h3 : (1048576 : Int) < n := by omega
  go_enter Try.func4, Try.ntmps4
  go_wp2
  go_ret
  exact ⟨rfl, Below.refl _ _⟩

set_option maxRecDepth 100000 in
set_option maxHeartbeats 1000000 in
theorem lawPlayPair_small (s f a b : Int) (A : Option Addr) (c : Nat) (ys : List Int) (w : World) (hxs : RI w w.heap.size A ys) :
    Calls Try.prog 4 #[.int .i64 s, .int .i64 f, .int .i64 a, .int .i64 b, .slice A ys.length c] w fun e w' => e = .returned (.bool true) ∧ Below w.heap.size w w' := by
  have hl' := hxs.1
  have h0 : ¬ (1048576 : Int) < ys.length := by omega
  obtain ⟨n, F, ok, hn61, hI, hS⟩ := playPair_both s f a b ys
  have hn : n ≤ 1048576 := by omega
  have hl : ∀ y : Nat, (fun _ : Nat => 2) y ≤ 1048576 := fun _ => (by show 2 ≤ 1048576; omega)
  have hyy : (ys == ys) = true := by simp
  have hS := Lib.hid hS
  have hI := Lib.hid hI
  go_enter Try.func4, Try.ntmps4
  go_wp2_with fail
  refine (toIntS_any _ _ _ _ hxs).mono ?_
  rintro e w1 ⟨rfl, hri1, hx1⟩
  have z1 := hx1.size
  go_wp2_with fail
  refine (hS.out _ _ _ (OI.ri (.inr ⟨_, rfl, Nat.le_refl _, hri1⟩) hl')).mono ?_
  rintro e w2 ⟨A0, c0, Bk0, C0, rfl, hg0, hx2⟩
  have R0 := hg0.rgL hn hl
  have b2 := hx1.trans (hx2.mono z1)
  have z2 := hx2.size
  clear hri1 hg0
  go_wp2_with fail
  -- a copy for the program
  refine (toIntS_any _ _ _ _ (hxs.go b2)).mono ?_
  rintro e w3 ⟨rfl, hri3, hx3⟩
  have z3 := hx3.size
  have lt3 := hri3.lt
  have b3 := b2.trans (hx3.mono b2.size)
  go_wp2_with fail
  refine (hI.out _ _ _ (OI.ri (.inr ⟨_, rfl, Nat.le_refl _, hri3⟩) hl')).mono ?_
  rintro e w4 ⟨A1, c1, Bk1, C1, rfl, hg1, hx4⟩
  have z4 := hx4.size
  have hri4 := hri3.below hx4 hri3.lt
  have R4 := (R0.below hx3).below (hx4.mono z3)
  have b4 := b3.trans (hx4.mono b3.size)
  clear hri3
  go_wp2_with fail
  refine (eqGrid_any _ _ _ _ _ _ _ _ (hg1.rgL hn hl) (R4.more (by omega))).mono ?_
  rintro e w5 ⟨rfl, hx5⟩
  have z5 := hx5.size
  have hri5 := hri4.below hx5 hri4.lt
  have R5 := R4.below (hx5.mono (by omega))
  have G5 := hg1.below hx5
  have b5 := b4.trans (hx5.mono b4.size)
  clear hri4 R4 hg1
  go_wp2_with fail
  refine (toIntS_any _ _ _ _ (hxs.go b5)).mono ?_
  rintro e w6 ⟨rfl, hri8, hx6⟩
  have z6 := hx6.size
  have hri6 := hri5.below hx6 hri5.lt
  have R6 := R5.below (hx6.mono (by omega))
  have G6 := G5.below hx6
  have b6 := b5.trans (hx6.mono b5.size)
  clear hri5 R5 G5
  go_wp2_with fail
  refine (eqIntS_any _ _ _ _ ys ys _ (OI.ri (.inr ⟨_, rfl, Nat.le_refl _, hri6⟩) hl') (OI.ri (.inr ⟨_, rfl, Nat.le_refl _, hri8⟩) hl')).mono ?_
  rintro e w7 ⟨rfl, hx7⟩
  have z7 := hx7.size
  have hri7 := hri6.below hx7 hri6.lt
  have R7 := R6.below (hx7.mono (by omega))
  have G7 := G6.below hx7
  have b7 := b6.trans (hx7.mono b6.size)
  clear hri6 hri8 R6 G6
  go_wp2_with fail
  -- marks on the program's copy
  refine (markIntSg_any _ _ _ w2.heap.size _ 1 _ (.inr ⟨_, rfl, Nat.le_refl _, hri7⟩) hl' (by omega) (by omega)).mono ?_
  rintro e w8 ⟨rfl, _, d8, s8, hg8⟩
  have hg8' : w7.grownBy w8 (some w2.heap.size) := hg8
  have n8 : ¬ (1 + (ys.length : Int)) < 0 := by omega
  have G8 := G7.grown hg8' (fun g h => by cases h; exact lt3)
  have R8 := R7.below (d8 _ (Nat.le_refl _))
  have b8 := b7.trans (d8 _ b2.size)
  clear hri7 R7 G7 hg8 d8 hg8'
  go_wp2_with fail
  refine (eqGrid_any _ _ _ _ _ _ _ _ (G8.rgL hn hl) (R8.more (by omega))).mono ?_
  rintro e w9 ⟨rfl, hx9⟩
  have z9 := hx9.size
  have R9 := R8.below (hx9.mono (by omega))
  have G9 := G8.below hx9
  have b9 := b8.trans (hx9.mono (by omega))
  clear R8 G8
  go_wp2_with fail
  -- marks on what was handed back
  refine (markIntSS_any _ _ _ _ _ _ _ _ _ G9 hn (fun y _ => hl y)).mono ?_
  rintro e w10 ⟨rfl, G10, d10, s10⟩
  obtain ⟨m, hm⟩ : ∃ m, m = cumL (fun _ => 2) n := ⟨_, rfl⟩
  have HM := Lib.hid hm
  have n10 : ¬ (1 + (m : Int)) < 0 := by omega
  have R10 := R9.below (d10 _ (by omega) (by omega))
  have b10 := b9.trans (d10 _ (by omega) (by omega))
  have z10 : w9.heap.size ≤ w10.heap.size := by omega
  have z80 : w7.heap.size ≤ w8.heap.size := by omega
  rw [← hm]
  clear d10 G9 R9 hm s10 s8
  go_wp2_with fail
  refine (heldIntSS_any _ _ _ _ _ _ _ _ G10 hn (fun y _ => hl y)).mono ?_
  rintro e w11 ⟨rfl, rfl⟩
  rw [← HM.out]
  go_wp2_with fail
  -- the call once more
  refine (toIntS_any _ _ _ _ (hxs.go b10)).mono ?_
  rintro e w12 ⟨rfl, hri12, hx12⟩
  have z12 := hx12.size
  go_wp2_with fail
  refine (hI.out _ _ _ (OI.ri (.inr ⟨_, rfl, Nat.le_refl _, hri12⟩) hl')).mono ?_
  rintro e w13 ⟨A3, c3, Bk3, C3, rfl, hg3, hx13⟩
  have z13 := hx13.size
  have R13 := (R10.below (hx12.mono (by omega))).below (hx13.mono (by omega))
  go_wp2_with fail
  refine (eqGrid_any _ _ _ _ _ _ _ _ (hg3.rgL hn hl) (R13.more (by omega))).mono ?_
  rintro e w14 ⟨rfl, hx14⟩
  have G14 := ((G10.below hx12).below hx13).below hx14
  go_wp2_with fail
  refine (heldIntSS_any _ _ _ _ _ _ _ _ G14 hn (fun y _ => hl y)).mono ?_
  rintro e w15 ⟨rfl, rfl⟩
  rw [← HM.out]
  go_wp2
  go_ret
  exact ⟨rfl, b10.trans ((hx12.trans ((hx13.trans (hx14.mono z13)).mono z12)).mono b10.size)⟩
end Go.Proofs.Ytmiefdjbhcpnbaa

namespace Go.Proofs.Ytmiefdjbhcpnbaa
open Go.ChangeShapes Go.WideShapes Go.ChangeAt Go.RowKit Go.Deep Go.Joins

set_option maxRecDepth 100000 in
theorem playPair_lifted (os : Os) (started : os.Started) (H : Type) (enc : TypeId × Value → H) :
    ReturnsInHanded {} Try.checked os 4 .any (Rows.fnExactPlayPairSpec.pre6 enc Try.prog Try.f4 Rows.fnExactPlayPairRow.domain false) (Rows.fnExactPlayPairSpec.post enc Try.prog Try.f4 false true false false) := by
  refine returnsInHanded_of_change (C := Try.checked) head_own started (by kernel_rfl) Try.func4
    (ChangeSpec.witness6 (enc := enc) (C := Try.checked) false ⟨#[], #[.int .i64 0, .int .i64 0, .int .i64 0, .int .i64 0, .slice none 0 0], []⟩ 8 (by kernel_rfl) (by kernel_rfl) (by kernel_rfl) (by kernel_rfl)) ?_
  intro W base args ds gs before hval hW _ _
  have hW' := hW
  obtain ⟨p, q, hA0, hV, rfl, _, _⟩ := hW
  have hA : DataW.TrodAll enc Try.prog W 0 (fun _ => true) true Try.f4.params.toList args.toList ds p := hA0
  have hA' := hA
  rw [Try.params4] at hA hval
  obtain ⟨v0, vs0, d0, ds0, p0, q0, hargs0, rfl, rfl, h0, r0⟩ := trodAll_cons hA
  obtain ⟨v1, vs1, d1, ds1, p1, q1, hargs1, rfl, rfl, h1, r1⟩ := trodAll_cons r0
  obtain ⟨v2, vs2, d2, ds2, p2, q2, hargs2, rfl, rfl, h2, r2⟩ := trodAll_cons r1
  obtain ⟨v3, vs3, d3, ds3, p3, q3, hargs3, rfl, rfl, h3, r3⟩ := trodAll_cons r2
  obtain ⟨v4, vs4, d4, ds4, p4, q4, hargs4, rfl, rfl, h4, r4⟩ := trodAll_cons r3
  obtain ⟨rfl, rfl, rfl⟩ := trodAll_nil r4
  subst hargs4
  subst hargs3
  subst hargs2
  subst hargs1
  obtain rfl : args = #[v0, v1, v2, v3, v4] := by cases args; simp_all
  obtain ⟨rfl, rfl⟩ := trodVars_none hV
  have fin : ∀ W' : World, Below W.heap.size W W' → Rows.fnExactPlayPairSpec.post enc Try.prog Try.f4 false true false false W #[v0, v1, v2, v3, v4] (.bool true) W' := fun W' hb =>
    law_post head_laid hW' (by simpa using hA') rfl (by kernel_rfl) (T := 4) rfl Try.underlying4 rfl rfl rfl hb
  obtain ⟨s, rfl, _, _, _⟩ := open_int Try.underlying3 (hval 0 _ v0 rfl rfl) h0
  obtain ⟨f, rfl, _, _, _⟩ := open_int Try.underlying3 (hval 1 _ v1 rfl rfl) h1
  obtain ⟨a, rfl, _, _, _⟩ := open_int Try.underlying3 (hval 2 _ v2 rfl rfl) h2
  obtain ⟨b, rfl, _, _, _⟩ := open_int Try.underlying3 (hval 3 _ v3 rfl rfl) h3
  obtain ⟨A, n, c, rfl, hm, hx4⟩ := open_intS (hval 4 _ v4 rfl rfl) h4
  by_cases hb : n ≤ 1048576
  · obtain ⟨xs, hxl, hxs⟩ := hx4 hb
    subst hxl
    exact (lawPlayPair_small s f a b A c xs W hxs).mono fun e W' ⟨he, hx⟩ => ⟨_, he, fin W' hx⟩
  · exact (lawPlayPair_big s f a b A n c W (by omega)).mono fun e W' ⟨he, hx⟩ => ⟨_, he, fin W' hx⟩

theorem playPair_joined : joinedFacts Try.prog 4 Try.f4 Rows.fnExactPlayPairSpec Rows.fnExactPlayPairRow = true := by
  simp only [joinedFacts, Bool.and_eq_true]
  repeat' apply And.intro
  all_goals first
    | with_reducible exact head_enter
    | with_reducible exact head_laid
    | with_reducible exact head_maps
    | (rw [head_lifts]; as_aux_lemma => kernel_rfl)
    | (rw [head_make]; as_aux_lemma => kernel_rfl)
    | as_aux_lemma => kernel_rfl
theorem playPair_named : Try.prog.funcNamed Rows.fnExactPlayPairRow.func = some 4 := by kernel_rfl
theorem playPair_wrap : Try.f4.isWrapper Try.prog Rows.fnExactPlayPairRow.wrapper Rows.fnExactPlayPairRow.mainSum := by unfold Func.isWrapper; first | (rw [if_pos (by decide +kernel)]; kernel_rfl) | (rw [if_neg (by decide +kernel)]; exact ⟨rfl, rfl⟩)
theorem playPair_inst : Try.f4.isInstance Try.prog Rows.fnExactPlayPairRow.origin Rows.fnExactPlayPairRow.targs := of_decide_eq_true (by kernel_rfl)

theorem playPair_holds : Rows.FnExactPlayPairSaid :=
  OpenClaim.holds_of_wide 4 Try.f4 rfl rfl rfl rfl rfl rfl rfl ⟨rfl, rfl, rfl, rfl, rfl⟩ rfl rfl rfl rfl rfl playPair_named Try.func4 playPair_joined playPair_inst playPair_wrap
    (fun os started H enc _ => playPair_lifted os started H enc)
#print axioms playPair_holds
end Go.Proofs.Ytmiefdjbhcpnbaa

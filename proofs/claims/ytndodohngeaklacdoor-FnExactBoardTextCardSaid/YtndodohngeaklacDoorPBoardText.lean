/-
  The statement FnExactBoardTextCardSaid: the row (for every input laws.FnExactBoardText returns true, and its argument reads behind the call as before it; three tables of the library's listed as the program's text lays them), and its tied card.
-/
import Derived.Test.YtndodohngeaklacDoorFBoardText
import Derived.Test.YtndodohngeaklacDoorR0
import Derived.Test.YtndodohngeaklacDoorCards
import Derived.Test.YtndodohngeaklacDoorTie
import Derived.LaidMore
import Derived.Stop.Joined
import Derived.SevenTiedAt
namespace Go.Proofs.YtndodohngeaklacDoor
open Go.ChangeShapes Go.WideShapes Go.ChangeAt Go.RowKit Go.Deep Go.Joins

/-- The door's own heap meets the condition. -/
theorem door_met (os : Os) (args : Array Value) : laidMetH Tryd.prog Rows.fnExactBoardTextRow.laid ((World.doorLaid Tryd.prog 24 os).forCall (fun _ _ => 0) ⟨#[], args, []⟩).memory :=
  laidMetH_of_parts3 (fuel := 8) (laidMet_of_run' 8 (by kernel_rfl) (by kernel_rfl)) (by kernel_rfl) (by kernel_rfl)

theorem g_pow : Tryd.prog.globalNamed "internal/strconv.uint64pow10" = some 0 := by kernel_rfl
theorem t_pow : (Tryd.prog.globals[0]?).map (·.type) = some 60 := by kernel_rfl
theorem d_pow : (Rows.laid_internal_strconv_uint64pow10 : DataW Unit) = Lib.tabData .u64 Lib.pow10Tab := by kernel_rfl

/-- What the condition gives the walk: the table of powers of ten. -/
theorem tens_of {W : World} (h : laidMetH Tryd.prog Rows.fnExactBoardTextRow.laid W) : Tens W := by
  rw [MakeChecks.laidMetH_plain _ _ _ (by kernel_rfl)] at h
  obtain ⟨ps, ⟨g0, t0, cs0, f0, p0, q0, hg0, ht0, hv0, hd0, ⟨g1, t1, cs1, f1, p1, q1, hg1, ht1, hv1, hd1, ⟨g2, t2, cs2, f2, p2, q2, hg2, ht2, hv2, hd2, _, _⟩, _⟩, _⟩, _⟩ := h
  obtain rfl := Option.some.inj (g_pow.symm.trans hg2)
  obtain rfl := Option.some.inj (t_pow.symm.trans ht2)
  rw [d_pow] at hd2
  unfold Tens Lib.TabIs
  rw [hv2, ← Lib.cells_of_tab Tryd.underlying60 Tryd.underlying53 (by kernel_rfl) (by kernel_rfl) hd2]

set_option maxRecDepth 100000 in
theorem boardText_lifted (os : Os) (started : os.Started) (H : Type) (enc : TypeId × Value → H) :
    ReturnsInHanded {} Tryd.checked os 3 .any (fun w args => (Rows.fnExactBoardTextSpec.pre enc Tryd.prog Tryd.f3 [] false w args ∧ laidMetH Tryd.prog Rows.fnExactBoardTextRow.laid w) ∧ sizedMet enc Tryd.prog Tryd.f3 (OpenSpec.ofChange Rows.fnExactBoardTextSpec) false w args)
      (Rows.fnExactBoardTextSpec.post enc Tryd.prog Tryd.f3 false true false false) := by
  refine returnsInHanded_of_change_and (C := Tryd.checked) (X := fun w _ => laidMetH Tryd.prog Rows.fnExactBoardTextRow.laid w) (fun _ _ _ hh h => h.of_heap hh) head_own started (by kernel_rfl) Tryd.func3
    (ChangeSpec.witness_shaped (enc := enc) (C := Tryd.checked) (os := os) (X := fun w _ => laidMetH Tryd.prog Rows.fnExactBoardTextRow.laid w) false (World.doorLaid Tryd.prog 24 os) #[.agg #[.int .i64 0, .int .i64 0, .int .i64 0, .slice none 0 0]] 8 rfl (World.shaped_of_RefB (by kernel_rfl) (by kernel_rfl)) (by kernel_rfl) (by kernel_rfl) (by kernel_rfl) (door_met os _)) ?_
  intro W base args ds gs before hval0 hW _ _ hL _
  have hval : ∀ (j : Nat) t v, Tryd.f3.params[j]? = some t → args[j]? = some v → Value.okWide Tryd.prog W .any base t v := hval0
  have hW' := hW
  obtain ⟨p, q, hA0, hV, rfl, _, _⟩ := hW
  have hA : DataW.TrodAll enc Tryd.prog W 0 (fun _ => true) true Tryd.f3.params.toList args.toList ds p := hA0
  have hA' := hA
  rw [Tryd.params3] at hA hval
  obtain ⟨v0, d0, rfl, rfl, h0⟩ := trodAll_one hA
  obtain ⟨rfl, rfl⟩ := trodVars_none hV
  have fin : ∀ W' : World, Below W.heap.size W W' → Rows.fnExactBoardTextSpec.post enc Tryd.prog Tryd.f3 false true false false W #[v0] (.bool true) W' := fun W' hb =>
    law_post head_laid hW' (by simpa using hA') rfl (by kernel_rfl) (T := 4) rfl Tryd.underlying4 rfl rfl rfl hb
  have hT := tens_of hL
  obtain ⟨s, f, o, A, n, c, rfl, _, _, _, hn, hj⟩ := open_board (hval 0 _ v0 rfl rfl) h0
  by_cases hb : n ≤ 1048576
  · obtain ⟨js, hjl, hj2⟩ := hj hb
    subst hjl
    exact (lawBoardText_small s f o A c js W hj2 hT).mono fun e W' ⟨he, hx⟩ => ⟨_, he, fin W' hx⟩
  · exact (lawBoardText_big s f o A n c W hn (by omega)).mono fun e W' ⟨he, hx⟩ => ⟨_, he, fin W' hx⟩

theorem boardText_joined : joinedFacts Tryd.prog 3 Tryd.f3 Rows.fnExactBoardTextSpec Rows.fnExactBoardTextRow = true := by
  simp only [joinedFacts, Bool.and_eq_true]
  repeat' apply And.intro
  all_goals first
    | with_reducible exact head_enter
    | with_reducible exact head_laid
    | with_reducible exact head_maps
    | (rw [head_lifts]; as_aux_lemma => kernel_rfl)
    | (rw [head_make]; as_aux_lemma => kernel_rfl)
    | as_aux_lemma => kernel_rfl
theorem boardText_named : Tryd.prog.funcNamed Rows.fnExactBoardTextRow.func = some 3 := by kernel_rfl
theorem boardText_wrap : Tryd.f3.isWrapper Tryd.prog Rows.fnExactBoardTextRow.wrapper Rows.fnExactBoardTextRow.mainSum := by unfold Func.isWrapper; first | (rw [if_pos (by decide +kernel)]; kernel_rfl) | (rw [if_neg (by decide +kernel)]; exact ⟨rfl, rfl⟩)
theorem boardText_inst : Tryd.f3.isInstance Tryd.prog Rows.fnExactBoardTextRow.origin Rows.fnExactBoardTextRow.targs := of_decide_eq_true (by kernel_rfl)

theorem boardText_row : Rows.FnExactBoardTextSaid :=
  OpenClaim.holds_of_wide 3 Tryd.f3 rfl rfl rfl rfl rfl rfl rfl ⟨rfl, rfl, rfl, rfl, rfl⟩ rfl rfl rfl rfl rfl boardText_named Tryd.func3 boardText_joined boardText_inst boardText_wrap
    (fun os started H enc _ => boardText_lifted os started H enc)

/-- The tied card. -/
theorem boardText_holds : Rows.FnExactBoardTextCardSaid :=
  Claim7.holds_tied_plain_at .later [] [.data, .data, .data] true (true, "7845abc88bfc8c1c583bdddd43725f463c2136f53df22921129079ebe567d0ec") false
    boardText_row (fun _ h => by cases h) (by kernel_rfl) (fun _ h => by cases h) fnExactBoardText_row_tie rfl ⟨rfl, rfl⟩ (by kernel_rfl) rfl
    (fun f fn hf hfn => by
      obtain rfl : f = 3 := Option.some.inj ((show Tryd.prog.funcNamed "loop.example/g01306/laws.FnExactBoardText" = some 3 by kernel_rfl).symm.trans hf) |>.symm
      obtain rfl : fn = Tryd.f3 := (Option.some.inj (Tryd.func3.symm.trans hfn)).symm
      exact ⟨by kernel_rfl, fun j t ht => by
        rw [Tryd.params3] at ht
        have hm : t ∈ [24] := by simpa using Array.mem_of_getElem? ht
        have hall : ([24].all fun u => !Tryd.prog.wantsStandIn u) = true := by kernel_rfl
        exact (show Tryd.prog.wantsStandIn t = false by simpa using List.all_eq_true.1 hall t hm)⟩)
    (by kernel_rfl)
#print axioms boardText_holds
end Go.Proofs.YtndodohngeaklacDoor

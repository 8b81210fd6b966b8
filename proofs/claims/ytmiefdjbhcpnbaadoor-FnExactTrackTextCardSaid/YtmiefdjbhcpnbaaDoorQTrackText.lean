/-
  The statement FnExactTrackTextCardSaid: the row (for every input laws.FnExactTrackText returns true, and its arguments read behind the call as before it. three tables of the library\'s listed as the program\'s text lays them), and its tied card.
-/
import Derived.Deep.RegionHeld3
import Derived.Test.YtmiefdjbhcpnbaaDoorCards
import Derived.Test.YtmiefdjbhcpnbaaDoorTie
import Derived.LaidMore
import Derived.Stop.Joined
import Derived.SevenTiedAt
import Derived.Test.YtmiefdjbhcpnbaaDoorZTTak
import Derived.Test.YtmiefdjbhcpnbaaDoorZTTam
import Derived.Test.YtmiefdjbhcpnbaaDoorZTTan

namespace Go.Proofs.YtmiefdjbhcpnbaaDoor
open Go.RowKit

set_option maxRecDepth 100000 in
theorem lawTrackText_big (q f k : Int) (A1 A2 : Option Addr) (n1 c1 n2 c2 : Nat) (w : World) (hn1 : n1 ≤ maxLen) (hn2 : n2 ≤ maxLen) (h : 1048576 < n1 + n2) :
    Calls Tryd.prog 3 #[.agg #[.int .i64 q, .int .i64 f, .int .i64 k, .slice A1 n1 c1, .slice A2 n2 c2]] w fun e w' => e = .returned (.bool true) ∧ Below w.heap.size w w' := by
  by_cases h1 : (1048576 : Int) < n1 + n2
  · go_enter Tryd.func3, Tryd.ntmps3
    go_wp2_with (go_at_call 7; refine (szTrack_any _ _ _ _ _ _ _ _ _ _ hn1 hn2).mono ?_; rintro e w1 ⟨rfl, hx⟩)
    go_ret
    exact ⟨rfl, (below1 _ _).trans (hx.mono (by simp))⟩
  · omega

set_option maxHeartbeats 2000000 in
set_option maxRecDepth 100000 in
theorem lawTrackText_small (q f k : Int) (A1 A2 : Option Addr) (c1 c2 : Nat) (st sf : List Int) (w : World) (h1 : RI w w.heap.size A1 st) (h2 : RI w w.heap.size A2 sf) (h : st.length + sf.length ≤ 1048576) (ht : Tens w) :
    Calls Tryd.prog 3 #[.agg #[.int .i64 q, .int .i64 f, .int .i64 k, .slice A1 st.length c1, .slice A2 sf.length c2]] w fun e w' => e = .returned (.bool true) ∧ Below w.heap.size w w' := by
  have hl := h1.1
  have hl2 := h2.1
  obtain ⟨y, ok, hS, hI⟩ := trackText_both q f k st sf
  have HT := Lib.hid ht
  clear ht
  have hS := Lib.hid hS
  have hI := Lib.hid hI
  have hc1 : ¬ (1048576 : Int) < (st.length : Int) + sf.length := by omega
  have hc2 : ¬ (1048576 : Int) - ((st.length : Int) + sf.length) < 0 := by omega
  go_enter Tryd.func3, Tryd.ntmps3
  go_wp2_with fail
  refine (szTrack_any _ _ _ _ _ _ _ _ _ _ (by unfold maxLen; omega) (by unfold maxLen; omega)).mono ?_
  rintro e w1 ⟨rfl, hx⟩
  have hb := box_on (Below.refl _ _) hx (by simp)
  have qq := boxcells hb
  go_wp2_with fail
  -- a copy for the model
  refine (toTrack_any _ _ _ _ _ _ _ _ _ _ (h1.go ((below1 _ _).trans (hb.mono (by omega)))) (h2.go ((below1 _ _).trans (hb.mono (by omega))))).mono ?_
  rintro e w2 ⟨g1, g2, rfl, hg1, hg2, hne, r1, r2, hx⟩
  replace hb := box_on hb hx (by have := hb.size; simpa using this)
  replace qq := boxcells hb
  go_wp2_with fail
  refine (hS.out _ _ _ _ _ (r1.ri rfl hl) (r2.ri rfl hl2) (Nat.le_refl _)).mono ?_
  rintro e w3 ⟨rfl, hx⟩
  replace hb := box_on hb hx (by have := hb.size; simpa using this)
  replace qq := boxcells hb
  clear r1 r2 hg1 hg2 hne
  have s3 : w.heap.size + 1 ≤ w3.heap.size := by have := hb.size; simpa using this
  go_wp2_with fail
  -- a copy for the program
  refine (toTrack_any _ _ _ _ _ _ _ _ _ _ (h1.go ((below1 _ _).trans (hb.mono (by omega)))) (h2.go ((below1 _ _).trans (hb.mono (by omega))))).mono ?_
  rintro e w4 ⟨g3, g4, rfl, hg3, hg4, hne, r3, r4, hx⟩
  replace hb := box_on hb hx (by have := hb.size; simpa using this)
  replace qq := boxcells hb
  have d := hx
  have s4 := hx.size
  have l3 := r3.lt
  have l4 := r4.lt
  go_wp2_with fail
  have r3 := r3.alloc (.cells #[.int .i64 q, .int .i64 f, .int .i64 k, .slice (some ⟨g3, 0, none⟩) st.length st.length, .slice (some ⟨g4, 0, none⟩) sf.length sf.length] 28)
  have r4 := r4.alloc (.cells #[.int .i64 q, .int .i64 f, .int .i64 k, .slice (some ⟨g3, 0, none⟩) st.length st.length, .slice (some ⟨g4, 0, none⟩) sf.length sf.length] 28)
  have hb := hb.alloc (by have := hb.size; simpa using this) (.cells #[.int .i64 q, .int .i64 f, .int .i64 k, .slice (some ⟨g3, 0, none⟩) st.length st.length, .slice (some ⟨g4, 0, none⟩) sf.length sf.length] 28)
  have d := d.alloc d.size (.cells #[.int .i64 q, .int .i64 f, .int .i64 k, .slice (some ⟨g3, 0, none⟩) st.length st.length, .slice (some ⟨g4, 0, none⟩) sf.length sf.length] 28)
  have hb2 : Below (w4.heap.size + 1) (w4.alloc (.cells #[.int .i64 q, .int .i64 f, .int .i64 k, .slice (some ⟨g3, 0, none⟩) st.length st.length, .slice (some ⟨g4, 0, none⟩) sf.length sf.length] 28)) (w4.alloc (.cells #[.int .i64 q, .int .i64 f, .int .i64 k, .slice (some ⟨g3, 0, none⟩) st.length st.length, .slice (some ⟨g4, 0, none⟩) sf.length sf.length] 28)) := Below.refl _ _
  refine (hI.out _ _ _ _ _ (r3.ri rfl hl) (r4.ri rfl hl2) (Nat.le_refl _) (HT.out.on ((below1 _ _).trans (hb.mono (by omega))))).mono ?_
  rintro e w5 ⟨rfl, hx⟩
  simp only [World.size_alloc] at hx
  have r3 := r3.below hx (by omega)
  have r4 := r4.below hx (by omega)
  have hb := box_on hb hx (by omega)
  have hb2 := box_on hb2 hx (Nat.le_refl _)
  have d := d.trans (hx.mono (by omega))
  have qq := boxcells hb
  have qq2 := boxcells hb2
  have s5 : (w4.heap.size + 1) ≤ w5.heap.size := by have := hx.size; (try simp at this); omega
  go_wp2_with fail
  -- the program's copy reads as before
  have hb5 := hb.drew
  have hb25 := hb2.drew
  go_region_held3 (fun w' => Below (w.heap.size + 1) (w.alloc (.cells #[.int .i64 q, .int .i64 f, .int .i64 k, .slice A1 st.length c1, .slice A2 sf.length c2] 24)) w' ∧ Below (w4.heap.size + 1) (w4.alloc (.cells #[.int .i64 q, .int .i64 f, .int .i64 k, .slice (some ⟨g3, 0, none⟩) st.length st.length, .slice (some ⟨g4, 0, none⟩) sf.length sf.length] 28)) w' ∧ (∀ i, w'.cell? ⟨w.heap.size, i, none⟩ = #[.int .i64 q, .int .i64 f, .int .i64 k, .slice A1 st.length c1, .slice A2 sf.length c2][i]?) ∧ (∀ i, w'.cell? ⟨w4.heap.size, i, none⟩ = #[.int .i64 q, .int .i64 f, .int .i64 k, .slice (some ⟨g3, 0, none⟩) st.length st.length, .slice (some ⟨g4, 0, none⟩) sf.length sf.length][i]?)) (go_keep)
    (first | (go_at_call 9; refine (toTrack_any _ _ _ _ _ _ _ _ _ _ (h1.go ((below1 _ _).trans (hb5.mono (by omega)))) (h2.go ((below1 _ _).trans (hb5.mono (by omega))))).mono ?_; rintro e w6 ⟨g5, g6, rfl, hg5, hg6, hne6, r5, r6, hx⟩; have k1 := box_on hb5 hx (by have := hb5.size; simpa using this); have k2 := box_on hb25 hx (by have := hb25.size; simpa using this); have k3 := boxcells k1; have k4 := boxcells k2) | (go_at_call 11; refine (eqTrack_any _ _ _ _ _ _ _ _ _ _ _ _ _ _ ((r3.drew.below hx r3.lt).ri rfl hl) ((r4.drew.below hx r4.lt).ri rfl hl2) (r5.ri rfl hl) (r6.ri rfl hl2)).mono ?_; rintro e w7 ⟨rfl, hx7⟩; have m1 := box_on k1 hx7 (by have := k1.size; simpa using this); have m2 := box_on k2 hx7 (by have := k2.size; simpa using this); have m3 := boxcells m1; have m4 := boxcells m2))
  have e57 : Below w5.heap.size w5 w7 := (Below.refl _ w5).drew.trans (hx.trans (hx7.mono hx.size))
  clear k1 k2 k3 k4 qq qq2 hb5 hb25 r5 r6 hg5 hg6 hne6 hx hx7 m1 m2
  replace hb := box_on hb e57 (by have := hb.size; simpa using this)
  replace hb2 := box_on hb2 e57 (by have := hb2.size; simpa using this)
  replace r3 := r3.below e57 r3.lt
  replace r4 := r4.below e57 r4.lt
  replace d := d.trans (e57.mono d.size)
  have s5 := Nat.le_trans s5 e57.size
  have qq := m3
  have qq2 := m4
  clear m3 m4
  go_wp2_with fail
  go_ret
  exact ⟨rfl, (below1 _ _).trans (hb.mono (by omega))⟩
end Go.Proofs.YtmiefdjbhcpnbaaDoor

namespace Go.Proofs.YtmiefdjbhcpnbaaDoor
open Go.ChangeShapes Go.WideShapes Go.ChangeAt Go.RowKit Go.Deep Go.Joins

/-- The door's own heap meets the condition. -/
theorem door_met (os : Os) (args : Array Value) : laidMetH Tryd.prog Rows.fnExactTrackTextRow.laid ((World.doorLaid Tryd.prog 24 os).forCall (fun _ _ => 0) ⟨#[], args, []⟩).memory :=
  laidMetH_of_parts3 (fuel := 8) (laidMet_of_run' 8 (by kernel_rfl) (by kernel_rfl)) (by kernel_rfl) (by kernel_rfl)

theorem g_pow : Tryd.prog.globalNamed "internal/strconv.uint64pow10" = some 1 := by kernel_rfl
theorem t_pow : (Tryd.prog.globals[1]?).map (·.type) = some 141 := by kernel_rfl
theorem d_pow : (Rows.laid_internal_strconv_uint64pow10 : DataW Unit) = Lib.tabData .u64 Lib.pow10Tab := by kernel_rfl

/-- What the condition gives the walk: the table of powers of ten. -/
theorem tens_of {W : World} (h : laidMetH Tryd.prog Rows.fnExactTrackTextRow.laid W) : Tens W := by
  rw [MakeChecks.laidMetH_plain _ _ _ (by kernel_rfl)] at h
  obtain ⟨ps, ⟨g0, t0, cs0, f0, p0, q0, hg0, ht0, hv0, hd0, ⟨g1, t1, cs1, f1, p1, q1, hg1, ht1, hv1, hd1, ⟨g2, t2, cs2, f2, p2, q2, hg2, ht2, hv2, hd2, _, _⟩, _⟩, _⟩, _⟩ := h
  obtain rfl := Option.some.inj (g_pow.symm.trans hg2)
  obtain rfl := Option.some.inj (t_pow.symm.trans ht2)
  rw [d_pow] at hd2
  unfold Tens Lib.TabIs
  rw [hv2, ← Lib.cells_of_tab Tryd.underlying141 Tryd.underlying121 (by kernel_rfl) (by kernel_rfl) hd2]

set_option maxRecDepth 100000 in
theorem trackText_lifted (os : Os) (started : os.Started) (H : Type) (enc : TypeId × Value → H) :
    ReturnsInHanded {} Tryd.checked os 3 .any (fun w args => (Rows.fnExactTrackTextSpec.pre enc Tryd.prog Tryd.f3 [] false w args ∧ laidMetH Tryd.prog Rows.fnExactTrackTextRow.laid w) ∧ sizedMet enc Tryd.prog Tryd.f3 (OpenSpec.ofChange Rows.fnExactTrackTextSpec) false w args)
      (Rows.fnExactTrackTextSpec.post enc Tryd.prog Tryd.f3 false true false false) := by
  refine returnsInHanded_of_change_and (C := Tryd.checked) (X := fun w _ => laidMetH Tryd.prog Rows.fnExactTrackTextRow.laid w) (fun _ _ _ hh h => h.of_heap hh) head_own started (by kernel_rfl) Tryd.func3
    (ChangeSpec.witness_shaped (enc := enc) (C := Tryd.checked) (os := os) (X := fun w _ => laidMetH Tryd.prog Rows.fnExactTrackTextRow.laid w) false (World.doorLaid Tryd.prog 24 os) #[.agg #[.int .i64 0, .int .i64 0, .int .i64 0, .slice none 0 0, .slice none 0 0]] 8 rfl (World.shaped_of_RefB (by kernel_rfl) (by kernel_rfl)) (by kernel_rfl) (by kernel_rfl) (by kernel_rfl) (door_met os _)) ?_
  intro W base args ds gs before hval0 hW _ _ hL _
  have hval : ∀ (j : Nat) t v, Tryd.f3.params[j]? = some t → args[j]? = some v → Value.okWide Tryd.prog W .any base t v := hval0
  have hT := tens_of hL
  have hW' := hW
  obtain ⟨p, q, hA0, hV, rfl, _, _⟩ := hW
  have hA : DataW.TrodAll enc Tryd.prog W 0 (fun _ => true) true Tryd.f3.params.toList args.toList ds p := hA0
  have hA' := hA
  rw [Tryd.params3] at hA hval
  obtain ⟨v0, vs0, d0, ds0, p0, q0, hargs0, rfl, rfl, h0, r0⟩ := trodAll_cons hA
  obtain ⟨rfl, rfl, rfl⟩ := trodAll_nil r0
  obtain rfl : args = #[v0] := by cases args; simp_all
  obtain ⟨rfl, rfl⟩ := trodVars_none hV
  have fin : ∀ W' : World, Below W.heap.size W W' → Rows.fnExactTrackTextSpec.post enc Tryd.prog Tryd.f3 false true false false W #[v0] (.bool true) W' := fun W' hb =>
    law_post head_laid hW' (by simpa using hA') rfl (by kernel_rfl) (T := 4) rfl Tryd.underlying4 rfl rfl rfl hb
  obtain ⟨q, f, k, A1, n1, c1, A2, n2, c2, rfl, hn1, hn2, hj1, hj2⟩ := open_track (hval 0 _ v0 rfl rfl) h0
  by_cases hb : n1 + n2 ≤ 1048576
  · obtain ⟨st, hsl, hs1⟩ := hj1 (by omega)
    obtain ⟨sf, hfl, hs2⟩ := hj2 (by omega)
    subst hsl hfl
    exact (lawTrackText_small q f k A1 A2 c1 c2 st sf W hs1 hs2 hb hT).mono fun e W' ⟨he, hx⟩ => ⟨_, he, fin W' hx⟩
  · exact (lawTrackText_big q f k A1 A2 n1 c1 n2 c2 W hn1 hn2 (by omega)).mono fun e W' ⟨he, hx⟩ => ⟨_, he, fin W' hx⟩

theorem trackText_joined : joinedFacts Tryd.prog 3 Tryd.f3 Rows.fnExactTrackTextSpec Rows.fnExactTrackTextRow = true := by
  simp only [joinedFacts, Bool.and_eq_true]
  repeat' apply And.intro
  all_goals first
    | with_reducible exact head_enter
    | with_reducible exact head_laid
    | with_reducible exact head_maps
    | (rw [head_lifts]; as_aux_lemma => kernel_rfl)
    | (rw [head_make]; as_aux_lemma => kernel_rfl)
    | as_aux_lemma => kernel_rfl
theorem trackText_named : Tryd.prog.funcNamed Rows.fnExactTrackTextRow.func = some 3 := by kernel_rfl
theorem trackText_wrap : Tryd.f3.isWrapper Tryd.prog Rows.fnExactTrackTextRow.wrapper Rows.fnExactTrackTextRow.mainSum := by unfold Func.isWrapper; first | (rw [if_pos (by decide +kernel)]; kernel_rfl) | (rw [if_neg (by decide +kernel)]; exact ⟨rfl, rfl⟩)
theorem trackText_inst : Tryd.f3.isInstance Tryd.prog Rows.fnExactTrackTextRow.origin Rows.fnExactTrackTextRow.targs := of_decide_eq_true (by kernel_rfl)

theorem trackText_row : Rows.FnExactTrackTextSaid :=
  OpenClaim.holds_of_wide 3 Tryd.f3 rfl rfl rfl rfl rfl rfl rfl ⟨rfl, rfl, rfl, rfl, rfl⟩ rfl rfl rfl rfl rfl trackText_named Tryd.func3 trackText_joined trackText_inst trackText_wrap
    (fun os started H enc _ => trackText_lifted os started H enc)
/-- The tied card. -/
theorem trackText_holds : Rows.FnExactTrackTextCardSaid :=
  Claim7.holds_tied_plain_at .later [] [.data, .data, .data] true _ true
    trackText_row (fun _ h => by cases h) (by kernel_rfl) (fun _ h => by cases h) fnExactTrackText_row_tie rfl ⟨rfl, rfl⟩ (by kernel_rfl) rfl
    (fun f fn hf hfn => by
      obtain rfl : f = 3 := Option.some.inj ((show Tryd.prog.funcNamed "loop.example/g01306/laws.FnExactTrackText" = some 3 by kernel_rfl).symm.trans hf) |>.symm
      obtain rfl : fn = Tryd.f3 := (Option.some.inj (Tryd.func3.symm.trans hfn)).symm
      exact ⟨by kernel_rfl, fun j t ht => by
        rw [Tryd.params3] at ht
        have hm : t ∈ [24] := by simpa using Array.mem_of_getElem? ht
        have hall : ([24].all fun u => !Tryd.prog.wantsStandIn u) = true := by kernel_rfl
        exact (show Tryd.prog.wantsStandIn t = false by simpa using List.all_eq_true.1 hall t hm)⟩)
    (by kernel_rfl)
#print axioms trackText_holds
end Go.Proofs.YtmiefdjbhcpnbaaDoor

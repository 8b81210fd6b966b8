/-
  Tracks: the program's standOf.
-/
import Derived.Test.YtbheegdmamcgaabC7k
import Derived.Test.YtbheegdmamcgaabWRegB
import Derived.Test.YtbheegdmamcgaabWGrid
namespace Go.Proofs.Ytbheegdmamcgaab
open Go.RowKit

/-- What is written ahead of (p, t): the rows of the state over F0. -/
def rowF (F0 G : Nat → Nat → Int) (p t : Nat) (a b : Nat) : Int := if a < p ∨ (a = p ∧ b < t) then G a b else F0 a b
set_option maxRecDepth 100000 in
theorem run_buildStand0 (w : World) : (Instr.build 84 #[]).run Try.prog w = .ok (.agg (standC (fun _ _ => 0))) w := by kernel_rfl

set_option maxRecDepth 100000 in
set_option maxHeartbeats 2000000 in
theorem standOf_any (g : Nat) (q f k : Int) (A A3 : Option Addr) (c c3 : Nat) (st sf : List Int) (L : List (List Int)) (w : World) (hR : RA w g 81 q f k A st.length c (safeB sf)) (hj : RI w w.heap.size A st) (h3 : RG w w.heap.size A3 L) (h4 : 4 ≤ q) (h6 : q ≤ 60) (hk : 1 ≤ k) (hk4 : k ≤ 4) (hn : st.length ≤ 4) (h0 : ∀ p (h : p < st.length), 0 ≤ st[p] ∧ st[p] < q) :
    Calls Try.prog 98 #[.pointer (some ⟨g, 0, none⟩), .slice A3 L.length c3] w fun e w' => ∃ V : Nat → Nat → Int, e = .returned (.tuple #[.agg (standC V), .bool (stateB q k st sf L)]) ∧ (stateB q k st sf L = true → V = stF q L) ∧ Below w.heap.size w w' := by
  have hgw := hR.lt
  have hl3 := h3.1
  have hz := zeroStand
  have hbd := run_buildStand0
  obtain ⟨r, hr⟩ : ∃ r, stateB q k st sf L = r := ⟨_, rfl⟩
  rw [hr]
  rw [stateB] at hr
  have HR := Lib.hid hr
  clear hr
  have c3' := hR.c3
  go_enter Try.func98, Try.ntmps98
  have hZ : DA (w.alloc (.cells (standC (fun _ _ => 0)) 84)) w.heap.size 84 (fun _ _ => 0) := heap_alloc_at w _ _ rfl
  by_cases hlen : L.length = st.length
  case neg =>
    have hne : ((L.length : Int) != (st.length : Int)) = true := bne_iff_ne.2 (by omega)
    have E : r = false := by rw [← HR.out]; simp [hlen]
    have HE := Lib.hid E
    clear E
    go_wp2_with (refine wpList_store_row rfl 84 (.tmp 4) _ rfl w.heap.size rfl _ _ _ rfl hZ ?_ ?_ (stand_one _) ?_; (simp only [stand_size]); (rw [stand_size]; exact sizeStand); intro w4 hC4 hg4 hs4)
    exact bodyPost_ret (v := .tuple #[.agg (standC (fun _ _ => 0)), .bool false]) (results_cell_slot Try.results98 _ _ _ _ _ _ _ _ rfl rfl hC4 Try.underlying84 rfl (by rw [stand_size]; exact sizeStand)) rfl
      ⟨_, by rw [HE.out], fun h => (by rw [HE.out] at h; cases h), (below1 _ _).grown hg4 (by simp) (fun k h => by cases h; omega)⟩
  have heq : ((L.length : Int) != (st.length : Int)) = false := bne_eq_false_iff_eq.2 (by omega)
  have HL := Lib.hid hlen
  have HR2 : Hid ((rowsB q k L && peaceB q k st sf (stF q L)) = r) := Lib.hid (by rw [← HR.out, hlen]; simp)
  clear hlen HR
  have hb0 := below1 w (.cells (standC (fun _ _ => 0)) 84)
  go_wp2_with fail
  refine (alike_any g q f k A st.length c (safeB sf) _ (hR.below hb0 hgw) (-1) (by omega) (by omega) hk4).mono ?_
  rintro e w2 ⟨rfl, hx⟩
  simp only [World.size_alloc] at hx
  have hb2 : Below w.heap.size w w2 := hb0.trans (hx.mono (by omega))
  have hZ2 := hZ.below hx (by omega)
  have hs2 : w.heap.size + 1 ≤ w2.heap.size := by have := hx.size; simpa using this
  clear heq hZ
  obtain ⟨F0, hF0⟩ : ∃ F0, F0 = alikeF st.length k q (-1) := ⟨_, rfl⟩
  rw [← hF0]
  have HF0 := Lib.hid hF0
  clear hF0
  have hN : (w2.alloc (.cells (standC (fun _ _ => 0)) 84)).heap[w2.heap.size]? = some (.cells (standC (fun _ _ => 0)) 84 (0, 0)) := heap_alloc_at _ _ _ rfl
  go_wp2_with (refine wpList_store_row rfl 84 (.tmp 6) _ rfl w2.heap.size rfl _ _ _ rfl hN ?_ ?_ (stand_one _) ?_; (simp only [stand_size]); (rw [stand_size]; exact sizeStand); intro w3 hC3 hg3 hs3)
  simp only [World.size_alloc] at hs3
  have hb3 : Below w.heap.size w w3 := (hb2.alloc hb2.size _).grown hg3 (by simp; omega) (fun k h => by cases h; omega)
  have hZ3 : DA w3 w.heap.size 84 (fun _ _ => 0) := (hZ2.alloc _).grown hg3 (by simp; omega)
  have hD3 : DA w3 w2.heap.size 84 (rowF F0 (stF q L) 0 0) := DA.congr hC3 (fun x _ y _ => by simp [rowF])
  clear hx hg3 hC3 hN hZ2
  obtain ⟨ga, hga⟩ : ∃ ga, ga = w2.heap.size := ⟨_, rfl⟩
  rw [← hga] at hD3 hs2 ⊢
  have hgn : ga ≠ w.heap.size := by omega
  have hgg : g ≠ ga := by omega
  clear hga hs3 hb2
  go_loopw [24] (fun i wr => ∃ p : Nat, p ≤ L.length ∧ i = .int .i64 p ∧ Below w.heap.size w wr ∧ DA wr w.heap.size 84 (fun _ _ => 0) ∧ DA wr ga 84 (rowF F0 (stF q L) p 0) ∧ Hid (rowsB q k L = rowsB q k (L.drop p))) (fun i _ => L.length - (intOf i).toNat)
  case atStart => exact ⟨0, Nat.zero_le _, rfl, hb3, hZ3, hD3, Lib.hid rfl⟩
  case round =>
    clear hb3 hZ3 hD3
    obtain ⟨p, hp, rfl, hb, hZ, hD, Hd⟩ := hrel
    have R1 := hR.below hb hgw
    have hLn := HL.out
    have hL4 : L.length ≤ 4 := by omega
    clear hLn
    by_cases hlt : p < L.length
    · have hp4 : p < 4 := by omega
      have q1 : (p : Int) < 4 := by omega
      obtain ⟨b, off, A', c', rfl, hbb, hc0, hrow⟩ := h3.at_ (Below.refl _ w) hlt
      have hc := (bcell hb hbb).trans hc0
      clear hc0
      have hHD := Hd.out.trans (rowsB_drop hlt)
      clear Hd
      have hF : ∀ t (h : t < L[p].length), stF q L p t = L[p][t] := fun t h => stF_at hlt h
      obtain ⟨xs, hxs⟩ : ∃ xs, xs = L[p] := ⟨_, rfl⟩
      have hF' : ∀ t (h : t < xs.length), stF q L p t = xs[t] := fun t h => by subst hxs; exact hF t h
      have hFo : ∀ t, xs.length ≤ t → stF q L p t = q := fun t h => by subst hxs; simp [stF, hlt, show ¬ t < L[p].length by omega]
      rw [← hxs] at hc hrow hHD
      have HD := Lib.hid hHD; have HF := Lib.hid hF'; have HFo := Lib.hid hFo
      have hxl := hrow.1
      clear hxs hF hF' hFo hHD
      have c2 := R1.c2
      by_cases hrl : (xs.length : Int) = k
      case neg =>
        have hne : ((xs.length : Int) != k) = true := bne_iff_ne.2 hrl
        have E : r = false := by rw [← HR2.out, HD.out]; simp [hrl]
        have HE := Lib.hid E
        clear E hrl
        go_wp2_with (refine wpList_store_row rfl 84 (.tmp 4) _ rfl w.heap.size rfl _ _ _ rfl hZ ?_ ?_ (stand_one _) ?_; (simp only [stand_size]); (rw [stand_size]; exact sizeStand); intro w4 hC4 hg4 hs4)
        exact bodyPost_ret (v := .tuple #[.agg (standC (fun _ _ => 0)), .bool false]) (results_cell_slot Try.results98 _ _ _ _ _ _ _ _ rfl rfl hC4 Try.underlying84 rfl (by rw [stand_size]; exact sizeStand)) rfl
          ⟨_, by rw [HE.out], fun h => (by rw [HE.out] at h; cases h), hb.grown hg4 hb.size (fun k h => by cases h; omega)⟩
      have hx4 : xs.length ≤ 4 := by omega
      have heq : ((xs.length : Int) != k) = false := bne_eq_false_iff_eq.2 hrl
      have HRL := Lib.hid hrl
      clear hrl
      go_wp2_with fail
      clear heq
      go_loopw [39] (fun i wi => ∃ t : Nat, t ≤ xs.length ∧ i = .int .i64 t ∧ Below w.heap.size w wi ∧ DA wi w.heap.size 84 (fun _ _ => 0) ∧ DA wi ga 84 (rowF F0 (stF q L) p t) ∧ Hid (allB (-1) q xs = allB (-1) q (xs.drop t))) (fun i _ => xs.length - (intOf i).toNat)
      case atStart => exact ⟨0, Nat.zero_le _, rfl, hb, hZ, hD, Lib.hid rfl⟩
      case round =>
        clear hb hZ hD hc R1 c2
        obtain ⟨t, ht, rfl, hb, hZ, hD, Ha⟩ := hrel
        have R1 := hR.below hb hgw
        have c0 := R1.c0
        by_cases htl : t < xs.length
        · have ht4 : t < 4 := by omega
          have q2 : (t : Int) < 4 := by omega
          obtain ⟨b2, off2, rfl, hb2, h5⟩ := hrow.at_ hb htl
          have hall := Ha.out
          rw [drop_step _ _ htl, allB_cons] at hall
          have hfx := HF.out t htl
          obtain ⟨x, hx⟩ : ∃ x, x = xs[t] := ⟨_, rfl⟩
          rw [← hx] at h5 hall hfx
          have HA := Lib.hid hall; have HFX := Lib.hid hfx
          clear hx hall hfx Ha
          cases hin : inB x (-1) q
          · have E : r = false := by rw [← HR2.out, HD.out, HA.out, hin]; simp
            have HE := Lib.hid E; have HIN := Lib.hid hin
            clear E hin
            go_wp2_with (first | (go_at_call 99; refine (isWithin_any _ _ _ _).mono ?_; rintro e w' ⟨rfl, rfl⟩; rw [HIN.out]) | (refine wpList_store_row rfl 84 (.tmp 4) _ rfl w.heap.size rfl _ _ _ rfl hZ ?_ ?_ (stand_one _) ?_; (simp only [stand_size]); (rw [stand_size]; exact sizeStand); intro w4 hC4 hg4 hs4))
            exact bodyPost_ret (v := .tuple #[.agg (standC (fun _ _ => 0)), .bool false]) (results_cell_slot Try.results98 _ _ _ _ _ _ _ _ rfl rfl hC4 Try.underlying84 rfl (by rw [stand_size]; exact sizeStand)) rfl
              ⟨_, by rw [HE.out], fun h => (by rw [HE.out] at h; cases h), hb.grown hg4 hb.size (fun k h => by cases h; omega)⟩
          · have HIN := Lib.hid hin
            clear hin
            have d1 := hD.at_ hp4 ht4
            have d2 := hD.free (p * 4 + t)
            go_wp2_with (go_at_call 99; refine (isWithin_any _ _ _ _).mono ?_; rintro e w' ⟨rfl, rfl⟩; rw [HIN.out])
            go_roundw
            case rel => exact ⟨t + 1, by omega, by go_num, hb.setCell (by dsimp only; omega) _, hZ.far (by dsimp only; omega) _, (hD.set hp4 ht4 x).congr (fun a _ b _ => by
              simp only [updP, rowF]
              by_cases e : a = p ∧ b = t
              · rw [if_pos e, if_pos (by omega), e.1, e.2, HFX.out]
              · rw [if_neg e]
                by_cases e2 : a < p ∨ (a = p ∧ b < t)
                · rw [if_pos e2, if_pos (by omega)]
                · rw [if_neg e2, if_neg (by omega)]), Lib.hid (by rw [HA.out, HIN.out, Bool.true_and])⟩
            case measure => simp [intOf]; omega
        · obtain rfl : t = xs.length := by omega
          have hall : allB (-1) q xs = true := by rw [Ha.out, List.drop_eq_nil_of_le (Nat.le_refl _)]; rfl
          have HA := Lib.hid hall
          clear hall Ha
          have hpl : p < st.length := by have := HL.out; omega
          go_wp2_with fail
          go_roundw
          case rel => exact ⟨p + 1, by omega, by go_num, hb, hZ, hD.congr (fun a _ b hb4 => by
            simp only [rowF]
            by_cases e2 : a < p ∨ (a = p ∧ b < xs.length)
            · rw [if_pos e2, if_pos (by omega)]
            · rw [if_neg e2]
              by_cases e3 : a = p
              · rw [if_pos (by omega), HF0.out, alikeF, e3, if_neg (by have := HRL.out; omega), HFo.out b (by omega)]
              · rw [if_neg (by omega)]), Lib.hid (by rw [HD.out, HA.out, HRL.out]; simp)⟩
          case measure => simp [intOf]; omega
    · obtain rfl : p = L.length := by omega
      have hrows : rowsB q k L = true := by rw [Hd.out, List.drop_eq_nil_of_le (Nat.le_refl _)]; rfl
      have hr3 : peaceB q k st sf (stF q L) = r := by rw [← HR2.out, hrows]; simp
      have HR3 := Lib.hid hr3
      clear hr3 Hd HR2 hrows
      have hD2 : DA wr ga 84 (stF q L) := hD.congr (fun a _ b _ => by
        simp only [rowF]
        by_cases e2 : a < L.length ∨ (a = L.length ∧ b < 0)
        · rw [if_pos e2]
        · rw [if_neg e2, HF0.out, alikeF, if_neg (by have := HL.out; omega)]
          simp [stF, show ¬ a < L.length by omega])
      clear hD
      have hsz := hb.size
      have hgaw := hD2.lt
      go_wp2_with fail
      have kD : ∀ w', Below wr.heap.size wr w' → w'.heap[ga]? = some (.cells (standC (stF q L)) 84 (0, 0)) := fun w' h => (h.block ga hgaw).trans hD2
      refine wp_region_held_drew (S := (fun w' => Below w.heap.size w w' ∧ Below w.heap.size w wr ∧ (Below wr.heap.size wr w' ∨ ∃ w5, Below wr.heap.size wr w5 ∧ w5.grownBy w' (some w.heap.size)) ∧ w'.heap[ga]? = some (.cells (standC (stF q L)) 84 (0, 0)))) (by kernel_rfl) ⟨hb.drew, hb, .inl (Below.refl _ _).drew, hD2⟩ (fun hS => ?_)
      refine wpAnyH_take (i := 0) (oi := ⟨some 59, _, _, _, _, _⟩) rfl (by kernel_rfl) (by kernel_rfl) (by kernel_rfl) (fun _ _ _ h => h) (yields_load_row rfl 84 (.tmp 6) rfl ga rfl _ _ _ _ (fun _ h => h.2.2.2) Try.underlying84 rfl (by rw [stand_size]; exact sizeStand)) hS ?_
      try simp only [Act.put, List.setIfInBounds_toArray, List.set_cons_zero, List.set_cons_succ]
      refine wpAnyH_take (i := 2) (oi := ⟨some 61, _, _, _, _, _⟩) rfl (by kernel_rfl) (by kernel_rfl) (by kernel_rfl) (fun _ _ _ h => h) (yields_load_row rfl 84 (.tmp 6) rfl ga rfl _ _ _ _ (fun _ h => h.2.2.2) Try.underlying84 rfl (by rw [stand_size]; exact sizeStand)) hS ?_
      try simp only [Act.put, List.setIfInBounds_toArray, List.set_cons_zero, List.set_cons_succ]
      refine wpAnyH_take (i := 1) (oi := ⟨some 60, _, _, _, _, _⟩) (v := ?vz1) rfl (by kernel_rfl) (by kernel_rfl) (by kernel_rfl) (fun _ _ _ h => h) (Or.inl ⟨by rfl, ?hz1⟩) hS ?rz1
      case hz1 => (intro w' hSw; (try dsimp only at hSw); go_simp; (try with_reducible rfl))
      try simp only [Act.put, List.setIfInBounds_toArray, List.set_cons_zero, List.set_cons_succ]
      refine wpAnyH_ready (rs := [3]) (by kernel_rfl) (by simp) ?_
      refine AllReadyH.cons (o := ⟨some 62, _, _, _, _, _⟩) rfl (fun K' hK' => ?_) AllReadyH.nil
      go_simp
      go_at_call 125
      refine (isPeaceful_any g q f k A c st sf _ (hR.below hb.drew hgw) (hj.go hb.drew) (stF q L) h4 h6 (by omega) hk4 hn h0).mono ?_
      rintro e w5 ⟨rfl, hx5⟩
      rw [HR3.out]
      have hx5' : Below wr.heap.size wr w5 := (Below.refl _ wr).drew.trans hx5
      have hb5 : Below w.heap.size w w5 := hb.trans (hx5'.mono hsz)
      have hZ5 := hZ.go hx5'
      have hS5 : Below w.heap.size w w5 ∧ Below w.heap.size w wr ∧ (Below wr.heap.size wr w5 ∨ ∃ w6, Below wr.heap.size wr w6 ∧ w6.grownBy w5 (some w.heap.size)) ∧ w5.heap[ga]? = some (.cells (standC (stF q L)) 84 (0, 0)) := ⟨hb5, hb, .inl hx5', kD _ hx5'⟩
      refine hK'.out _ _ hS5 (fun _ => ?_)
      clear hK' K'
      try simp only [Act.put, List.setIfInBounds_toArray, List.set_cons_zero, List.set_cons_succ]
      refine wpAnyH_ready (rs := [4]) (by kernel_rfl) (by simp) ?_
      refine AllReadyH.cons (o := ⟨none, _, _, _, _, _⟩) rfl (fun K' hK' => ?_) AllReadyH.nil
      refine step_store_row rfl 84 (.tmp 4) (.tmp 59) rfl w.heap.size rfl _ _ _ rfl hZ5 ?_ ?_ (stand_one _) ?_
      simp only [stand_size]
      rw [stand_size]; exact sizeStand
      intro w9 h9 g9 s9
      have hb9 : Below w.heap.size w w9 := hb5.grown g9 hb5.size (fun k h => by cases h; omega)
      have hS9 : Below w.heap.size w w9 ∧ Below w.heap.size w wr ∧ (Below wr.heap.size wr w9 ∨ ∃ w6, Below wr.heap.size wr w6 ∧ w6.grownBy w9 (some w.heap.size)) ∧ w9.heap[ga]? = some (.cells (standC (stF q L)) 84 (0, 0)) := ⟨hb9, hb, .inr ⟨w5, hx5', g9⟩, (g9.block ga (by have := hx5'.size; omega) (by simpa using hgn)).trans (kD _ hx5')⟩
      refine hK'.out _ _ hS9 (fun _ => ?_)
      clear hK' K'
      try simp only [Act.put]
      refine wpAnyH_ready (rs := [5]) (by kernel_rfl) (by simp) ?_
      refine AllReadyH.cons (o := ⟨some 5, _, _, _, _, _⟩) rfl (fun K' hK' => ?_) AllReadyH.nil
      go_simp
      refine hK'.out _ _ hS9 (fun _ => ?_)
      clear hK' K'
      try simp only [Act.put, List.setIfInBounds_toArray, List.set_cons_zero, List.set_cons_succ]
      refine wpAnyH_done (by kernel_rfl) ?_ _
      go_wp2_with fail
      exact bodyPost_ret (v := .tuple #[.agg (standC (stF q L)), .bool r]) (results_cell_slot Try.results98 _ _ _ _ _ _ _ _ rfl rfl h9 Try.underlying84 rfl (by rw [stand_size]; exact sizeStand)) rfl
        ⟨stF q L, rfl, fun _ => rfl, hb9⟩
end Go.Proofs.Ytbheegdmamcgaab

/-
  FirstThrows, the model's and the program's.
-/
import Derived.Test.YtiekdokgjdgajaaC1w
namespace Go.Proofs.Ytiekdokgjdgajaa
open Go.RowKit

/-- The first list, or none. -/
def FirstR (s f o : Int) (js : List (Int × Int)) (q : Nat) (R : List Int × Bool) : Prop :=
  (∃ t xs, DistB s f o js q t ∧ FirstB s f o js q t xs ∧ R = (xs, true)) ∨ (R = ([], false) ∧ ∀ t, ¬ Way (eB s f o js) q t s.toNat)

set_option maxRecDepth 100000 in
theorem specFirstThrows_no (s f o : Int) (A : Option Addr) (c : Nat) (sq : Int) (js : List (Int × Int)) (w : World) (hj : RJ w w.heap.size A js) (ha : asked s f o js sq = false) :
    Calls Try.prog 46 #[.agg #[.int .i64 s, .int .i64 f, .int .i64 o, .slice A js.length c], .int .i64 sq] w (IntsBack w ([], false)) := by
  have hl := hj.1
  have HA := Lib.hid ha; clear ha
  go_enter Try.func46, Try.ntmps46
  go_wp2_with (go_at_call 57; refine (sqAsked_any _ _ _ _ _ _ _ _ (hj.go (below1 _ _))).mono ?_; rintro e w2 ⟨rfl, hx⟩; rw [HA.out])
  go_ret2
  exact ⟨none, 0, rfl, .inl rfl, (below1 _ _).trans (hx.mono (by simp))⟩

set_option maxRecDepth 100000 in
set_option maxHeartbeats 1000000 in
theorem specFirstThrows_yes (s f o : Int) (A : Option Addr) (c : Nat) (q : Nat) (js : List (Int × Int)) (R : List Int × Bool) (w : World) (hj : RJ w w.heap.size A js) (ha : asked s f o js q = true) (hR : FirstR s f o js q R) :
    Calls Try.prog 46 #[.agg #[.int .i64 s, .int .i64 f, .int .i64 o, .slice A js.length c], .int .i64 q] w (IntsBack w R) := by
  have hl := hj.1
  have hz := good_sizes (asked_good ha)
  have hq := onSq_in (asked_on ha)
  obtain ⟨n, hn⟩ : ∃ n, s.toNat + 1 = n := ⟨_, rfl⟩
  have hn1 : n ≤ 101 := by omega
  have hqn : q < n := by omega
  have hqi : (q : Int) < (n : Int) := by omega
  have HA := Lib.hid ha; have HR := Lib.hid hR; have HN := Lib.hid hn; clear ha hR hn
  obtain ⟨j0, hji, hjz0, hjz1, hjz2⟩ := info_parts infoInt1
  go_enter Try.func46, Try.ntmps46
  go_wp2_with fail
  refine (sqAsked_any _ _ _ _ _ _ _ _ (hj.go (below1 _ _))).mono ?_
  rintro e w2 ⟨rfl, hx⟩
  rw [HA.out]
  have hb := box_on (Below.refl _ _) hx (by simp)
  have bc := boxcells hb
  have hB2 := (below1 w (.cells #[.int .i64 s, .int .i64 f, .int .i64 o, .slice A js.length c] 30)).trans (hb.mono (by omega))
  clear hx
  go_wp2_with fail
  refine (sqFar_any _ _ _ _ _ _ _ (hj.go hB2) (asked_good HA.out)).mono ?_
  rintro e w3 ⟨g, F, L, rfl, hg, hrow, hyes, hno, hL, hx3⟩
  have hs2 : w.heap.size + 1 ≤ w2.heap.size := by have := hb.size; simpa using this
  replace hb := box_on hb hx3 (by omega)
  rw [HN.out] at hrow ⊢
  have hgs := hrow.lt
  have d1 := hrow.cell hqn
  have HY := Lib.hid hyes; have HNO := Lib.hid hno
  have hB3 := hB2.trans (hx3.mono hB2.size)
  clear hx3 bc hyes hno hL hB2
  cases hF : F q
  · have hr : R = ([], false) := by
      rcases HR.out with ⟨t, xs, hd, _, _⟩ | ⟨e, _⟩
      · exact absurd hd.1 (HNO.out q (okB_of (asked_on HA.out)) hF _)
      · exact e
    rw [farF_no hF] at d1
    subst hr
    clear hrow hb
    go_wp2
    go_ret2
    exact ⟨none, 0, rfl, .inl rfl, hB3⟩
  · have hdq : DistB s f o js q (L q) := (HY.out q hF).2
    obtain ⟨xs, hr, hxs⟩ : ∃ xs, R = (xs, true) ∧ FirstB s f o js q (L q) xs := by
      rcases HR.out with ⟨t, xs, hd, hx, e⟩ | ⟨_, hw⟩
      · exact ⟨xs, e, by rw [Least.uniq hdq hd]; exact hx⟩
      · exact absurd hdq.1 (hw _)
    rw [farF_yes hF] at d1
    have h0 : ¬ (L q : Int) < 0 := by omega
    have hT := hdq.lt (asked_good HA.out) (okB_of (asked_on HA.out))
    rw [HN.out] at hT
    subst hr
    have HXS := Lib.hid hxs; have HDQ := Lib.hid hdq; have HT := Lib.hid hT
    clear hxs hdq hT
    go_wp2_with fail
    go_loopw [7, 8, 9, 10, 1] (fun v lf _ _ sq wr => ∃ (x t : Nat) (ys : List Int), lf = .int .i64 (t : Int) ∧ sq = .int .i64 (x : Int) ∧ okB s js x ∧ DistB s f o js x t ∧ ys.length + t = L q ∧ (∀ zs, FirstB s f o js x t zs → xs = ys ++ zs) ∧ Below (w.heap.size + 1) (w.alloc (.cells #[.int .i64 s, .int .i64 f, .int .i64 o, .slice A js.length c] 30)) wr ∧ RowI wr g 3 n (farF F L) ∧ g < wr.heap.size ∧ wr.ownsRow (g + 1) 3 1 v ys.length (ys.map (Value.int .i64))) (fun _ lf _ _ _ _ => (intOf lf).toNat)
    case atStart => exact ⟨q, L q, [], rfl, rfl, okB_of (asked_on HA.out), HDQ.out, by simp, fun zs hz => HXS.out.uniq hz, hb, hrow, hgs, World.ownsRow_nil _ _ _ _⟩
    case round =>
      clear hb hrow hgs d1 hB3 h0 HDQ
      obtain ⟨x, t, ys, rfl, rfl, hx, hd, hlen, hxs, hb, hrow, hgs, hown⟩ := hrel
      have hs : w.heap.size + 1 ≤ wr.heap.size := by have := hb.size; simpa using this
      cases t with
      | zero =>
        have h3 : ¬ ((0 : Nat) : Int) > 0 := by simp
        have he := hxs [] .nil
        rw [List.append_nil] at he
        subst he
        have hBw := (below1 w (.cells #[.int .i64 s, .int .i64 f, .int .i64 o, .slice A js.length c] 30)).trans (hb.mono (by omega))
        go_wp2
        obtain ⟨A', c', rfl, ho⟩ := own_oi hown rfl
        go_ret2
        refine ⟨A', c', rfl, ?_, hBw⟩
        rcases ho with h | ⟨g', e, hg', hr⟩
        · exact .inl h
        · exact .inr ⟨g', e, by omega, hr⟩
      | succ u =>
        obtain ⟨face, hface⟩ := hd.face
        obtain ⟨t, ht⟩ : ∃ t, u + 1 = t := ⟨_, rfl⟩
        rw [ht] at hlen hxs
        rw [ht]
        have h3 : (t : Int) > 0 := by omega
        have h30 : 0 < t := by omega
        have hyl : ys.length ≤ 101 := by have := HT.out; omega
        have hwl : IntKind.i64.wrap ((t : Int) - 1) = (u : Int) := by rw [IntWalk.i64_in _ (by have := HT.out; omega)]; omega
        have hxs0 : (x : Int) ≤ s := hx.1
        have hx0 : (0 : Int) ≤ (x : Int) := by omega
        have HD := Lib.hid hd; have HX := Lib.hid hx; have HXS2 := Lib.hid hxs; have HFA := Lib.hid hface; have HTU := Lib.hid ht; have HLEN := Lib.hid hlen
        clear hd hx hxs hface ht hlen
        go_wp2_with fail
        go_loopw [7, 9, 10, 1] (fun v i _ sq wi => ∃ k : Nat, k < face ∧ i = .int .i64 ((k : Int) + 1) ∧ sq = .int .i64 (x : Int) ∧ Below (w.heap.size + 1) (w.alloc (.cells #[.int .i64 s, .int .i64 f, .int .i64 o, .slice A js.length c] 30)) wi ∧ RowI wi g 3 n (farF F L) ∧ g < wi.heap.size ∧ wi.ownsRow (g + 1) 3 1 v ys.length (ys.map (Value.int .i64))) (fun _ i _ _ _ => face + 1 - (intOf i).toNat)
        case atStart => exact ⟨0, by have := HFA.out.1; omega, rfl, rfl, hb, hrow, hgs, hown⟩
        case round =>
          clear hb hrow hgs hown hs
          obtain ⟨k, hk, rfl, rfl, hb, hrow, hgs, hown⟩ := hrel
          have hs : w.heap.size + 1 ≤ wr.heap.size := by have := hb.size; simpa using this
          have bc := boxcells hb
          have hBw := (below1 w (.cells #[.int .i64 s, .int .i64 f, .int .i64 o, .slice A js.length c] 30)).trans (hb.mono (by omega))
          have hkf : k + 1 ≤ f.toNat := by have := HFA.out.2.1; omega
          have h4 : (k : Int) + 1 ≤ f := by omega
          have hth := nxB_eq (o := o) (asked_good HA.out) hxs0 (show 1 ≤ k + 1 by omega)
          have hoky := okB_next (o := o) (asked_good HA.out) f.toNat x HX.out (k + 1) (by omega) hkf
          obtain ⟨y, hy⟩ : ∃ y, nxB s o js x (k + 1) = y := ⟨_, rfl⟩
          rw [hy] at hth hoky
          have hyn : y < n := by have := okB_lt _ hoky; have := HN.out; omega
          have hyi : (y : Int) < (n : Int) := by omega
          have hcast : (((k + 1 : Nat) : Int)) = (k : Int) + 1 := by omega
          rw [hcast] at hth
          have hfa : face = k + 1 ↔ DistB s f o js y u := by
            rw [← hy]
            constructor
            · rintro h; rw [← h]; exact HFA.out.2.2.1
            · intro h
              have : ¬ k + 1 < face := fun hl => HFA.out.2.2.2 (k + 1) (by omega) hl h
              omega
          have hrd : DistB s f o js y u ↔ farF F L y = (u : Int) := by
            cases hFy : F y
            · rw [farF_no hFy]
              exact ⟨fun h => absurd h.1 (HNO.out y hoky hFy _), fun h => by omega⟩
            · rw [farF_yes hFy]
              have hdy : DistB s f o js y (L y) := (HY.out y hFy).2
              exact ⟨fun h => by have := Least.uniq hdy h; omega, fun h => by have e : L y = u := (by omega); rw [← e]; exact hdy⟩
          obtain ⟨d, hdd⟩ : ∃ d, farF F L y = d := ⟨_, rfl⟩
          have d1 := hrow.cell hyn
          rw [hdd] at d1 hrd
          have HTH := Lib.hid hth; have HYE := Lib.hid hy; have HFD := Lib.hid (hfa.trans hrd); have HDD := Lib.hid hdd
          clear hth hy hcast hfa hrd hdd
          by_cases hkk : face = k + 1
          · obtain rfl : d = (u : Int) := HFD.out.1 hkk
            have e1 : ((u : Int) == (u : Int)) = true := by simp
            have HKK := Lib.hid hkk
            have hf := own_from hown
            clear hkk
            go_wp2_with (first | (go_at_call 59; refine (sqThrow_any _ _ _ _ _ _ _ _ _ (hj.go hBw) hz.1.1 hz.1.2 hz.2.2.1.1 hz.2.2.1.2 hx0 hxs0 (by omega) (by omega)).mono ?_; rintro e w4 ⟨rfl, hx4⟩; rw [HTH.out]; have d4 := (hrow.below hx4 hgs).cell hyn; rw [HDD.out] at d4) | (at_builtin; go_loud (refine wpList_append_own _ rfl _ _ 34 rfl (g + 1) 3 j0 (.int .i64 0) 1 8 Try.underlying34 hji hjz0 hjz1 hjz2 rfl (by decide) _ _ _ rfl ((own_below hown hx4).alloc _) ⟨w4.heap.size, 0, none⟩ 1 1 [.int .i64 ((k : Int) + 1)] rfl rfl (cell_new1 _ _ _) (one_int _) (by unfold maxLen; omega) (by omega) (by have := hx4.size; simp; omega) ?_; intro v1 w5 hown5 hg5 _)))
            go_roundw
            case rel =>
              have hs4 := hx4.size
              refine ⟨y, u, ys ++ [((k : Int) + 1)], by go_num, rfl, hoky, ?_, ?_, fun zs hzs => ?_, ((box_on hb hx4 (by omega)).alloc (by omega) _).grown hg5 (by simp; omega) (fun j e => by have := hf _ e; omega), ((hrow.below hx4 hgs).alloc _).grown hg5 (fun e => by have := hf _ e.symm; omega), by have := hg5.size; simp at this; omega, ?_⟩
              · have := HFA.out.2.2.1
                rw [HKK.out, HYE.out] at this
                exact this
              · have := HLEN.out; have := HTU.out
                simp; omega
              · have hc := HFA.out
                rw [HKK.out] at hc
                have h2 := FirstB.cons hc (by rw [HYE.out]; exact hzs)
                rw [HTU.out] at h2
                rw [HXS2.out _ h2, List.append_assoc]
                simp
              · rw [List.length_append, List.map_append]
                exact hown5
            case measure => have := HTU.out; simp [intOf]; omega
          · have hne : (d == (u : Int)) = false := beq_eq_false_iff_ne.2 fun h => hkk (HFD.out.2 h)
            have hk2 : k + 1 < face := by omega
            clear hkk
            go_wp2_with (go_at_call 59; refine (sqThrow_any _ _ _ _ _ _ _ _ _ (hj.go hBw) hz.1.1 hz.1.2 hz.2.2.1.1 hz.2.2.1.2 hx0 hxs0 (by omega) (by omega)).mono ?_; rintro e w4 ⟨rfl, hx4⟩; rw [HTH.out]; have d4 := (hrow.below hx4 hgs).cell hyn; rw [HDD.out] at d4)
            go_roundw
            case rel =>
              exact ⟨k + 1, by omega, by go_num, rfl, box_on hb hx4 (by omega), hrow.below hx4 hgs, by have := hx4.size; omega, own_below hown hx4⟩
            case measure => simp [intOf]; omega
end Go.Proofs.Ytiekdokgjdgajaa

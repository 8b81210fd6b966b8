/-
  FirstThrows, the program's, and both together.
-/
import Derived.Test.YtiekdokgjdgajaaC1x
namespace Go.Proofs.Ytiekdokgjdgajaa
open Go.RowKit

set_option maxRecDepth 100000 in
theorem implFirstThrows_no (s f o : Int) (A : Option Addr) (c : Nat) (sq : Int) (js : List (Int × Int)) (w : World) (hj : RJ w w.heap.size A js) (ha : asked s f o js sq = false) :
    Calls Try.prog 47 #[.agg #[.int .i64 s, .int .i64 f, .int .i64 o, .slice A js.length c], .int .i64 sq] w (IntsBack w ([], false)) := by
  have hl := hj.1
  have hst := storeCourse 0 0 0 (fun _ => 0)
  have HA := Lib.hid ha; clear ha
  go_enter Try.func47, Try.ntmps47
  go_wp2_with fail
  refine (courseAt_no _ _ _ _ _ _ _ _ (hj.go (below1 _ _)) HA.out).mono ?_
  rintro e w2 ⟨rfl, hx⟩
  go_wp2
  go_ret2
  exact ⟨none, 0, rfl, .inl rfl, ((below1 _ _).trans (hx.mono (by simp))).alloc (by have := hx.size; simp at this; omega) _⟩

set_option maxRecDepth 100000 in
set_option maxHeartbeats 1000000 in
theorem implFirstThrows_yes (s f o : Int) (A : Option Addr) (c : Nat) (q : Nat) (js : List (Int × Int)) (R : List Int × Bool) (w : World) (hj : RJ w w.heap.size A js) (ha : asked s f o js q = true) (hR : FirstR s f o js q R) :
    Calls Try.prog 47 #[.agg #[.int .i64 s, .int .i64 f, .int .i64 o, .slice A js.length c], .int .i64 q] w (IntsBack w R) := by
  have hl := hj.1
  have hst := storeCourse s f o (fun i => jumpOf js i)
  have hz := good_sizes (asked_good ha)
  have HA := Lib.hid ha; have HR := Lib.hid hR; clear ha hR
  obtain ⟨j0, hji, hjz0, hjz1, hjz2⟩ := info_parts infoInt1
  go_enter Try.func47, Try.ntmps47
  go_wp2_with fail
  refine (courseAt_yes _ _ _ _ _ _ _ _ (hj.go (below1 _ _)) HA.out).mono ?_
  rintro e w2 ⟨rfl, hx⟩
  have hs2 : w.heap.size < w2.heap.size := by have := hx.size; simp at this; omega
  have hCn : CA (w2.alloc (.cells (crsCells s f o (fun i => jumpOf js i)) 68)) w2.heap.size s f o (fun i => jumpOf js i) := heap_alloc_at _ _ _ rfl
  have hB2 : Below w.heap.size w (w2.alloc (.cells (crsCells s f o (fun i => jumpOf js i)) 68)) := ((below1 _ _).trans (hx.mono (by simp))).alloc (by omega) _
  clear hx
  go_wp2_with fail
  refine (fewest_any _ _ _ _ _ _ _ hCn.cv (by simp) HA.out).mono ?_
  rintro e w3 ⟨n, ok, rfl, hr, hx3⟩
  have hB3 := hB2.trans (hx3.mono (by simp; omega))
  have hC3 := hCn.below hx3 (by simp)
  have hs3 : w2.heap.size < w3.heap.size := hC3.lt
  clear hx3 hCn hB2
  rcases hr with ⟨rfl, T, rfl, hd⟩ | ⟨rfl, rfl, hno⟩
  · have hdq : DistB s f o js q T := hd
    obtain ⟨xs, hr, hxs⟩ : ∃ xs, R = (xs, true) ∧ FirstB s f o js q T xs := by
      rcases HR.out with ⟨t, xs, hd, hx, e⟩ | ⟨_, hw⟩
      · exact ⟨xs, e, by rw [Least.uniq hdq hd]; exact hx⟩
      · exact absurd hdq.1 (hw _)
    have hT := hdq.lt (asked_good HA.out) (okB_of (asked_on HA.out))
    have hT1 : T ≤ 100 := by omega
    subst hr
    have HXS := Lib.hid hxs; have HDQ := Lib.hid hdq
    clear hxs hdq hd hT
    go_wp2_with fail
    go_loopw [9, 8, 10, 11, 1] (fun v lf _ _ sq wr => ∃ (x t : Nat) (ys : List Int), lf = .int .i64 (t : Int) ∧ sq = .int .i64 (x : Int) ∧ okB s js x ∧ DistB s f o js x t ∧ ys.length + t = T ∧ (∀ zs, FirstB s f o js x t zs → xs = ys ++ zs) ∧ Below w.heap.size w wr ∧ CA wr w2.heap.size s f o (fun i => jumpOf js i) ∧ wr.ownsRow (w2.heap.size + 1) 3 1 v ys.length (ys.map (Value.int .i64))) (fun _ lf _ _ _ _ => (intOf lf).toNat)
    case atStart => exact ⟨q, T, [], rfl, rfl, okB_of (asked_on HA.out), HDQ.out, by simp, fun zs hz => HXS.out.uniq hz, hB3, hC3, World.ownsRow_nil _ _ _ _⟩
    case round =>
      clear hB3 hC3 HDQ hs3
      obtain ⟨x, t, ys, rfl, rfl, hx, hd, hlen, hxs, hB, hC, hown⟩ := hrel
      have hs : w2.heap.size < wr.heap.size := hC.lt
      have hBs := hB.size
      cases t with
      | zero =>
        have h3 : ¬ ((0 : Nat) : Int) > 0 := by simp
        have he := hxs [] .nil
        rw [List.append_nil] at he
        subst he
        go_wp2
        obtain ⟨A', c', rfl, ho⟩ := own_oi hown rfl
        go_ret2
        refine ⟨A', c', rfl, ?_, hB⟩
        rcases ho with h | ⟨g', e, hg', hr⟩
        · exact .inl h
        · exact .inr ⟨g', e, by omega, hr⟩
      | succ u =>
        obtain ⟨face, hface⟩ := hd.face
        obtain ⟨t, ht⟩ : ∃ t, u + 1 = t := ⟨_, rfl⟩
        rw [ht] at hlen hxs
        rw [ht]
        have h3 : (t : Int) > 0 := by omega
        have h30 : 0 < t := by omega
        have hyl : ys.length ≤ 101 := by omega
        have hwl : IntKind.i64.wrap ((t : Int) - 1) = (u : Int) := by rw [IntWalk.i64_in _ (by omega)]; omega
        have hxs0 : (x : Int) ≤ s := hx.1
        have hx0 : (0 : Int) ≤ (x : Int) := by omega
        have hf1 : (1 : Int) ≤ (face : Int) := by have := hface.1; omega
        have hf8 : (face : Int) ≤ 8 := by have := hface.2.1; omega
        have hth := nxB_eq (o := o) (asked_good HA.out) hxs0 hface.1
        have hoky := okB_next (o := o) (asked_good HA.out) f.toNat x hx face hface.1 hface.2.1
        obtain ⟨y, hy⟩ : ∃ y, nxB s o js x face = y := ⟨_, rfl⟩
        rw [hy] at hth hoky
        have hf := own_from hown
        have HX := Lib.hid hx; have HXS2 := Lib.hid hxs; have HFA := Lib.hid hface; have HTU := Lib.hid ht; have HLEN := Lib.hid hlen; have HTH := Lib.hid hth; have HYE := Lib.hid hy; have HOKY := Lib.hid hoky
        clear hd hx hxs hface ht hlen hth hy hoky
        go_wp2_with fail
        refine (firstFace_any _ _ _ _ _ _ face _ _ hC.cv hs (asked_good HA.out) HX.out HFA.out).mono ?_
        rintro e w4 ⟨rfl, hx4⟩
        have hs4 := hx4.size
        have hC4 := hC.below hx4 hs
        have hB4 := hB.trans (hx4.mono hBs)
        have hown4 := own_below hown hx4
        clear hC hB hown
        go_wp2_with (at_builtin; go_loud (refine wpList_append_own _ rfl _ _ 34 rfl (w2.heap.size + 1) 3 j0 (.int .i64 0) 1 8 Try.underlying34 hji hjz0 hjz1 hjz2 rfl (by decide) _ _ _ rfl (hown4.alloc _) ⟨w4.heap.size, 0, none⟩ 1 1 [.int .i64 (face : Int)] rfl rfl (cell_new1 _ _ _) (one_int _) (by unfold maxLen; omega) (by omega) (by simp; omega) ?_; intro v1 w5 hown5 hg5 _))
        have hB5 := (hB4.alloc (by omega) (.cells #[.int .i64 (face : Int)] 3)).grown hg5 (by simp; omega) (fun j e => by have := hf _ e; omega)
        have hC5 : CA w5 w2.heap.size s f o (fun i => jumpOf js i) := (hg5.block _ (by simp; omega) (fun hg => by have := hf _ hg.symm; omega)).trans ((Below.heap_alloc _ _ _ (by omega)).trans hC4)
        refine (behind_bel _ _ _ _ _ _ _ _ hC5.cv hz.1.1 hz.1.2 hz.2.2.1.1 hz.2.2.1.2 hx0 hxs0 (good_end (asked_good HA.out)) HX.out.2 hf1 hf8).mono ?_
        rintro e w6 ⟨rfl, hx6, _⟩
        rw [HTH.out]
        have hC6 := hC5.below hx6 hC5.lt
        have hB6 := hB5.trans (hx6.mono hB5.size)
        have hown6 := own_below hown5 hx6
        clear hC4 hB4 hown4 hC5 hB5 hown5
        go_wp2
        go_roundw
        case rel =>
          refine ⟨y, u, ys ++ [(face : Int)], rfl, rfl, HOKY.out, ?_, ?_, fun zs hzs => ?_, hB6, hC6, ?_⟩
          · have := HFA.out.2.2.1
            rw [HYE.out] at this
            exact this
          · have := HLEN.out; have := HTU.out
            simp; omega
          · have h2 := FirstB.cons HFA.out (by rw [HYE.out]; exact hzs)
            rw [HTU.out] at h2
            rw [HXS2.out _ h2, List.append_assoc]
            simp
          · rw [List.length_append, List.map_append]
            exact hown6
        case measure => have := HTU.out; simp [intOf]; omega
  · have hr : R = ([], false) := by
      rcases HR.out with ⟨t, xs, hd, _, _⟩ | ⟨e, _⟩
      · exact absurd hd.1 (hno _)
      · exact e
    subst hr
    clear hno
    go_wp2
    go_ret2
    exact ⟨none, 0, rfl, .inl rfl, hB3⟩

theorem firstThrows_both (s f o : Int) (js : List (Int × Int)) (sq : Int) : ∃ (R : List Int × Bool), R.1.length ≤ 1048576 ∧
    (∀ (A : Option Addr) (c : Nat) (W : World), RJ W W.heap.size A js → Calls Try.prog 46 #[.agg #[.int .i64 s, .int .i64 f, .int .i64 o, .slice A js.length c], .int .i64 sq] W (IntsBack W R)) ∧
    (∀ (A : Option Addr) (c : Nat) (W : World), RJ W W.heap.size A js → Calls Try.prog 47 #[.agg #[.int .i64 s, .int .i64 f, .int .i64 o, .slice A js.length c], .int .i64 sq] W (IntsBack W R)) := by
  cases h : asked s f o js sq
  · exact ⟨([], false), by simp, fun A c W hj => specFirstThrows_no s f o A c sq js W hj h, fun A c W hj => implFirstThrows_no s f o A c sq js W hj h⟩
  · have hz := good_sizes (asked_good h)
    obtain ⟨q, rfl⟩ := Int.eq_ofNat_of_zero_le (onSq_in (asked_on h)).1
    obtain ⟨R, hR, hlen⟩ : ∃ R, FirstR s f o js q R ∧ R.1.length ≤ 1048576 := by
      rcases Classical.em (∃ t, Way (eB s f o js) q t s.toNat) with ⟨t, ht⟩ | hn
      · obtain ⟨t, ht⟩ := least_ex (W := fun t => Way (eB s f o js) q t s.toNat) ht
        have hd : DistB s f o js q t := ht
        obtain ⟨xs, hxs⟩ := hd.first
        refine ⟨(xs, true), .inl ⟨t, xs, hd, hxs, rfl⟩, ?_⟩
        have h1 := hxs.len
        have h2 := hd.lt (asked_good h) (okB_of (asked_on h))
        simp only; omega
      · exact ⟨([], false), .inr ⟨rfl, fun t ht => hn ⟨t, ht⟩⟩, by simp⟩
    exact ⟨R, hlen, fun A c W hj => specFirstThrows_yes s f o A c q js R W hj h hR, fun A c W hj => implFirstThrows_yes s f o A c q js R W hj h hR⟩
end Go.Proofs.Ytiekdokgjdgajaa

/-
  Puzzles: what a clue tells of a hidden board; the model's pzValue.
-/
import Derived.Test.YteogfondnpfklaaC1q
import Derived.Test.YteogfondnpfklaaC1r
import Derived.Test.YteogfondnpfklaaM1t
import Derived.Test.YteogfondnpfklaaC9a
namespace Go.Proofs.Yteogfondnpfklaa
open Go.RowKit

/-- How many jumps begin at a square. -/
def jcnt (js : List (Int × Int)) (a : Int) : Int := ((js.filter (fun j => j.1 == a)).length : Int)
/-- What a clue of a kind tells of a board, if anything; few, hope: its fewest throws and its squares without hope. -/
def toldV (s o : Int) (js : List (Int × Int)) (few : Int) (hope : Nat) (k a b : Int) : Int × Bool :=
  if k = 0 then (o, true) else if k = 1 then (if onSq s js a then (thrown s o js a b, true) else (0, false)) else if k = 2 then (few, true) else if k = 3 then ((hope : Int), true) else if k = 4 then (jcnt js a, true)
  else (walkTo s o js 0 (List.replicate a.toNat b) a.toNat, true)
/-- The model tells -1 where there is nothing. -/
def mdV (v : Int × Bool) : Int := if v.2 then v.1 else -1
theorem asked_zero {s f o : Int} {js : List (Int × Int)} (hg : good ⟨s, f, o, js⟩ = true) : asked s f o js 0 = true := by
  have hz := good_sizes hg
  have h := hg
  rw [good, Bool.and_eq_true, Bool.and_eq_true] at h
  rw [asked, hg, Bool.true_and, onSq, Bool.and_eq_true, beq_iff_eq]
  refine ⟨inB_iff.2 ⟨by omega, by omega⟩, jumpOf_none _ _ fun j hj => ?_⟩
  have h2 := h.1.2
  rw [jumpsOk_eq, Bool.and_eq_true] at h2
  have := chainB_lt _ _ h2.2 j hj
  omega
theorem jcnt_of {s f o : Int} {js : List (Int × Int)} {a : Int} (hg : good ⟨s, f, o, js⟩ = true) (hjs : js.length ≤ 1) (ha : 0 ≤ a) (has : a ≤ s) : jcnt js a = if onSq s js a then 0 else 1 := by
  have hin : inB a 0 s = true := inB_iff.2 ⟨ha, has⟩
  match js, hjs with
  | [], _ => simp [jcnt, onSq, jumpOf, hin]
  | [j], _ =>
    have h := hg
    rw [good, Bool.and_eq_true, Bool.and_eq_true] at h
    have h2 := h.1.2
    simp only [jumpsOk, Bool.and_eq_true, Bool.not_eq_true', beq_eq_false_iff_ne] at h2
    have hne : ¬ j.1 = j.2 := h2.1.1.2
    by_cases e : j.1 = a
    · have : (j.2 == a) = false := beq_eq_false_iff_ne.2 (fun e2 => hne (by rw [e, e2]))
      simp [jcnt, onSq, jumpOf, hin, e, this]
    · have : (j.1 == a) = false := beq_eq_false_iff_ne.2 e
      simp [jcnt, onSq, jumpOf, hin, e, this]
theorem l1Most9_any (a b : Int) (w : World) : Calls Try.prog 114 #[.int .i64 a, .int .i64 b] w fun e w' => e = .returned (.int .i64 (max a b)) ∧ w = w' := by
  go_enter Try.func114, Try.ntmps114
  by_cases h : b < a
  · go_wp2
    go_ret
    exact ⟨ret_int (by omega), rfl⟩
  · go_wp2
    go_ret
    exact ⟨ret_int (by omega), rfl⟩

set_option maxRecDepth 100000 in
theorem pzValue0 (s f o : Int) (A : Option Addr) (c : Nat) (js : List (Int × Int)) (a b : Int) (w : World) : Calls Try.prog 87 #[.int .i64 0, .int .i64 a, .int .i64 b, .agg #[.int .i64 s, .int .i64 f, .int .i64 o, .slice A js.length c]] w fun e w' => e = .returned (.int .i64 (o)) ∧ Below w.heap.size w w' := by
  go_enter Try.func87, Try.ntmps87
  go_wp2
  go_ret
  exact ⟨rfl, below1 _ _⟩
set_option maxRecDepth 100000 in
theorem pzValue1 (s f o : Int) (A : Option Addr) (c : Nat) (js : List (Int × Int)) (a b : Int) (w : World) (hj : RJ w w.heap.size A js) (hg : good ⟨s, f, o, js⟩ = true) (ha : 0 ≤ a ∧ a ≤ s) (hb : 1 ≤ b ∧ b ≤ f) : Calls Try.prog 87 #[.int .i64 1, .int .i64 a, .int .i64 b, .agg #[.int .i64 s, .int .i64 f, .int .i64 o, .slice A js.length c]] w fun e w' => e = .returned (.int .i64 (if onSq s js a then thrown s o js a b else -1)) ∧ Below w.heap.size w w' := by
  have hl := hj.1
  have hz := good_sizes hg
  have qq := boxcells (Below.refl (w.heap.size + 1) (w.alloc (.cells #[.int .i64 s, .int .i64 f, .int .i64 o, .slice A js.length c] 33)))
  cases hon : onSq s js a
  · have HON := Lib.hid hon
    clear hon
    go_enter Try.func87, Try.ntmps87
    go_wp2_with fail
    refine (sqSquare_any _ _ _ _ _ _ _ _ (hj.go (below1 _ _))).mono ?_
    rintro e w2 ⟨rfl, hx⟩
    rw [HON.out]
    go_wp2
    go_ret
    exact ⟨rfl, (below1 _ _).trans (hx.mono (by simp))⟩
  · have HON := Lib.hid hon
    clear hon
    go_enter Try.func87, Try.ntmps87
    go_wp2_with fail
    refine (sqSquare_any _ _ _ _ _ _ _ _ (hj.go (below1 _ _))).mono ?_
    rintro e w2 ⟨rfl, hx⟩
    rw [HON.out]
    have hb2 := box_on (Below.refl (w.heap.size + 1) (w.alloc (.cells #[.int .i64 s, .int .i64 f, .int .i64 o, .slice A js.length c] 33))) hx (by simp)
    replace qq := boxcells hb2
    have hbw := (below1 w (.cells #[.int .i64 s, .int .i64 f, .int .i64 o, .slice A js.length c] 33)).trans (hb2.mono (by omega))
    go_wp2_with fail
    refine (sqThrow_any _ _ _ _ _ _ _ _ _ (hj.go hbw) hz.1.1 hz.1.2 hz.2.2.1.1 hz.2.2.1.2 ha.1 ha.2 hb.1 (by omega)).mono ?_
    rintro e w3 ⟨rfl, hx3⟩
    go_wp2
    go_ret
    exact ⟨rfl, hbw.trans (hx3.mono hbw.size)⟩
set_option maxRecDepth 100000 in
set_option maxHeartbeats 400000 in
theorem pzValue2 (s f o : Int) (A : Option Addr) (c : Nat) (js : List (Int × Int)) (a b : Int) (R : Int × Bool) (w : World) (hj : RJ w w.heap.size A js) (hg : good ⟨s, f, o, js⟩ = true) (hR : FewR s f o js 0 R) : Calls Try.prog 87 #[.int .i64 2, .int .i64 a, .int .i64 b, .agg #[.int .i64 s, .int .i64 f, .int .i64 o, .slice A js.length c]] w fun e w' => e = .returned (.int .i64 (R.1)) ∧ Below w.heap.size w w' := by
  have hl := hj.1
  have hz := good_sizes hg
  have ha0 := asked_zero hg
  have hqn : 0 < s.toNat + 1 := by omega
  have HA := Lib.hid ha0; have HR := Lib.hid hR; have HG := Lib.hid hg; clear ha0 hR hg
  go_enter Try.func87, Try.ntmps87
  go_wp2_with fail
  refine (sqFar_any _ _ _ _ _ _ _ (hj.go (below1 _ _)) HG.out).mono ?_
  rintro e w3 ⟨g, F, L, rfl, hg, hrow, hyes, hno, hL, hx3⟩
  have hB3 := (below1 w (.cells #[.int .i64 s, .int .i64 f, .int .i64 o, .slice A js.length c] 33)).trans (hx3.mono (by simp))
  have d1 := hrow.cell hqn
  obtain ⟨n, hn⟩ : ∃ n, s.toNat + 1 = n := ⟨_, rfl⟩
  have hqi : 0 < n := by omega
  have hqz : (0 : Int) < (n : Int) := by omega
  rw [hn]
  clear hrow hx3
  cases hF : F 0
  · have hr := HR.out.uniq (R' := (0, false)) (.inr ⟨rfl, rfl, hno 0 (okB_of (asked_on HA.out)) hF⟩)
    rw [farF_no hF] at d1
    have HRR := Lib.hid (show max 0 (-1) = R.1 by rw [hr]; rfl)
    clear hyes hno hL hr
    go_wp2_with fail
    refine (l1Most9_any _ _ _).mono ?_
    rintro e w' ⟨rfl, rfl⟩
    go_wp2
    go_ret
    exact ⟨ret_int HRR.out, hB3⟩
  · have hr := HR.out.uniq (R' := ((L 0 : Int), true)) (.inl ⟨rfl, L 0, rfl, (hyes 0 hF).2⟩)
    rw [farF_yes hF] at d1
    have HRR := Lib.hid (show max 0 (L 0 : Int) = R.1 by rw [hr]; simp only; omega)
    clear hyes hno hL hr
    go_wp2_with fail
    refine (l1Most9_any _ _ _).mono ?_
    rintro e w' ⟨rfl, rfl⟩
    go_wp2
    go_ret
    exact ⟨ret_int HRR.out, hB3⟩
set_option maxRecDepth 100000 in
set_option maxHeartbeats 1000000 in
theorem pzValue3 (s f o : Int) (A : Option Addr) (c : Nat) (js : List (Int × Int)) (a b : Int) (P : Nat → Bool) (w : World) (hj : RJ w w.heap.size A js) (hg : good ⟨s, f, o, js⟩ = true) (hP : HopeIs s f o js P) : Calls Try.prog 87 #[.int .i64 3, .int .i64 a, .int .i64 b, .agg #[.int .i64 s, .int .i64 f, .int .i64 o, .slice A js.length c]] w fun e w' => e = .returned (.int .i64 (((selL P (s.toNat + 1)).length : Int))) ∧ Below w.heap.size w w' := by
  have hl := hj.1
  have hz := good_sizes hg
  obtain ⟨n, hn⟩ : ∃ n : Nat, n = s.toNat + 1 := ⟨_, rfl⟩
  rw [← hn]
  have hn1 : n ≤ 101 := by omega
  have HA := Lib.hid hg; have HP := Lib.hid hP; have HN := Lib.hid hn; clear hg hP hn
  go_enter Try.func87, Try.ntmps87
  go_wp2_with fail
  refine (sqFar_any _ _ _ _ _ _ _ (hj.go (below1 _ _)) HA.out).mono ?_
  rintro e w3 ⟨g, F, L, rfl, hg, hrow, hyes, hno, hL, hx3⟩
  have hb := box_on (Below.refl (w.heap.size + 1) (w.alloc (.cells #[.int .i64 s, .int .i64 f, .int .i64 o, .slice A js.length c] 33))) hx3 (by simp)
  have hF1 : ∀ k, F k = true → P k = false := fun k hk => by
    cases h : P k
    · rfl
    · exact absurd (hyes k hk).2.1 (((HP.out k).1 h).2 _)
  have hF2 : ∀ k, F k = false → P k = onSq s js k := fun k hk => by
    rw [Bool.eq_iff_iff, HP.out k]
    exact ⟨fun h => h.1, fun h => ⟨h, hno k (okB_of h) hk⟩⟩
  rw [← HN.out] at hrow ⊢
  have hgs := hrow.lt
  have HF1 := Lib.hid hF1; have HF2 := Lib.hid hF2
  clear hx3 hyes hno hL hF1 hF2
  go_wp2_with fail
  go_loopw [9, 40, 10, 11] (fun v i _ _ wr => ∃ (k : Nat) (m : Int), k ≤ n ∧ i = .int .i64 (k : Int) ∧ v = .int .i64 m ∧ 0 ≤ m ∧ m ≤ k ∧ Hid (m = ((selL P k).length : Int)) ∧ Below (w.heap.size + 1) (w.alloc (.cells #[.int .i64 s, .int .i64 f, .int .i64 o, .slice A js.length c] 33)) wr ∧ RowI wr g 3 n (farF F L)) (fun _ i _ _ _ => n - (intOf i).toNat)
  case atStart => exact ⟨0, 0, Nat.zero_le _, rfl, rfl, by omega, by omega, Lib.hid (by simp [selL]), hb, hrow⟩
  case round =>
    clear hb hrow hgs
    obtain ⟨k, m, hk, rfl, rfl, hm0, hm1, HM, hb, hrow⟩ := hrel
    have hs : w.heap.size + 1 ≤ wr.heap.size := by have := hb.size; simpa using this
    have hBw := (below1 w (.cells #[.int .i64 s, .int .i64 f, .int .i64 o, .slice A js.length c] 33)).trans (hb.mono (by omega))
    have hgs := hrow.lt
    by_cases hlt : k < n
    · have h3 : (k : Int) < (n : Int) := by omega
      have d1 := hrow.cell hlt
      have bc := boxcells hb
      cases hF : F k
      · rw [farF_no hF] at d1
        have hpo := HF2.out k hF
        cases hon : onSq s js k
        · have HON := Lib.hid hon
          have HE := Lib.hid (show selL P (k + 1) = selL P k by rw [selL_succ, hpo, hon]; simp)
          clear hon hpo
          go_wp2_with (go_at_call 86; refine (sqSquare_any _ _ _ _ _ _ _ _ (hj.go hBw)).mono ?_; rintro e w4 ⟨rfl, hx4⟩; rw [HON.out])
          go_roundw
          case rel => exact ⟨k + 1, m, hlt, by go_num, rfl, hm0, by omega, Lib.hid (by rw [HE.out]; exact HM.out), box_on hb hx4 (by omega), hrow.below hx4 hgs⟩
          case measure => simp [intOf]; omega
        · have HON := Lib.hid hon
          have HE := Lib.hid (show selL P (k + 1) = selL P k ++ [(k : Int)] by rw [selL_succ, hpo, hon]; simp)
          clear hon hpo
          go_wp2_with (go_at_call 86; refine (sqSquare_any _ _ _ _ _ _ _ _ (hj.go hBw)).mono ?_; rintro e w4 ⟨rfl, hx4⟩; rw [HON.out])
          go_roundw
          case rel => exact ⟨k + 1, m + 1, hlt, by go_num, rfl, by omega, by omega, Lib.hid (by rw [HE.out, List.length_append, HM.out]; simp), box_on hb hx4 (by omega), hrow.below hx4 hgs⟩
          case measure => simp [intOf]; omega
      · rw [farF_yes hF] at d1
        have h0 : ¬ (L k : Int) < 0 := by omega
        have h0d : decide ((L k : Int) < 0) = false := decide_eq_false h0
        have HE := Lib.hid (show selL P (k + 1) = selL P k by rw [selL_succ, HF1.out k hF]; simp)
        go_wp2
        go_roundw
        case rel => exact ⟨k + 1, m, hlt, by go_num, rfl, hm0, by omega, Lib.hid (by rw [HE.out]; exact HM.out), hb, hrow⟩
        case measure => simp [intOf]; omega
    · have h3 : ¬ (k : Int) < (n : Int) := by omega
      obtain rfl : k = n := by omega
      go_wp2
      go_ret
      exact ⟨ret_int HM.out, hBw⟩
set_option maxRecDepth 100000 in
theorem pzValue4 (s f o : Int) (A : Option Addr) (c : Nat) (js : List (Int × Int)) (a b : Int) (w : World) (hj : RJ w w.heap.size A js) (_hg : good ⟨s, f, o, js⟩ = true) : Calls Try.prog 87 #[.int .i64 4, .int .i64 a, .int .i64 b, .agg #[.int .i64 s, .int .i64 f, .int .i64 o, .slice A js.length c]] w fun e w' => e = .returned (.int .i64 (if onSq s js a then 0 else 1)) ∧ Below w.heap.size w w' := by
  have hl := hj.1
  cases hon : onSq s js a
  all_goals
    have HON := Lib.hid hon
    clear hon
    go_enter Try.func87, Try.ntmps87
    go_wp2_with fail
    refine (sqSquare_any _ _ _ _ _ _ _ _ (hj.go (below1 _ _))).mono ?_
    rintro e w2 ⟨rfl, hx⟩
    rw [HON.out]
    go_wp2
    go_ret
    exact ⟨rfl, (below1 _ _).trans (hx.mono (by simp))⟩
set_option maxRecDepth 100000 in
set_option maxHeartbeats 1000000 in
theorem pzValue5 (s f o : Int) (A : Option Addr) (c : Nat) (js : List (Int × Int)) (n : Nat) (b : Int) (w : World) (hj : RJ w w.heap.size A js) (hg : good ⟨s, f, o, js⟩ = true) (hn : n ≤ 20) (hb : 1 ≤ b ∧ b ≤ f) : Calls Try.prog 87 #[.int .i64 5, .int .i64 (n : Int), .int .i64 b, .agg #[.int .i64 s, .int .i64 f, .int .i64 o, .slice A js.length c]] w fun e w' => e = .returned (.int .i64 (walkTo s o js 0 (List.replicate n b) n)) ∧ Below w.heap.size w w' := by
  have hl := hj.1
  have hz := good_sizes hg
  have HG := Lib.hid hg
  clear hg
  go_enter Try.func87, Try.ntmps87
  go_wp2_with fail
  go_loopw [12, 1] (fun q i wr => ∃ (m : Nat) (x : Int), m ≤ n ∧ i = .int .i64 ((n : Int) - m) ∧ q = .int .i64 x ∧ 0 ≤ x ∧ x ≤ s ∧ Hid (x = walkTo s o js 0 (List.replicate n b) m) ∧ Below (w.heap.size + 1) (w.alloc (.cells #[.int .i64 s, .int .i64 f, .int .i64 o, .slice A js.length c] 33)) wr) (fun _ i _ => (intOf i).toNat)
  case atStart => exact ⟨0, 0, Nat.zero_le _, by simp, rfl, by omega, by omega, Lib.hid (by rw [walkTo_zero]), Below.refl _ _⟩
  case round =>
    obtain ⟨m, x, hm, rfl, rfl, hx0, hx1, HX, hb1⟩ := hrel
    have hBw := (below1 w (.cells #[.int .i64 s, .int .i64 f, .int .i64 o, .slice A js.length c] 33)).trans (hb1.mono (by omega))
    have hs : w.heap.size + 1 ≤ wr.heap.size := by have := hb1.size; simpa using this
    by_cases hlt : m < n
    · have h3 : 0 < (n : Int) - m := by omega
      have bc := boxcells hb1
      have hin := thrown_in (o := o) HG.out hx0 hx1 hb.1
      have hst := walkTo_succ s o js 0 (List.replicate n b) m (by simpa using hlt)
      rw [List.getElem_replicate, ← HX.out] at hst
      obtain ⟨y, hy⟩ : ∃ y, y = thrown s o js x b := ⟨_, rfl⟩
      rw [← hy] at hin hst
      have HY := Lib.hid hy; have HST := Lib.hid hst
      clear hy hst
      go_wp2_with fail
      refine (sqThrow_any _ _ _ _ _ _ _ _ _ (hj.go hBw) hz.1.1 hz.1.2 hz.2.2.1.1 hz.2.2.1.2 hx0 hx1 hb.1 (by omega)).mono ?_
      rintro e w3 ⟨rfl, hx3⟩
      rw [← HY.out]
      go_wp2_with fail
      go_roundw
      case rel => exact ⟨m + 1, y, hlt, by go_num, rfl, hin.1, hin.2, Lib.hid HST.out.symm, box_on hb1 hx3 hs⟩
      case measure => simp [intOf]; omega
    · obtain rfl : m = n := by omega
      have h3 : ¬ 0 < (m : Int) - m := by omega
      go_wp2
      go_ret
      exact ⟨ret_int HX.out, hBw⟩

/-- The model tells it. -/
theorem pzValue_any (s f o : Int) (A : Option Addr) (c : Nat) (js : List (Int × Int)) (k a b c0 : Int) (R : Int × Bool) (P : Nat → Bool) (w : World) (hj : RJ w w.heap.size A js) (hg : good ⟨s, f, o, js⟩ = true) (hjs : js.length ≤ 1) (hR : FewR s f o js 0 R) (hP : HopeIs s f o js P) (hc : clB s f k a b c0 = true) : Calls Try.prog 87 #[.int .i64 k, .int .i64 a, .int .i64 b, .agg #[.int .i64 s, .int .i64 f, .int .i64 o, .slice A js.length c]] w fun e w' => e = .returned (.int .i64 (mdV (toldV s o js R.1 (selL P (s.toNat + 1)).length k a b))) ∧ Below w.heap.size w w' := by
  by_cases h0 : k = 0
  · subst h0; exact pzValue0 s f o A c js a b w
  by_cases h1 : k = 1
  · subst h1
    have h := clB_1 hc
    refine (pzValue1 s f o A c js a b w hj hg h.1 h.2).mono fun e w' ⟨h, hx⟩ => ⟨h.trans (ret_int ?_), hx⟩
    unfold mdV toldV
    cases onSq s js a <;> simp
  by_cases h2 : k = 2
  · subst h2; exact pzValue2 s f o A c js a b R w hj hg hR
  by_cases h3 : k = 3
  · subst h3; exact pzValue3 s f o A c js a b P w hj hg hP
  by_cases h4 : k = 4
  · subst h4
    have h := clB_4 hc
    have hq := jcnt_of hg hjs h.1 h.2
    refine (pzValue4 s f o A c js a b w hj hg).mono fun e w' ⟨h, hx⟩ => ⟨h.trans (ret_int ?_), hx⟩
    unfold mdV toldV
    simp [hq]
  · by_cases h5 : k = 5
    · subst h5
      have h := clB_5 hc
      obtain ⟨n, rfl⟩ := Int.eq_ofNat_of_zero_le h.1.1
      refine (pzValue5 s f o A c js n b w hj hg (by omega) h.2).mono fun e w' ⟨h, hx⟩ => ⟨h.trans (ret_int ?_), hx⟩
      unfold mdV toldV
      simp
    · rw [clB, if_neg h0, if_neg h1, if_neg h2, if_neg h3, if_neg h4, if_neg h5] at hc
      cases hc
end Go.Proofs.Yteogfondnpfklaa

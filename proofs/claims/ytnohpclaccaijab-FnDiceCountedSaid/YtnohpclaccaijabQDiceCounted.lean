/-
  The statement FnDiceCountedSaid: for every input laws.FnDiceCounted returns true, and its arguments read behind the call as before it. No conditions.
-/
import Derived.Deep.CutRange
import Derived.Deep.LoopGhost
import Derived.Test.YtnohpclaccaijabZdam
import Derived.Test.YtnohpclaccaijabZdan
import Derived.Test.YtnohpclaccaijabZdao
import Derived.Test.YtnohpclaccaijabZdap
import Derived.Test.YtnohpclaccaijabZdaq

namespace Go.Proofs.Ytnohpclaccaijab
open Go.RowKit

/-- Both counts of a face, as the program and the model tell them. -/
theorem some_told (d f a : Int) : ∃ (x y : Int) (ok : Bool),
    ((∀ w, Calls Try.prog 36 #[.int .i64 d, .int .i64 f, .int .i64 a] w fun e w' => e = .returned (.tuple #[.int .i64 x, .bool ok]) ∧ Below w.heap.size w w') ∧
    (∀ w, Calls Try.prog 35 #[.int .i64 d, .int .i64 f, .int .i64 a] w fun e w' => e = .returned (.tuple #[.int .i64 x, .bool ok]) ∧ Below w.heap.size w w') ∧
    (∀ w, Calls Try.prog 37 #[.int .i64 d, .int .i64 f, .int .i64 a] w fun e w' => e = .returned (.tuple #[.int .i64 y, .bool ok]) ∧ Below w.heap.size w w') ∧
    (∀ w, Calls Try.prog 20 #[.int .i64 d, .int .i64 f, .int .i64 a] w fun e w' => e = .returned (.tuple #[.int .i64 y, .bool ok]) ∧ Below w.heap.size w w')) ∧
    (ok = true → ∃ m n X Y : Nat, d = m ∧ f = n ∧ x = X ∧ y = Y ∧ 1 ≤ m ∧ m ≤ 8 ∧ 1 ≤ n ∧ n ≤ 12 ∧ 1 ≤ Y ∧ Y ≤ X ∧ 1 ≤ X ∧ X ≤ n ^ m) := by
  by_cases h : cupB d f = true ∧ faceB f a = true
  · obtain ⟨hc, hs⟩ := h
    obtain ⟨m, n, rfl, rfl, h1, h2, h3, h4⟩ := cupB_nat hc
    have h5 := faceB_iff.1 hs
    obtain ⟨q, rfl⟩ : ∃ q : Nat, a = q := ⟨a.toNat, by omega⟩
    have sm := some_math m n q (by omega) (by omega)
    have gm := greatest_math m n q h1 (by omega) (by omega)
    have g1 := pow_gaps m h2 n h4 q (by omega)
    have g2 := pow_less (d := m) (f := q) h1 (by omega)
    refine ⟨_, _, true, ⟨fun w => specCountSome_yes m n q w h1 h2 h3 h4 (by omega) (by omega) _ sm, fun w => implCountSome_yes m n q w h1 h2 h3 h4 (by omega) (by omega), fun w => specCountGreatest_yes m n q w h1 h2 h3 h4 (by omega) (by omega) _ gm, fun w => implCountGreatest_yes m n q w h1 h2 h3 h4 (by omega) (by omega)⟩, fun _ => ⟨m, n, _, _, rfl, rfl, rfl, rfl, h1, h2, h3, h4, ?_, ?_, ?_, ?_⟩⟩ <;> omega
  · have h' : cupB d f = false ∨ faceB f a = false := by
      cases h1 : cupB d f
      · exact .inl rfl
      · cases h2 : faceB f a
        · exact .inr rfl
        · exact absurd ⟨h1, h2⟩ h
    exact ⟨0, 0, false, ⟨fun w => specCountSome_no d f a w h', fun w => implCountSome_no d f a w h', fun w => specCountGreatest_no d f a w h', fun w => implCountGreatest_no d f a w h'⟩, by simp⟩

theorem pw_le {n m : Nat} (hm : m ≤ 8) (hn : n ≤ 12) : n ^ m ≤ 429981696 := Nat.le_trans (Nat.pow_le_pow_left hn m) (Nat.le_trans (Nat.pow_le_pow_right (by omega) hm) (by decide))

set_option maxRecDepth 100000 in
set_option maxHeartbeats 16000000 in
theorem lawDiceCounted (A1 A2 : Option Addr) (n1 c1 n2 c2 : Nat) (w : World) (m1 : n1 ≤ maxLen) (m2 : n2 ≤ maxLen) (hx1 : n1 ≤ 1048576 → ∃ l, l.length = n1 ∧ RB8 w w.heap.size A1 l) (hx2 : n2 ≤ 1048576 → ∃ l, l.length = n2 ∧ RB8 w w.heap.size A2 l) :
    Calls Try.prog 4 #[.slice A1 n1 c1, .slice A2 n2 c2] w fun e w' => e = .returned (.bool true) ∧ Below w.heap.size w w' := by
  go_enter Try.func4, Try.ntmps4
  go_wp2_with fail
  refine (big_any A1 A2 n1 c1 n2 c2 w m1 m2).mono ?_
  rintro e w1 ⟨rfl | ⟨hn, rfl⟩, rfl⟩
  · go_wp2
    go_ret
    exact ⟨rfl, .refl _ _⟩
  obtain ⟨l1, rfl, hl1⟩ := hx1 (by omega)
  obtain ⟨l2, rfl, hl2⟩ := hx2 (by omega)
  clear hx1 hx2
  go_wp2_with fail
  refine (drawCountSome_any c1 A1 l1 _ hl1).mono ?_
  rintro e w2 ⟨d, f, a, rfl, hb2⟩
  obtain ⟨x, y, ok, H, hok⟩ := some_told d f a
  have H := Lib.hid H
  have HOK := Lib.hid hok
  clear hok
  go_wp2_with fail
  refine (H.out.2.1 _).mono ?_
  rintro e w3 ⟨rfl, hb3⟩
  replace hb3 := hb2.trans (hb3.mono hb2.size)
  go_wp2_with fail
  refine (H.out.1 _).mono ?_
  rintro e w4 ⟨rfl, hb4⟩
  replace hb4 := hb3.trans (hb4.mono hb3.size)
  go_wp2_with fail
  refine (H.out.2.2.2 _).mono ?_
  rintro e w5 ⟨rfl, hb5⟩
  replace hb5 := hb4.trans (hb5.mono hb4.size)
  go_wp2_with fail
  refine (H.out.2.2.1 _).mono ?_
  rintro e w6 ⟨rfl, hb6⟩
  replace hb6 := hb5.trans (hb6.mono hb5.size)
  clear H hb2 hb3 hb4 hb5
  go_upto_if 119 with fail
  go_cut [] from 119 to 158 (fun wx => Below w1.heap.size w1 wx)
  case first =>
    as_aux_lemma =>
    cases ok
    · go_wp2
      go_meet
      exact hb6
    · obtain ⟨m, n, X, Y, rfl, rfl, rfl, rfl, h1, h2, h3, h4, h5, h6, h7, h8⟩ := HOK.out rfl
      obtain ⟨Z, hZ⟩ : ∃ Z, Z = n ^ m := ⟨_, rfl⟩
      have hpw := pw_le h2 h4
      rw [← hZ] at h8 hpw
      have HZ := Lib.hid hZ
      clear hZ HOK
      have i1 : ¬ (X : Int) < 1 := by omega
      have i2 : ¬ (X : Int) > (Z : Int) := by omega
      have i3 : ¬ (Y : Int) < 1 := by omega
      have i4 : ¬ (Y : Int) > (X : Int) := by omega
      go_wp2_with fail
      refine (bPower_to n m Z HZ.out _ h3 (by omega) (by omega)).mono ?_
      rintro e w7 ⟨rfl, rfl⟩
      go_upto_region 14 with fail
      go_cut [17] from 119 to 138 (fun s wx => s = .int .i64 0 ∧ wx = w7)
      case first =>
        go_wp2
        go_meet
        exact ⟨rfl, rfl⟩
      obtain ⟨rfl, rfl⟩ := hcut
      clear i1 i2 i3 i4 h5 h6 h7 h8
      go_wp2_with fail
      go_loopg [17, 18] n (fun gh s k wr => ∃ j V : Nat, j + gh = n + 1 ∧ 1 ≤ j ∧ V = (j - 1) ^ m ∧ s = .int .i64 (V : Nat) ∧ k = .int .i64 (j : Nat) ∧ Below w1.heap.size w1 wr)
      case atStart => exact ⟨1, 0, by omega, Nat.le_refl _, by rw [Nat.zero_pow (by omega)], rfl, rfl, hb6⟩
      case round =>
        obtain ⟨j, V, hj, hj1, hV, rfl, rfl, hbr⟩ := hrel
        have hgk : gk ≤ n := by omega
        by_cases hlt : j ≤ n
        · have hle : (j : Int) ≤ (n : Int) := by omega
          obtain ⟨N, hN⟩ : ∃ N, N = W m n (fun t => is (gt t 0 == j)) := ⟨_, rfl⟩
          have gm := greatest_math m n j h1 hj1 hlt
          rw [← hN, ← hV] at gm
          have hpj := pw_le h2 (show j ≤ 12 by omega)
          obtain ⟨V', hV'⟩ : ∃ V', V' = j ^ m := ⟨_, rfl⟩
          rw [← hV'] at gm hpj
          have e1 : IntKind.i64.wrap ((V : Int) + (N : Int)) = (V' : Int) := by rw [IntWalk.i64_in _ (by omega)]; omega
          have e2 : IntKind.i64.wrap ((j : Int) + 1) = ((j + 1 : Nat) : Int) := by rw [IntWalk.i64_in _ (by omega)]; omega
          have HG := Lib.hid (fun w => implCountGreatest_yes m n j w h1 h2 h3 h4 hj1 hlt)
          rw [← hN] at HG
          have HV := Lib.hid (show V' = (j + 1 - 1) ^ m from hV')
          clear hN hV hV'
          go_wp2_with fail
          refine (HG.out _).mono ?_
          rintro e w8 ⟨rfl, hb8⟩
          replace hb8 := hbr.trans (hb8.mono hbr.size)
          go_wp2
          go_roundg (gk - 1)
          case rel => exact ⟨j + 1, V', by omega, by omega, HV.out, by go_num, by go_num, hb8⟩
          case measure => omega
        · have hle : ¬ (j : Int) ≤ (n : Int) := by omega
          have hjn : j = n + 1 := by omega
          have hVZ : V = Z := by rw [hV, HZ.out, hjn, Nat.add_sub_cancel]
          subst hVZ
          clear hV
          go_wp2
          go_meet
          exact hbr
  case rest =>
  as_aux_lemma =>
  clear hb6 HOK
  go_wp2_with fail
  refine (drawCountEachFace_any c2 A2 l2 _ ((hl2.below hcut).more hcut.size)).mono ?_
  rintro e v1 ⟨ed, ef, rfl, gb1⟩
  replace gb1 := hcut.trans (gb1.mono hcut.size)
  obtain ⟨ex, eok, EH, EOK⟩ := each_told ed ef
  have EH := Lib.hid EH
  replace EOK := Lib.hid EOK
  go_wp2_with fail
  refine (EH.out.2 _).mono ?_
  rintro e v2 ⟨rfl, gb2⟩
  replace gb2 := gb1.trans (gb2.mono gb1.size)
  go_wp2_with fail
  refine (EH.out.1 _).mono ?_
  rintro e v3 ⟨rfl, gb3⟩
  replace gb3 := gb2.trans (gb3.mono gb2.size)
  go_wp2_with fail
  refine (drawCountSame_any c2 A2 l2 _ ((hl2.below gb3).more gb3.size)).mono ?_
  rintro e v4 ⟨sd, sf, sa, rfl, gb4⟩
  replace gb4 := gb3.trans (gb4.mono gb3.size)
  obtain ⟨sx, sok, SH, SOK⟩ := same_told sd sf sa
  have SH := Lib.hid SH
  replace SOK := Lib.hid SOK
  go_wp2_with fail
  refine (SH.out.2 _).mono ?_
  rintro e v5 ⟨rfl, gb5⟩
  replace gb5 := gb4.trans (gb5.mono gb4.size)
  go_wp2_with fail
  refine (SH.out.1 _).mono ?_
  rintro e v6 ⟨rfl, gb6⟩
  replace gb6 := gb5.trans (gb6.mono gb5.size)
  go_wp2_with fail
  refine (drawCountRuns_any c2 A2 l2 _ ((hl2.below gb6).more gb6.size)).mono ?_
  rintro e v7 ⟨rd, rf, ra, rfl, gb7⟩
  replace gb7 := gb6.trans (gb7.mono gb6.size)
  obtain ⟨rx, rok, RH, ROK⟩ := runs_told rd rf ra
  have RH := Lib.hid RH
  replace ROK := Lib.hid ROK
  go_wp2_with fail
  refine (RH.out.2 _).mono ?_
  rintro e v8 ⟨rfl, gb8⟩
  replace gb8 := gb7.trans (gb8.mono gb7.size)
  go_wp2_with fail
  refine (RH.out.1 _).mono ?_
  rintro e v9 ⟨rfl, gb9⟩
  replace gb9 := gb8.trans (gb9.mono gb8.size)
  go_wp2_with fail
  refine (drawThrowsForAll_any c2 A2 l2 _ ((hl2.below gb9).more gb9.size)).mono ?_
  rintro e u1 ⟨tf, _, rfl, kb1⟩
  replace kb1 := gb9.trans (kb1.mono gb9.size)
  obtain ⟨tx, ty, tok, TH, TOK⟩ := throws_told tf
  have TH := Lib.hid TH
  replace TOK := Lib.hid TOK
  go_wp2_with fail
  refine (TH.out.2 _).mono ?_
  rintro e u2 ⟨rfl, kb2⟩
  replace kb2 := kb1.trans (kb2.mono kb1.size)
  go_wp2_with fail
  refine (TH.out.1 _).mono ?_
  rintro e u3 ⟨rfl, kb3⟩
  replace kb3 := kb2.trans (kb3.mono kb2.size)
  clear gb1 gb2 gb3 gb4 gb5 gb6 gb7 gb8 gb9 kb1 kb2 EH SH RH TH hl1 hl2 hcut
  go_upto_if 273 with fail
  go_cut [] from 273 to 297 (fun wx => Below w1.heap.size w1 wx)
  case first =>
    as_aux_lemma =>
    cases eok
    · go_wp2
      go_meet
      exact kb3
    · obtain ⟨m, n, X, rfl, rfl, rfl, h1, h2, h3, h4, h5, hR⟩ := EOK.out rfl
      have HR := Lib.hid hR
      clear hR EOK
      have i0 : ¬ (X : Int) < 0 := by omega
      by_cases hnm : n ≤ m
      · have hX := h5.2 hnm
        have i1 : (X : Int) > 0 := by omega
        have i2 : (m : Int) ≥ (n : Int) := by omega
        clear h5
        go_wp2_with fail
        refine (HR.out _).mono ?_
        rintro e x1 ⟨rfl, xb1⟩
        go_wp2
        go_meet
        exact kb3.trans (xb1.mono kb3.size)
      · have hX : ¬ 0 < X := fun h => hnm (h5.1 h)
        have i1 : ¬ (X : Int) > 0 := by omega
        have i2 : ¬ (m : Int) ≥ (n : Int) := by omega
        clear h5
        go_wp2_with fail
        refine (HR.out _).mono ?_
        rintro e x1 ⟨rfl, xb1⟩
        go_wp2
        go_meet
        exact kb3.trans (xb1.mono kb3.size)
  case rest =>
  as_aux_lemma =>
  replace kb3 := hcut
  clear hcut EOK
  go_upto_if 298 with fail
  go_cut [] from 298 to 338 (fun wx => Below w1.heap.size w1 wx)
  case first =>
    as_aux_lemma =>
    cases sok
    · go_wp2
      go_meet
      exact kb3
    · obtain ⟨m, n, q, X, rfl, rfl, rfl, rfl, h1, h2, h3, h4, hq1, hq2, hX⟩ := SOK.out rfl
      obtain ⟨Z, hZ⟩ : ∃ Z, Z = n ^ m := ⟨_, rfl⟩
      have hpw := pw_le h2 h4
      rw [← hZ] at hpw
      have HZ := Lib.hid hZ
      have HX := Lib.hid hX
      clear hZ SOK hX
      go_wp2_with fail
      go_loopg [50, 51] 8 (fun gh s k wr => ∃ j V : Nat, j + gh = 9 ∧ 1 ≤ j ∧ V = mq m n (j - 1) ∧ s = .int .i64 (V : Nat) ∧ k = .int .i64 (j : Nat) ∧ Below w1.heap.size w1 wr)
      case atStart => exact ⟨1, 0, by omega, Nat.le_refl _, (mq_none h1).symm, rfl, rfl, kb3⟩
      case round =>
        obtain ⟨j, V, hj, hj1, hV, rfl, rfl, hbr⟩ := hrel
        by_cases hlt : j ≤ 8
        · have hle : (j : Int) ≤ 8 := by omega
          obtain ⟨N, hN⟩ : ∃ N, N = W m n (fun t => is (mostN t n == j)) := ⟨_, rfl⟩
          have gm := same_math m n j hj1
          rw [← hN, ← hV] at gm
          have hpj := mq_le m n j
          rw [← HZ.out] at hpj
          have hz : m < j → N = 0 := fun h => by
            have e1 := mq_full (d := m) (f := n) (m := j) (by omega)
            have e2 := mq_full (d := m) (f := n) (m := j - 1) (by omega)
            rw [hV] at gm
            omega
          obtain ⟨V', hV'⟩ : ∃ V', V' = mq m n j := ⟨_, rfl⟩
          rw [← hV'] at gm hpj
          have e1 : IntKind.i64.wrap ((V : Int) + (N : Int)) = (V' : Int) := by rw [IntWalk.i64_in _ (by omega)]; omega
          have e2 : IntKind.i64.wrap ((j : Int) + 1) = ((j + 1 : Nat) : Int) := by rw [IntWalk.i64_in _ (by omega)]; omega
          have HG := Lib.hid (fun w => implCountSame_yes m n j w h1 h2 h3 h4 hj1 hlt)
          rw [← hN] at HG
          have HV := Lib.hid (show V' = mq m n (j + 1 - 1) from hV')
          clear hN hV hV'
          by_cases hmj : m < j
          · obtain rfl := hz hmj
            have i1 : (j : Int) > (m : Int) := by omega
            have e1' : IntKind.i64.wrap ((V : Int) + 0) = (V' : Int) := e1
            go_wp2_with fail
            refine (HG.out _).mono ?_
            rintro e w8 ⟨rfl, hb8⟩
            replace hb8 := hbr.trans (hb8.mono hbr.size)
            have hVV : V = V' := by omega
            subst hVV
            go_wp2
            go_roundg (gk - 1)
            case rel => exact ⟨j + 1, V, by omega, by omega, HV.out, by go_num, by go_num, hb8⟩
            case measure => omega
          · have i1 : ¬ (j : Int) > (m : Int) := by omega
            clear hz
            go_wp2_with fail
            refine (HG.out _).mono ?_
            rintro e w8 ⟨rfl, hb8⟩
            replace hb8 := hbr.trans (hb8.mono hbr.size)
            go_wp2
            go_roundg (gk - 1)
            case rel => exact ⟨j + 1, V', by omega, by omega, HV.out, by go_num, by go_num, hb8⟩
            case measure => omega
        · have hle : ¬ (j : Int) ≤ 8 := by omega
          have hj9 : j = 9 := by omega
          have hVZ : V = Z := by rw [hV, HZ.out, hj9]; exact mq_full h2
          subst hVZ
          clear hV
          by_cases hqm : q = m
          · have hXn := HX.out hqm
            subst hXn
            subst hqm
            go_wp2_with fail
            refine (bPower_to X q V HZ.out _ h3 (by omega) (by omega)).mono ?_
            rintro e w8 ⟨rfl, rfl⟩
            go_wp2
            go_meet
            exact hbr
          · have i1 : ¬ (q : Int) = (m : Int) := by omega
            go_wp2_with fail
            refine (bPower_to n m V HZ.out _ h3 (by omega) (by omega)).mono ?_
            rintro e w8 ⟨rfl, rfl⟩
            go_wp2
            go_meet
            exact hbr
  case rest =>
  as_aux_lemma =>
  replace kb3 := hcut
  clear hcut SOK
  go_upto_if 339 with fail
  go_cut [] from 339 to 389 (fun wx => Below w1.heap.size w1 wx)
  case first =>
    as_aux_lemma =>
    cases rok
    · go_wp2
      go_meet
      exact kb3
    · obtain ⟨m, n, q, X, rfl, rfl, rfl, rfl, h1, h2, h3, h4, hq1, hq2, hXZ, hpos, hone, hless⟩ := ROK.out rfl
      obtain ⟨Z, hZ⟩ : ∃ Z, Z = n ^ m := ⟨_, rfl⟩
      have hpw := pw_le h2 h4
      rw [← hZ] at hpw hXZ hone
      have HZ := Lib.hid hZ
      clear hZ ROK
      have j0 : ¬ (X : Int) < 0 := by omega
      have j1 : ¬ (X : Int) > (Z : Int) := by omega
      by_cases hq : q = 1
      · obtain rfl := hone hq
        subst hq
        have hX0 : 0 < X := hpos.2 ⟨h1, h3⟩
        have j2 : (X : Int) > 0 := by omega
        have j3 : (1 : Int) ≤ (m : Int) := by omega
        have j4 : (1 : Int) ≤ (n : Int) := by omega
        clear hpos hone hless
        go_wp2_with fail
        refine (bPower_to n m X HZ.out _ h3 (by omega) (by omega)).mono ?_
        rintro e x1 ⟨rfl, rfl⟩
        go_wp2_with fail
        refine (bPower_to n m X HZ.out _ h3 (by omega) (by omega)).mono ?_
        rintro e x2 ⟨rfl, rfl⟩
        go_wp2
        go_meet
        exact kb3
      · obtain ⟨Y, hXY, hY⟩ := hless (by omega)
        have HY := Lib.hid hY
        have j2 : ¬ (q : Int) = 1 := by omega
        have j3 : (q : Int) > 1 := by omega
        have j4 : IntKind.i64.wrap ((q : Int) - 1) = ((q - 1 : Nat) : Int) := by rw [IntWalk.i64_in _ (by omega)]; omega
        have j5 : ¬ (Y : Int) < (X : Int) := by omega
        clear hY hless hone
        by_cases hqm : q ≤ m
        · by_cases hqn : q ≤ n
          · have hX0 : 0 < X := hpos.2 ⟨hqm, hqn⟩
            have j6 : (X : Int) > 0 := by omega
            have j7 : (q : Int) ≤ (m : Int) := by omega
            have j8 : (q : Int) ≤ (n : Int) := by omega
            clear hpos
            go_wp2_with fail
            refine (bPower_to n m Z HZ.out _ h3 (by omega) (by omega)).mono ?_
            rintro e x1 ⟨rfl, rfl⟩
            go_wp2_with fail
            refine (HY.out _).mono ?_
            rintro e x2 ⟨rfl, xb2⟩
            go_wp2
            go_meet
            exact kb3.trans (xb2.mono kb3.size)
          · have hX0 : ¬ 0 < X := fun h => hqn (hpos.1 h).2
            have j6 : ¬ (X : Int) > 0 := by omega
            have j7 : (q : Int) ≤ (m : Int) := by omega
            have j8 : ¬ (q : Int) ≤ (n : Int) := by omega
            clear hpos
            go_wp2_with fail
            refine (bPower_to n m Z HZ.out _ h3 (by omega) (by omega)).mono ?_
            rintro e x1 ⟨rfl, rfl⟩
            go_wp2_with fail
            refine (HY.out _).mono ?_
            rintro e x2 ⟨rfl, xb2⟩
            go_wp2
            go_meet
            exact kb3.trans (xb2.mono kb3.size)
        · have hX0 : ¬ 0 < X := fun h => hqm (hpos.1 h).1
          have j6 : ¬ (X : Int) > 0 := by omega
          have j7 : ¬ (q : Int) ≤ (m : Int) := by omega
          clear hpos
          go_wp2_with fail
          refine (bPower_to n m Z HZ.out _ h3 (by omega) (by omega)).mono ?_
          rintro e x1 ⟨rfl, rfl⟩
          go_wp2_with fail
          refine (HY.out _).mono ?_
          rintro e x2 ⟨rfl, xb2⟩
          go_wp2
          go_meet
          exact kb3.trans (xb2.mono kb3.size)
  case rest =>
  as_aux_lemma =>
  replace kb3 := hcut
  clear hcut ROK
  cases tok
  · go_wp2
    go_ret
    exact ⟨rfl, kb3⟩
  · obtain ⟨n, X, Y, rfl, rfl, rfl, h1, h2, hX, hY, hone, hless⟩ := TOK.out rfl
    clear TOK
    by_cases hn : 1 < n
    · obtain ⟨L, U, hL, hU, hprod, hcall⟩ := hless hn
      have HC := Lib.hid hcall
      clear hcall hless hone
      have j1 : (n : Int) > 1 := by omega
      obtain ⟨k, hk⟩ : ∃ k, k = n - 1 := ⟨_, rfl⟩
      rw [← hk] at hprod HC
      have j2 : IntKind.i64.wrap ((n : Int) - 1) = (k : Int) := by rw [IntWalk.i64_in _ (by omega)]; omega
      obtain ⟨P1, hP1⟩ : ∃ P, P = X * k := ⟨_, rfl⟩
      obtain ⟨P2, hP2⟩ : ∃ P, P = P1 * U := ⟨_, rfl⟩
      obtain ⟨Q1, hQ1⟩ : ∃ P, P = n * L := ⟨_, rfl⟩
      obtain ⟨Q2, hQ2⟩ : ∃ P, P = k * U := ⟨_, rfl⟩
      obtain ⟨Q3, hQ3⟩ : ∃ P, P = Q1 + Q2 := ⟨_, rfl⟩
      have b1 : P1 ≤ 1000000 * 12 := by rw [hP1]; exact Nat.mul_le_mul hX (by omega)
      have b2 : P2 ≤ 1000000 * 12 * 1000000 := by rw [hP2]; exact Nat.mul_le_mul b1 hU
      have b3 : Q1 ≤ 12 * 1000000 := by rw [hQ1]; exact Nat.mul_le_mul h2 hL
      have b4 : Q2 ≤ 12 * 1000000 := by rw [hQ2]; exact Nat.mul_le_mul (by omega) hU
      rw [← hP1, ← hP2, ← hQ1, ← hQ2, ← hQ3] at hprod
      have c1 : (X : Int) * (k : Int) = (P1 : Int) := by rw [hP1]; simp
      have c2 : (P1 : Int) * (U : Int) = (P2 : Int) := by rw [hP2]; simp
      have c3 : (n : Int) * (L : Int) = (Q1 : Int) := by rw [hQ1]; simp
      have c4 : (k : Int) * (U : Int) = (Q2 : Int) := by rw [hQ2]; simp
      have c5 : (Y : Int) * (Q3 : Int) = (P2 : Int) := by rw [hprod]; simp
      have e1 : IntKind.i64.wrap ((X : Int) * (k : Int)) = (P1 : Int) := by rw [c1]; exact IntWalk.i64_in _ (by omega)
      have e2 : IntKind.i64.wrap ((P1 : Int) * (U : Int)) = (P2 : Int) := by rw [c2]; exact IntWalk.i64_in _ (by omega)
      have e3 : IntKind.i64.wrap ((n : Int) * (L : Int)) = (Q1 : Int) := by rw [c3]; exact IntWalk.i64_in _ (by omega)
      have e4 : IntKind.i64.wrap ((k : Int) * (U : Int)) = (Q2 : Int) := by rw [c4]; exact IntWalk.i64_in _ (by omega)
      have e5 : IntKind.i64.wrap ((Q1 : Int) + (Q2 : Int)) = (Q3 : Int) := by rw [IntWalk.i64_in _ (by omega)]; omega
      have e6 : IntKind.i64.wrap ((Y : Int) * (Q3 : Int)) = (P2 : Int) := by rw [c5]; exact IntWalk.i64_in _ (by omega)
      clear hP1 hP2 hQ1 hQ2 hQ3 c1 c2 c3 c4 c5 hprod hk b1 b2 b3 b4
      go_wp2_with fail
      refine (HC.out _).mono ?_
      rintro e x1 ⟨rfl, xb1⟩
      go_wp2
      go_ret
      exact ⟨rfl, kb3.trans (xb1.mono kb3.size)⟩
    · have j1 : ¬ (n : Int) > 1 := by omega
      obtain rfl := hone (by omega)
      clear hless hone
      go_wp2
      go_ret
      exact ⟨rfl, kb3⟩
end Go.Proofs.Ytnohpclaccaijab

namespace Go.Proofs.Ytnohpclaccaijab
open Go.ChangeShapes Go.WideShapes Go.ChangeAt Go.RowKit Go.Deep Go.Joins

set_option maxRecDepth 100000 in
theorem diceCounted_lifted (os : Os) (started : os.Started) (H : Type) (enc : TypeId × Value → H) :
    ReturnsInHanded {} Try.checked os 4 .any (Rows.fnDiceCountedSpec.pre6 enc Try.prog Try.f4 Rows.fnDiceCountedRow.domain false) (Rows.fnDiceCountedSpec.post enc Try.prog Try.f4 false true false false) := by
  refine returnsInHanded_of_change (C := Try.checked) head_own started (by kernel_rfl) Try.func4
    (ChangeSpec.witness6 (enc := enc) (C := Try.checked) false ⟨#[], #[.slice none 0 0, .slice none 0 0], []⟩ 8 (by kernel_rfl) (by kernel_rfl) (by kernel_rfl) (by kernel_rfl)) ?_
  intro W base args ds gs before hval hW _ _
  have hW' := hW
  obtain ⟨p, q, hA0, hV, rfl, _, _⟩ := hW
  have hA : DataW.TrodAll enc Try.prog W 0 (fun _ => true) true Try.f4.params.toList args.toList ds p := hA0
  have hA' := hA
  rw [Try.params4] at hA hval
  obtain ⟨v0, vs0, d0, ds0, p0, q0, hargs0, rfl, rfl, h0, r0⟩ := trodAll_cons hA
  obtain ⟨v1, vs1, d1, ds1, p1, q1, hargs1, rfl, rfl, h1, r1⟩ := trodAll_cons r0
  obtain ⟨rfl, rfl, rfl⟩ := trodAll_nil r1
  subst hargs1
  obtain rfl : args = #[v0, v1] := by cases args; simp_all
  obtain ⟨rfl, rfl⟩ := trodVars_none hV
  have fin : ∀ W' : World, Below W.heap.size W W' → Rows.fnDiceCountedSpec.post enc Try.prog Try.f4 false true false false W #[v0, v1] (.bool true) W' := fun W' hb =>
    law_post head_laid hW' (by simpa using hA') rfl (by kernel_rfl) (T := 4) rfl Try.underlying4 rfl rfl rfl hb
  obtain ⟨A1, n1, c1, rfl, m1, hx1⟩ := open_bytesS (hval 0 _ v0 rfl rfl) h0
  obtain ⟨A2, n2, c2, rfl, m2, hx2⟩ := open_bytesS (hval 1 _ v1 rfl rfl) h1
  exact (lawDiceCounted A1 A2 n1 c1 n2 c2 W m1 m2 hx1 hx2).mono fun e W' ⟨he, hx⟩ => ⟨_, he, fin W' hx⟩

theorem diceCounted_joined : joinedFacts Try.prog 4 Try.f4 Rows.fnDiceCountedSpec Rows.fnDiceCountedRow = true := by
  simp only [joinedFacts, Bool.and_eq_true]
  repeat' apply And.intro
  all_goals first
    | with_reducible exact head_enter
    | with_reducible exact head_laid
    | with_reducible exact head_maps
    | (rw [head_lifts]; as_aux_lemma => kernel_rfl)
    | (rw [head_make]; as_aux_lemma => kernel_rfl)
    | as_aux_lemma => kernel_rfl
theorem diceCounted_named : Try.prog.funcNamed Rows.fnDiceCountedRow.func = some 4 := by kernel_rfl
theorem diceCounted_wrap : Try.f4.isWrapper Try.prog Rows.fnDiceCountedRow.wrapper Rows.fnDiceCountedRow.mainSum := by unfold Func.isWrapper; first | (rw [if_pos (by decide +kernel)]; kernel_rfl) | (rw [if_neg (by decide +kernel)]; exact ⟨rfl, rfl⟩)
theorem diceCounted_inst : Try.f4.isInstance Try.prog Rows.fnDiceCountedRow.origin Rows.fnDiceCountedRow.targs := of_decide_eq_true (by kernel_rfl)

theorem diceCounted_holds : Rows.FnDiceCountedSaid :=
  OpenClaim.holds_of_wide 4 Try.f4 rfl rfl rfl rfl rfl rfl rfl ⟨rfl, rfl, rfl, rfl, rfl⟩ rfl rfl rfl rfl rfl diceCounted_named Try.func4 diceCounted_joined diceCounted_inst diceCounted_wrap
    (fun os started H enc _ => diceCounted_lifted os started H enc)
#print axioms diceCounted_holds
end Go.Proofs.Ytnohpclaccaijab

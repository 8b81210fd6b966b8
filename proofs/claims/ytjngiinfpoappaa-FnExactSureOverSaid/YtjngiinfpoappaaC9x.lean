/-
  Puzzles: SureOver on both sides.
-/
import Derived.Test.YtjngiinfpoappaaC9u
import Derived.Test.YtjngiinfpoappaaC9v
namespace Go.Proofs.Ytjngiinfpoappaa
open Go.RowKit

noncomputable def sureR (q f : Int) (L : List Qd) : Int × Bool := if pzB q f L then sureV (keepL (oversL q f q.toNat 3) L) else (0, false)
theorem sureR_no {q f : Int} {L : List Qd} (h : pzB q f L = false) : sureR q f L = (0, false) := by rw [sureR, h]; rfl
theorem sureR_yes {S : Nat} {f : Int} {L : List Qd} (h : pzB (S : Int) f L = true) : sureR (S : Int) f L = sureV (keepL (oversL (S : Int) f S 3) L) := by rw [sureR, h]; rfl

set_option maxRecDepth 100000 in
set_option maxHeartbeats 1000000 in
theorem specSureOver_any (q f : Int) (L : List Qd) (A : Option Addr) (cp : Nat) (w : World) (hL : RQ w w.heap.size A L) : Calls Try.prog 33 #[.agg #[.int .i64 q, .int .i64 f, .slice A L.length cp]] w fun e w' => e = .returned (.tuple #[.int .i64 (sureR q f L).1, .bool (sureR q f L).2]) ∧ Below w.heap.size w w' := by
  have hl := hL.1
  cases h : pzB q f L
  · rw [sureR_no h]
    have H := Lib.hid h
    clear h
    go_enter Try.func33, Try.ntmps33
    go_wp2_with fail
    refine (pzGood_any q f A cp L _ (hL.go (below1 _ _))).mono ?_
    rintro e w2 ⟨rfl, hx⟩
    rw [H.out]
    go_wp2
    go_ret2
    exact ⟨rfl, (below1 w _).trans (hx.mono (by simp))⟩
  · obtain ⟨S, rfl, hS, hf, hq⟩ := pz_yes h
    rw [sureR_yes h]
    have hkl := keepL_len S f L hS.2
    have hso := keepL_sorted (s := (S : Int)) (f := f) (S := S) (m := 3) L
    obtain ⟨K, hK⟩ : ∃ K, K = keepL (oversL (S : Int) f S 3) L := ⟨_, rfl⟩
    rw [← hK] at hkl hso ⊢
    obtain ⟨V, hV⟩ : ∃ V, V = sureV K := ⟨_, rfl⟩
    rw [← hV]
    have HV := Lib.hid hV
    clear hV
    have HK := Lib.hid hK; have HQ := Lib.hid hq; have H := Lib.hid h; have HSO := Lib.hid hso
    clear h hq hK hso
    go_enter Try.func33, Try.ntmps33
    go_wp2_with fail
    refine (pzGood_any (S : Int) f A cp L _ (hL.go (below1 _ _))).mono ?_
    rintro e w2 ⟨rfl, hx⟩
    rw [H.out]
    have hb := (below1 w _).trans (hx.mono (by simp))
    have hb1 := box_on (Below.refl _ _) hx (by simp)
    have qq := boxcells hb1
    go_wp2_with fail
    refine (pzAll_any S f A A L.length cp cp L _ hS hf (hL.go hb) HQ.out).mono ?_
    rintro e w3 ⟨v, rfl, hO, hx3⟩
    rw [← HK.out] at hO
    have hb3 := hb.trans (hx3.mono hb.size)
    clear qq hb1
    by_cases h0 : K.length = 0
    · obtain ⟨A3, c3, rfl, _⟩ := hO.slice
      obtain rfl : V = (0, false) := by rw [HV.out]; exact sureV_nil h0
      rw [h0]
      have H0 := Lib.hid h0
      clear hO h0
      go_wp2
      go_ret2
      exact ⟨rfl, hb3⟩
    · have hp : 0 < K.length := by omega
      have hne0 : ((K.length : Int) == 0) = false := beq_eq_false_iff_ne.2 (by omega)
      obtain ⟨o0, ho0⟩ : ∃ o0, o0 = (K[0]'hp).1.2.2 := ⟨_, rfl⟩
      have HD := Lib.hid (show ∀ k (hk : k < K.length), ¬ K[k].1.2.2 = o0 → V = (-1, true) from fun k hk hne => by rw [HV.out]; exact sureV_differ HSO.out hk (by rw [← ho0]; exact hne))
      have HS := Lib.hid (show (∀ k (hk : k < K.length), K[k].1.2.2 = o0) → V = (o0, true) from fun h => by rw [HV.out, ho0]; exact sureV_same hp (fun k hk => by rw [← ho0]; exact h k hk))
      obtain ⟨g, c1, v0, rfl, hg1, hg2, -, -, -, z2, -⟩ := hO.at_ hp
      rw [← ho0] at z2
      have z2 : w3.cell? ⟨g, 2, none⟩ = some (.int .i64 o0) := by simpa using z2
      have HO := Lib.hid hO
      clear hO ho0 h0
      go_wp2
      go_loopw [19] (fun i wr => ∃ k : Nat, k ≤ K.length ∧ i = .int .i64 k ∧ Below w3.heap.size w3 wr ∧ Hid (∀ j (h : j < K.length), j < k → K[j].1.2.2 = o0)) (fun i _ => K.length - (intOf i).toNat)
      case atStart => exact ⟨0, Nat.zero_le _, rfl, Below.refl _ _, Lib.hid (fun j h h2 => by omega)⟩
      case round =>
        obtain ⟨k, hk, rfl, hbr, hall⟩ := hrel
        have hsr := hbr.size
        by_cases hlt : k < K.length
        · obtain ⟨g', c', vk, e1, _, _, hJV, y0, y1, y2, y3⟩ := HO.out.at_ hlt
          injection e1 with e1 _ e2
          injection e1 with e1
          injection e1 with e1 _ _
          subst e1 e2
          have hDk := HD.out k hlt
          obtain ⟨x, hxe⟩ : ∃ x, x = K[k] := ⟨_, rfl⟩
          have HXE := Lib.hid hxe
          rw [← hxe] at y0 y1 y2 hDk hJV
          clear hxe
          obtain ⟨⟨s', f', o'⟩, js⟩ := x
          obtain ⟨Aj, cj, rfl, _, _⟩ := hJV
          dsimp only at y0 y1 y2 hDk
          have HDK := Lib.hid hDk
          clear hDk
          have d0 := (bcell hbr hg2).trans y0
          have d1 := (bcell hbr hg2).trans y1
          have d2 := (bcell hbr hg2).trans y2
          have d3 := (bcell hbr hg2).trans y3
          have hgr : g < wr.heap.size := by omega
          have k1 := heap_alloc_at wr (.cells #[.int .i64 s', .int .i64 f', .int .i64 o', .slice Aj js.length cj] 44) _ rfl
          have qb := fun i => cell_of_row _ wr.heap.size i _ _ _ k1
          have z2r := (bcell (hbr.trans ((below1 wr (.cells #[.int .i64 s', .int .i64 f', .int .i64 o', .slice Aj js.length cj] 44)).mono hsr)) hg2).trans z2
          by_cases he : o' = o0
          · have hee : (o' != o0) = false := by simp [he]
            have HE := Lib.hid he
            clear he
            go_wp2
            go_quiet (fail)
            go_wp2
            go_roundw
            case rel => exact ⟨k + 1, by omega, by go_num, drewB (hbr.trans ((below1 _ _).mono hsr)) _, Lib.hid (fun j h hj => by
              by_cases e : j = k
              · subst e; rw [← HXE.out]; exact HE.out
              · exact hall.out j h (by omega))⟩
            case measure => simp [intOf]; omega
          · have hee : (o' != o0) = true := by simp [he]
            have HE := Lib.hid he
            clear he
            go_wp2
            go_quiet (fail)
            go_wp2
            go_ret2
            exact ⟨by rw [HDK.out HE.out]; rfl, hb3.trans ((drewB (hbr.trans ((below1 _ _).mono hsr)) _).mono hb3.size)⟩
        · obtain rfl : k = K.length := by omega
          have z2r := (bcell hbr hg2).trans z2
          go_wp2
          go_ret2
          exact ⟨by rw [HS.out (fun k hk => hall.out k hk hk)]; rfl, hb3.trans (hbr.mono hb3.size)⟩

set_option maxRecDepth 100000 in
set_option maxHeartbeats 1000000 in
theorem implSureOver_any (q f : Int) (L : List Qd) (A : Option Addr) (cp : Nat) (w : World) (hL : RQ w w.heap.size A L) : Calls Try.prog 34 #[.agg #[.int .i64 q, .int .i64 f, .slice A L.length cp]] w fun e w' => e = .returned (.tuple #[.int .i64 (sureR q f L).1, .bool (sureR q f L).2]) ∧ Below w.heap.size w w' := by
  have hl := hL.1
  cases h : pzB q f L
  · rw [sureR_no h]
    have H := Lib.hid h
    clear h
    go_enter Try.func34, Try.ntmps34
    go_wp2_with fail
    refine (implSolutions_no q f A cp L _ (hL.go (below1 _ _)) H.out).mono ?_
    rintro e w2 ⟨rfl, hx⟩
    go_wp2
    go_ret2
    exact ⟨rfl, (below1 w _).trans (hx.mono (by simp))⟩
  · obtain ⟨S, rfl, hS, hf, hq⟩ := pz_yes h
    rw [sureR_yes h]
    have hkl := keepL_len S f L hS.2
    have hso := keepL_sorted (s := (S : Int)) (f := f) (S := S) (m := 3) L
    obtain ⟨K, hK⟩ : ∃ K, K = keepL (oversL (S : Int) f S 3) L := ⟨_, rfl⟩
    rw [← hK] at hkl hso ⊢
    obtain ⟨V, hV⟩ : ∃ V, V = sureV K := ⟨_, rfl⟩
    rw [← hV]
    have HV := Lib.hid hV
    clear hV
    have HK := Lib.hid hK; have H := Lib.hid h; have HSO := Lib.hid hso
    clear h hq hK hso
    go_enter Try.func34, Try.ntmps34
    go_wp2_with fail
    refine (implSolutions_yes S f A cp L _ (hL.go (below1 _ _)) H.out).mono ?_
    rintro e w3 ⟨v, rfl, hO, hx3⟩
    rw [← HK.out] at hO
    have hb3 := (below1 w _).trans (hx3.mono (by simp))
    by_cases h0 : K.length = 0
    · obtain ⟨A3, c3, rfl, _⟩ := hO.slice
      obtain rfl : V = (0, false) := by rw [HV.out]; exact sureV_nil h0
      rw [h0]
      have H0 := Lib.hid h0
      clear hO h0
      go_wp2
      go_ret2
      exact ⟨rfl, hb3⟩
    · have hp : 0 < K.length := by omega
      obtain ⟨n, hn⟩ : ∃ n, K.length = n + 1 := ⟨K.length - 1, by omega⟩
      have hV := sureV_cons hp
      have hlast : K.length - 1 = n := by omega
      obtain ⟨g, c1, v0, rfl, hg1, hg2, -, -, -, z2, -⟩ := hO.at_ hp
      obtain ⟨g', c1', v0', e1, -, -, -, -, -, y2, -⟩ := hO.at_ (k := n) (by omega)
      injection e1 with e1 _ e2
      injection e1 with e1
      injection e1 with e1 _ _
      subst e1 e2
      have hln : K[K.length - 1]'(by omega) = K[n]'(by omega) := by congr 1
      rw [hln] at hV
      obtain ⟨o0, ho0⟩ : ∃ o0, o0 = (K[0]'hp).1.2.2 := ⟨_, rfl⟩
      obtain ⟨o1, ho1⟩ : ∃ o1, o1 = (K[n]'(by omega)).1.2.2 := ⟨_, rfl⟩
      rw [← ho0] at z2 hV
      rw [← ho1] at y2 hV
      have z2 : w3.cell? ⟨g, 2, none⟩ = some (.int .i64 o0) := by simpa using z2
      rw [← HV.out] at hV
      rw [hn] at hkl ⊢
      have hnn : ¬ (n : Int) + 1 = 0 := by omega
      have hnz : ((n : Int) + 1 == 0) = false := beq_eq_false_iff_ne.2 hnn
      clear hO ho0 ho1 h0 hln hlast hn hp
      by_cases he : o1 = o0
      · have hee : (o0 != o1) = false := by simp [he]
        rw [if_pos he] at hV
        subst hV
        have HE := Lib.hid he
        clear he
        go_wp2
        go_quiet (fail)
        go_wp2
        go_ret2
        exact ⟨rfl, drewB hb3 _⟩
      · have hee : (o0 != o1) = true := by simp; exact fun e => he e.symm
        rw [if_neg he] at hV
        subst hV
        have HE := Lib.hid he
        clear he
        go_wp2
        go_quiet (fail)
        go_wp2
        go_ret2
        exact ⟨rfl, drewB hb3 _⟩
theorem sureOver_both (q f : Int) (L : List Qd) : ∃ v ok,
    (∀ (A : Option Addr) (cp : Nat) (w : World), RQ w w.heap.size A L → Calls Try.prog 33 #[.agg #[.int .i64 q, .int .i64 f, .slice A L.length cp]] w fun e w' => e = .returned (.tuple #[.int .i64 v, .bool ok]) ∧ Below w.heap.size w w') ∧
    (∀ (A : Option Addr) (cp : Nat) (w : World), RQ w w.heap.size A L → Calls Try.prog 34 #[.agg #[.int .i64 q, .int .i64 f, .slice A L.length cp]] w fun e w' => e = .returned (.tuple #[.int .i64 v, .bool ok]) ∧ Below w.heap.size w w') :=
  ⟨_, _, fun A cp w hL => specSureOver_any q f L A cp w hL, fun A cp w hL => implSureOver_any q f L A cp w hL⟩
end Go.Proofs.Ytjngiinfpoappaa

/-
  Tracks: the program's isThreatened.
-/
import Derived.Test.YtbheegdmamcgaabC7ze
import Derived.Test.YtbheegdmamcgaabC7u
namespace Go.Proofs.Ytbheegdmamcgaab
open Go.RowKit

/-- A slice that owns its row, its cells told at every index. -/
theorem own_cells {w : World} {base n s : Nat} {t : TypeId} {v : Value} {xs : List Value} (h : w.ownsRow base t s v n xs) (h0 : 0 < n) :
    ∃ g c, v = .slice (some ⟨g, 0, none⟩) n c ∧ base ≤ g ∧ g < w.heap.size ∧ ∀ i, i < n * s → w.cell? ⟨g, i, none⟩ = xs[i]? := by
  obtain ⟨_, ⟨rfl, hz⟩ | ⟨g, cap, cs, rfl, hg, hh, hn, _, hsz, htk⟩⟩ := h
  · omega
  · refine ⟨g, cap, rfl, hg, heap_lt hh, fun i hi => ?_⟩
    have : (cs.toList.take (n * s))[i]? = xs[i]? := by rw [htk]
    rw [List.getElem?_take_of_lt hi, Array.getElem?_toList] at this
    rw [cell_of_row w g _ cs t (0, 0) hh, this]

set_option maxRecDepth 100000 in
set_option maxHeartbeats 2000000 in
theorem isThreatened_any (g : Nat) (q f k : Int) (A : Option Addr) (c : Nat) (st sf : List Int) (w : World) (hR : RA w g 81 q f k A st.length c (safeB sf)) (hj : RI w w.heap.size A st) (F : Nat → Nat → Int) (a b : Nat) (h4 : 4 ≤ q) (h6 : q ≤ 60) (f1 : 1 ≤ f) (f8 : f ≤ 8) (hk : 1 ≤ k) (hk4 : k ≤ 4) (hn : st.length ≤ 4) (h0 : ∀ p (h : p < st.length), 0 ≤ st[p] ∧ st[p] < q)
    (ha : a < st.length) (hb : b < 4) (hF : ∀ o t, o < st.length → t < k.toNat → -1 ≤ F o t ∧ F o t ≤ q) :
    Calls Try.prog 64 #[.pointer (some ⟨g, 0, none⟩), .agg (standC F), .agg #[.int .i64 (a : Int), .int .i64 (b : Int)]] w fun e w' => e = .returned (.bool (thrB q f k st sf F a b)) ∧ Below w.heap.size w w' := by
  have hgw := hR.lt
  have hl := hj.1
  have z1 := zeroStand
  obtain ⟨K, hK⟩ := Int.eq_ofNat_of_zero_le (show 0 ≤ k by omega)
  obtain ⟨E, hE⟩ := Int.eq_ofNat_of_zero_le (show 0 ≤ f by omega)
  have hKt : k.toNat = K := by omega
  have hEt : f.toNat = E := by omega
  have hF' := fun o t h1 h2 => hF o t h1 (by rw [hKt]; exact h2)
  obtain ⟨C, hC⟩ : ∃ C : Nat → Nat → Nat → Bool, C = fun o t j => thr1 q f k st sf F a b o t j := ⟨_, rfl⟩
  have hB0 : thrB q f k st sf F a b = thrA C E (K * E) a st.length := by unfold thrB; rw [hKt, hEt, hC]
  have hC1 : ∀ o t j, C o t j = thr1 q f k st sf F a b o t j := fun o t j => by rw [hC]
  rw [hB0]
  have HC := Lib.hid hC1; have HF := Lib.hid hF'; have H0 := Lib.hid h0
  have HKt := Lib.hid hKt; have HEt := Lib.hid hEt
  have hKE : 1 ≤ K * E := Nat.mul_pos (by omega) (by omega)
  have hKE2 : K * E ≤ 4 * 8 := Nat.mul_le_mul (by omega) (by omega)
  obtain ⟨N, hN⟩ : ∃ N, N = K * E := ⟨_, rfl⟩
  rw [← hN] at hKE hKE2 ⊢
  have HN := Lib.hid hN
  clear hB0 hC hC1 hF hF' h0 hKt hEt hN
  have ia : (a : Int) < 4 := by omega
  have ib : (b : Int) < 4 := by omega
  have a4 : a < 4 := by omega
  go_enter Try.func64, Try.ntmps64
  have d3 := hR.c3
  go_wp2
  obtain ⟨W2, hW2⟩ : ∃ W2, W2 = (w.alloc (.cells (standC F) 84)).alloc (.cells #[.int .i64 (a : Int), .int .i64 (b : Int)] 90) := ⟨_, rfl⟩
  have hS2 : W2.heap.size = w.heap.size + 2 := by rw [hW2]; simp
  have hD2 : DA W2 w.heap.size 84 F := by rw [hW2]; exact (Below.heap_alloc _ _ _ (by simp)).trans (heap_alloc_at w _ _ rfl)
  have hP2 : W2.heap[w.heap.size + 1]? = some (.cells #[.int .i64 (a : Int), .int .i64 (b : Int)] 90 (0, 0)) := by rw [hW2]; exact heap_alloc_at _ _ _ (by simp)
  have hb2 : Below w.heap.size w W2 := by rw [hW2]; exact below2 _ _ _
  rw [← hW2]
  have HS2 := Lib.hid hS2
  clear hW2 hS2 d3
  go_loopw [7, 9, 10, 11, 12, 18] (fun _ _ _ _ _ i wr => ∃ o : Nat, o ≤ st.length ∧ i = .int .i64 o ∧ Below W2.heap.size W2 wr ∧ Hid (thrA C E N a o = false)) (fun _ _ _ _ _ i _ => st.length - (intOf i).toNat)
  case atStart => exact ⟨0, Nat.zero_le _, rfl, Below.refl _ _, Lib.hid rfl⟩
  case round =>
    obtain ⟨o, ho, rfl, hB, HA⟩ := hrel
    have Dr : DA wr w.heap.size 84 F := hD2.below hB hD2.lt
    have Pr : wr.heap[w.heap.size + 1]? = some (.cells #[.int .i64 (a : Int), .int .i64 (b : Int)] 90 (0, 0)) := (hB.block _ (heap_lt hP2)).trans hP2
    have hbw : Below w.heap.size w wr := hb2.trans (hB.mono hb2.size)
    have Rr := hR.below hbw hgw
    have qp := fun i => cell_of_row wr (w.heap.size + 1) i _ _ _ Pr
    by_cases hlt : o < st.length
    · by_cases hoa : o = a
      · subst hoa
        go_wp2
        go_roundw
        case rel => exact ⟨o + 1, by omega, by go_num, hB, Lib.hid (thrA_next HA.out (.inl rfl))⟩
        case measure => simp [intOf]; omega
      · have hne : ((o : Int) == (a : Int)) = false := beq_eq_false_iff_ne.2 (by omega)
        go_wp2_with fail
        refine (movesOf_any g q f k A st.length c (safeB sf) o wr Rr (by omega) f8 (by omega) hk4).mono ?_
        rintro e w5 ⟨v, rfl, hown, hx5⟩
        rw [HKt.out, HEt.out, ← HN.out] at hown
        obtain ⟨gv, cv, rfl, hgv, hgv5, hcells⟩ := own_cells hown hKE
        have hB5 := hB.trans (hx5.mono hB.size)
        have HCL := Lib.hid hcells
        clear hown hcells
        go_wp2_with fail
        go_loopw [9, 10, 11, 12, 29] (fun _ _ _ _ i wi => ∃ m : Nat, m ≤ N ∧ i = .int .i64 m ∧ Below w5.heap.size w5 wi ∧ Hid (thrO (C o) E m = false)) (fun _ _ _ _ i _ => N - (intOf i).toNat)
        case atStart => exact ⟨0, Nat.zero_le _, rfl, Below.refl _ _, Lib.hid rfl⟩
        case round =>
          clear Dr Pr hbw Rr qp
          obtain ⟨m, hm, rfl, hBi, HO⟩ := hrel
          have hBw := hB5.trans (hBi.mono hB5.size)
          have Dr : DA wr w.heap.size 84 F := hD2.below hBw hD2.lt
          have Pr : wr.heap[w.heap.size + 1]? = some (.cells #[.int .i64 (a : Int), .int .i64 (b : Int)] 90 (0, 0)) := (hBw.block _ (heap_lt hP2)).trans hP2
          have hbw : Below w.heap.size w wr := hb2.trans (hBw.mono hb2.size)
          have Rr := hR.below hbw hgw
          by_cases hml : m < N
          · have hmv := mvsC_at o E (M := K * E) (m := m) (by rw [← HN.out]; exact hml)
            rw [← HN.out] at hmv
            have l0 : wr.cell? ⟨gv, m * 3, none⟩ = some (.int .i64 (o : Int)) := (bcell hBi hgv5).trans ((HCL.out _ (by omega)).trans hmv.1)
            have l1 : wr.cell? ⟨gv, m * 3 + 1, none⟩ = some (.int .i64 ((m / E : Nat) : Int)) := (bcell hBi hgv5).trans ((HCL.out _ (by omega)).trans hmv.2.1)
            have l2 : wr.cell? ⟨gv, m * 3 + 2, none⟩ = some (.int .i64 (((m % E : Nat) : Int) + 1)) := (bcell hBi hgv5).trans ((HCL.out _ (by omega)).trans hmv.2.2)
            have hT : m / E < K := Nat.div_lt_of_lt_mul (by rw [Nat.mul_comm, ← HN.out]; exact hml)
            have hJ : m % E < E := Nat.mod_lt _ (by omega)
            have hsu : thrO (C o) E (m + 1) = (thrO (C o) E m || C o (m / E) (m % E)) := rfl
            rw [HO.out, Bool.false_or, HC.out] at hsu
            obtain ⟨T, hTe⟩ : ∃ T, T = m / E := ⟨_, rfl⟩
            obtain ⟨J, hJe⟩ : ∃ J, J = m % E := ⟨_, rfl⟩
            rw [← hTe] at l1 hT hsu
            rw [← hJe] at l2 hJ hsu
            have HSU := Lib.hid hsu
            have hx := HF.out o T hlt hT
            obtain ⟨r, hr⟩ : ∃ r, canB q f (F o T) ((J : Int) + 1) = r := ⟨_, rfl⟩
            obtain ⟨V, n, hv0, hv1⟩ : ∃ (V : Nat → Nat → Int) (n : Int), (r = false → V = F ∧ n = 0) ∧ (r = true → V = goF q k st sf F o T ((J : Int) + 1) ∧ n = ((goL q k st sf F o T ((J : Int) + 1)).length : Int)) := by
              cases r
              · exact ⟨_, _, fun _ => ⟨rfl, rfl⟩, fun h => by cases h⟩
              · exact ⟨_, _, fun h => (by cases h), fun _ => ⟨rfl, rfl⟩⟩
            obtain ⟨z, hz⟩ : ∃ z, (V a b != F a b) = z := ⟨_, rfl⟩
            have hz1 : thr1 q f k st sf F a b o T J = z := by
              rw [thr1, hr, ← hz]
              cases r
              · rw [(hv0 rfl).1]; simp
              · rw [(hv1 rfl).1]; rfl
            have HR := Lib.hid hr; have HV0 := Lib.hid hv0; have HV1 := Lib.hid hv1; have HZ := Lib.hid hz; have HZ1 := Lib.hid hz1
            have hgvn : gv < wr.heap.size := Nat.lt_of_lt_of_le hgv5 hBi.size
            have hKt4 : T < 4 := by omega
            clear hmv hsu hTe hJe hr hv0 hv1 hz hz1
            go_wp2_with (first | (refine wpList_load_row rfl 84 (.tmp 4) rfl w.heap.size rfl _ _ _ _ (Dr.alloc _) Try.underlying84 rfl ?_ ?_; (rw [stand_size]; exact sizeStand)))
            refine (behind_any g q f k A c st sf _ (Rr.alloc _) (hj.go (hbw.alloc hbw.size _)) F o T ((J : Int) + 1) h4 h6 hk hk4 hn H0.out hlt hKt4 hx.1 hx.2 (by omega) (by omega) V n r HR.out HV0.out HV1.out).mono ?_
            rintro e w6 ⟨rfl, hx6⟩
            have hBi6 : Below w5.heap.size w5 w6 := (hBi.alloc hBi.size _).trans (hx6.mono (by have := hBi.size; simp; omega))
            have D6 : DA w6 w.heap.size 84 F := (Dr.alloc _).below hx6 (Dr.alloc _).lt
            have P6 : w6.heap[w.heap.size + 1]? = some (.cells #[.int .i64 (a : Int), .int .i64 (b : Int)] 90 (0, 0)) := (hx6.block _ (by have := heap_lt Pr; simp; omega)).trans ((Below.heap_alloc _ _ _ (heap_lt Pr)).trans Pr)
            have hz6 := heap_lt P6
            clear l0 l1 l2 Dr Pr Rr
            go_wp2_with (first | (refine wpList_store_row rfl 84 (.tmp 10) _ rfl w6.heap.size rfl _ _ (standC V) rfl (heap_alloc_at w6 _ _ rfl) ?_ ?_ (stand_one _) ?_; (simp only [stand_size]); (rw [stand_size]; exact sizeStand); intro w7 hC7 hg7 hs7; clear hs7; have N7 : DA w7 w6.heap.size 84 V := hC7; have D7 : DA w7 w.heap.size 84 F := (hg7.block _ (by simp; omega) (by simp; omega)).trans ((Below.heap_alloc _ _ _ D6.lt).trans D6); have P7 : w7.heap[w.heap.size + 1]? = some (.cells #[.int .i64 (a : Int), .int .i64 (b : Int)] 90 (0, 0)) := (hg7.block _ (by simp; omega) (by simp; omega)).trans ((Below.heap_alloc _ _ _ hz6).trans P6); have dn := N7.at_ a4 hb; have dd := D7.at_ a4 hb; have qp := fun i => cell_of_row w7 (w.heap.size + 1) i _ _ _ P7))
            have hBi7 : Below w5.heap.size w5 w7 := (hBi6.alloc hBi6.size _).grown hg7 (by have := hBi6.size; simp; omega) (fun i h => by injection h with h; have := hBi6.size; omega)
            obtain ⟨y, hy⟩ : ∃ y, y = V a b := ⟨_, rfl⟩
            obtain ⟨x, hxx⟩ : ∃ x, x = F a b := ⟨_, rfl⟩
            have hyx : (y != x) = z := by rw [hy, hxx]; exact HZ.out
            rw [← hy] at dn
            rw [← hxx] at dd
            clear hy hxx N7 D7 P7 hg7 hC7
            go_quiet (fail)
            cases z
            · go_wp2
              go_roundw
              case rel => exact ⟨m + 1, by omega, by go_num, drewB hBi7 _, Lib.hid (by rw [HSU.out, HZ1.out])⟩
              case measure => simp [intOf]; omega
            · have hend : thrA C E N a st.length = true := thrA_hit (m := m + 1) hoa (by omega) hlt (by rw [HSU.out, HZ1.out])
              have HE := Lib.hid hend
              clear hend
              go_wp2
              go_ret
              exact ⟨ret_bool HE.out.symm, drewB (hb2.trans ((hB5.trans (hBi7.mono hB5.size)).mono hb2.size)) _⟩
          · obtain rfl : m = N := by omega
            go_wp2
            go_roundw
            case rel => exact ⟨o + 1, by omega, by go_num, hBw, Lib.hid (thrA_next HA.out (.inr HO.out))⟩
            case measure => simp [intOf]; omega
    · obtain rfl : o = st.length := by omega
      go_wp2
      go_ret
      exact ⟨ret_bool HA.out.symm, hbw⟩
end Go.Proofs.Ytbheegdmamcgaab

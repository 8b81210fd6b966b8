/-
  Puzzles: BestClue on both sides.
-/
import Derived.Test.YtjngiinfpoappaaC9y
import Derived.StillTailTactics
namespace Go.Proofs.Ytjngiinfpoappaa
open Go.RowKit

noncomputable def bestR (q f : Int) (L : List Qd) : Int × Bool := if pzB q f L then (((bestC q f q.toNat L L.length).1 : Int), decide (0 < L.length)) else (0, false)
theorem bestR_no {q f : Int} {L : List Qd} (h : pzB q f L = false) : bestR q f L = (0, false) := by rw [bestR, h]; rfl
theorem bestR_yes {S : Nat} {f : Int} {L : List Qd} (h : pzB (S : Int) f L = true) : bestR (S : Int) f L = (((bestC (S : Int) f S L L.length).1 : Int), decide (0 < L.length)) := by rw [bestR, h]; rfl

set_option maxRecDepth 100000 in
set_option maxHeartbeats 2000000 in
theorem specBestClue_any (q f : Int) (L : List Qd) (A : Option Addr) (cp : Nat) (w : World) (hL : RQ w w.heap.size A L) (hc : L.length ≤ cp) : Calls Try.prog 44 #[.agg #[.int .i64 q, .int .i64 f, .slice A L.length cp]] w fun e w' => e = .returned (.tuple #[.int .i64 (bestR q f L).1, .bool (bestR q f L).2]) ∧ Below w.heap.size w w' := by
  have hl := hL.1
  cases h : pzB q f L
  · rw [bestR_no h]
    have H := Lib.hid h
    clear h
    go_enter Try.func44, Try.ntmps44
    go_wp2_with fail
    refine (pzGood_any q f A cp L _ (hL.go (below1 _ _))).mono ?_
    rintro e w2 ⟨rfl, hx⟩
    rw [H.out]
    go_wp2
    go_ret2
    exact ⟨rfl, (below1 w _).trans (hx.mono (by simp))⟩
  · have hl6 := (pzB_parts h).2.2.1
    obtain ⟨S, rfl, hS, hf, hq⟩ := pz_yes h
    rw [bestR_yes h]
    obtain ⟨V, hV⟩ : ∃ V : Int × Bool, V = (((bestC (S : Int) f S L L.length).1 : Int), decide (0 < L.length)) := ⟨_, rfl⟩
    rw [← hV]
    have HQ := Lib.hid hq; have H := Lib.hid h; have HV := Lib.hid hV
    clear h hq hV
    go_enter Try.func44, Try.ntmps44
    go_wp2_with fail
    refine (pzGood_any (S : Int) f A cp L _ (hL.go (below1 _ _))).mono ?_
    rintro e w2 ⟨rfl, hx⟩
    rw [H.out]
    have hb := (below1 w _).trans (hx.mono (by simp))
    have hb1 := box_on (Below.refl _ _) hx (by simp)
    have qq := boxcells hb1
    clear hx
    by_cases h0 : L.length = 0
    · have hV := HV.out
      rw [h0] at hV
      obtain rfl : V = (0, false) := hV
      have hz : ((L.length : Int) == 0) = true := by simp [h0]
      have H0 := Lib.hid h0
      clear h0
      go_wp2
      go_ret2
      exact ⟨rfl, hb⟩
    · have hz : ((L.length : Int) == 0) = false := beq_eq_false_iff_ne.2 (by omega)
      go_wp2
      clear qq
      go_loopw [4, 5, 20] (fun x y i wr => ∃ k : Nat, k ≤ L.length ∧ i = .int .i64 k ∧ x = .int .i64 ((bestC (S : Int) f S L k).1 : Int) ∧ y = .int .i64 ((bestC (S : Int) f S L k).2 : Int) ∧ Below (w.heap.size + 1) (w.alloc (.cells #[.int .i64 (S : Int), .int .i64 f, .slice A L.length cp] 34)) wr) (fun _ _ i _ => L.length - (intOf i).toNat)
      case atStart => exact ⟨0, Nat.zero_le _, rfl, rfl, rfl, hb1⟩
      case round =>
        clear hb1 hb
        obtain ⟨k, hk, rfl, rfl, rfl, hb1⟩ := hrel
        have hbw : Below w.heap.size w wr := (below1 _ _).trans (hb1.mono (by omega))
        have qq := boxcells hb1
        have hsz : w.heap.size + 1 ≤ wr.heap.size := by have := hb1.size; simpa using this
        by_cases hlt : k < L.length
        · obtain ⟨b, off, rfl, _, _⟩ := hL.at_ (Below.refl _ _) hlt
          have h1 : (k : Int) < (L.length : Int) := by omega
          have i1 : (k : Int) + 1 ≤ (cp : Int) := by omega
          have i2 : (k : Int) ≤ (cp : Int) := by omega
          have i3 : (0 : Int) ≤ (k : Int) + 1 := by omega
          have i4 : k ≤ cp := by omega
          have i5 : IntKind.i64.wrap ((k : Int) + 1) = (k : Int) + 1 := IntWalk.i64_in _ (by omega)
          have i6 : ¬ cp = k := by omega
          have i7 : (k : Int) ≤ (k : Int) + 1 := by omega
          have hT : RQ w w.heap.size (some ⟨b, off + k * 4, none⟩) ((L.drop k).take 1) := hL.part rfl k 1 (by omega)
          have hTl : ((L.drop k).take 1).length = 1 := by simp; omega
          have hTq : ∀ q ∈ (L.drop k).take 1, clQ (S : Int) f q = true := fun q hq => HQ.out q (List.mem_of_mem_drop (List.mem_of_mem_take hq))
          have hN : oneN (S : Int) f S L k = (keepL (oversL (S : Int) f S 3) ((L.drop k).take 1)).length := rfl
          have hkl := keepL_len S f ((L.drop k).take 1) hS.2
          have hBS : bestC (S : Int) f S L (k + 1) = if k = 0 ∨ oneN (S : Int) f S L k < (bestC (S : Int) f S L k).2 then (k, oneN (S : Int) f S L k) else bestC (S : Int) f S L k := rfl
          have hb0 := bestC_lt (S : Int) f S L k
          rw [← hN] at hkl
          obtain ⟨N, hNe⟩ : ∃ N, N = oneN (S : Int) f S L k := ⟨_, rfl⟩
          rw [← hNe] at hN hkl hBS
          obtain ⟨⟨bx, bz⟩, hB⟩ : ∃ B, B = bestC (S : Int) f S L k := ⟨_, rfl⟩
          rw [← hB] at hBS hb0 ⊢
          dsimp only at hBS hb0 ⊢
          have HN := Lib.hid hN; have HBS := Lib.hid hBS; have HT := Lib.hid hT; have HTL := Lib.hid hTl; have HTQ := Lib.hid hTq
          clear hN hBS hT hTl hTq hNe hB
          go_wp2
          go_still_tail 7, (by kernel_rfl)
          change wpList _ _ _ _ _ wr.drew
          go_wp2_with fail
          refine (pzAll_n S f (some ⟨b, off, none⟩) (some ⟨b, off + k * 4, none⟩) L.length cp (cp - k) 1 ((L.drop k).take 1) wr.drew HTL.out hS hf (HT.out.go hbw.drew) HTQ.out).mono ?_
          rintro e w5 ⟨v5, rfl, hO5, hx5⟩
          obtain ⟨A5, c5, rfl, _⟩ := hO5.slice
          rw [← HN.out]
          have hx5' : Below wr.heap.size wr w5 := (Below.refl _ wr).drew.trans hx5
          have hb5 := box_on hb1 hx5' hsz
          clear hO5 hx5 hx5' hb1 qq
          by_cases hz0 : k = 0
          · have hz1 : ((k : Int) == 0) = true := by simp [hz0]
            have hbs := HBS.out
            rw [if_pos (.inl hz0)] at hbs
            have HB' := Lib.hid hbs; have HZ := Lib.hid hz0
            clear hbs hz0
            go_wp2
            go_roundw
            case rel => exact ⟨k + 1, by omega, by go_num, by rw [HB'.out], by rw [HB'.out], hb5⟩
            case measure => simp [intOf]; omega
          · have hz1 : ((k : Int) == 0) = false := beq_eq_false_iff_ne.2 (by omega)
            by_cases hn : N < bz
            · have hn1 : (N : Int) < (bz : Int) := by omega
              have hbs := HBS.out
              rw [if_pos (.inr hn)] at hbs
              have HB' := Lib.hid hbs; have HZ := Lib.hid hz0
              clear hbs hz0
              go_wp2
              go_roundw
              case rel => exact ⟨k + 1, by omega, by go_num, by rw [HB'.out], by rw [HB'.out], hb5⟩
              case measure => simp [intOf]; omega
            · have hn1 : ¬ (N : Int) < (bz : Int) := by omega
              have hbs := HBS.out
              rw [if_neg (by omega)] at hbs
              have HB' := Lib.hid hbs; have HZ := Lib.hid hz0
              clear hbs hz0
              go_wp2
              go_roundw
              case rel => exact ⟨k + 1, by omega, by go_num, by rw [HB'.out], by rw [HB'.out], hb5⟩
              case measure => simp [intOf]; omega
        · obtain rfl : k = L.length := by omega
          have h1 : ¬ (L.length : Int) < (L.length : Int) := by omega
          have hV := HV.out
          rw [decide_eq_true (show 0 < L.length by omega)] at hV
          subst hV
          have hb0 := bestC_lt (S : Int) f S L L.length
          go_wp2
          go_ret2
          exact ⟨rfl, hbw⟩

set_option maxRecDepth 100000 in
set_option maxHeartbeats 2000000 in
theorem implBestClue_any (q f : Int) (L : List Qd) (A : Option Addr) (cp : Nat) (w : World) (hL : RQ w w.heap.size A L) (hc : L.length ≤ cp) : Calls Try.prog 45 #[.agg #[.int .i64 q, .int .i64 f, .slice A L.length cp]] w fun e w' => e = .returned (.tuple #[.int .i64 (bestR q f L).1, .bool (bestR q f L).2]) ∧ Below w.heap.size w w' := by
  have hl := hL.1
  cases h : pzB q f L
  · rw [bestR_no h]
    have H := Lib.hid h
    clear h
    go_enter Try.func45, Try.ntmps45
    go_wp2_with fail
    refine (hiddenOf_no q f A cp L _ (hL.go (below1 _ _)) H.out).mono ?_
    rintro e w2 ⟨rfl, hx⟩
    have hb := (below1 w _).trans (hx.mono (by simp))
    go_wp2
    go_ret2
    exact ⟨rfl, hb.alloc hb.size _⟩
  · have hl6 := (pzB_parts h).2.2.1
    obtain ⟨S, rfl, hS, hf, hq⟩ := pz_yes h
    rw [bestR_yes h]
    obtain ⟨V, hV⟩ : ∃ V : Int × Bool, V = (((bestC (S : Int) f S L L.length).1 : Int), decide (0 < L.length)) := ⟨_, rfl⟩
    rw [← hV]
    have HQ := Lib.hid hq; have H := Lib.hid h; have HV := Lib.hid hV
    clear h hq hV
    go_enter Try.func45, Try.ntmps45
    go_wp2_with fail
    refine (hiddenOf_yes (S : Int) f A cp L _ (hL.go (below1 _ _)) H.out).mono ?_
    rintro e w2 ⟨rfl, hx⟩
    have hb := (below1 w _).trans (hx.mono (by simp))
    have hs2 : w.heap.size < w2.heap.size := by have := hx.size; simp at this; omega
    have k1 := (hx.block w.heap.size (by simp)).trans (heap_alloc_at w (.cells #[.int .i64 (S : Int), .int .i64 f, .slice A L.length cp] 34) _ rfl)
    obtain ⟨w3, hw3⟩ : ∃ w3, w3 = w2.alloc (.cells #[.int .i64 (S : Int), .int .i64 f] 79) := ⟨_, rfl⟩
    have kp : w3.heap[w.heap.size]? = some (.cells #[.int .i64 (S : Int), .int .i64 f, .slice A L.length cp] 34 (0, 0)) := by rw [hw3]; exact (Below.heap_alloc _ _ _ hs2).trans k1
    have kh : w3.heap[w2.heap.size]? = some (.cells #[.int .i64 (S : Int), .int .i64 f] 79 (0, 0)) := by rw [hw3]; exact heap_alloc_at w2 (.cells #[.int .i64 (S : Int), .int .i64 f] 79) _ rfl
    have hb3 : Below w.heap.size w w3 := by rw [hw3]; exact hb.alloc hb.size _
    have hs3 : w3.heap.size = w2.heap.size + 1 := by rw [hw3]; simp
    have q2 := fun i => cell_of_row w2 w.heap.size i _ _ _ k1
    clear k1 hx
    go_wp2
    rw [← hw3]
    have HKP := Lib.hid kp; have HKH := Lib.hid kh
    clear kp kh hw3 q2
    go_loopw [6, 7, 8, 21] (fun x y z i wr => ∃ (k : Nat) (fo : Bool), k ≤ L.length ∧ i = .int .i64 k ∧ x = .int .i64 ((bestC (S : Int) f S L k).1 : Int) ∧ y = .int .i64 ((bestC (S : Int) f S L k).2 : Int) ∧ z = .bool fo ∧ Hid (fo = decide (0 < k)) ∧ Below w3.heap.size w3 wr) (fun _ _ _ i _ => L.length - (intOf i).toNat)
    case atStart => exact ⟨0, false, Nat.zero_le _, rfl, rfl, rfl, rfl, Lib.hid rfl, Below.refl _ _⟩
    case round =>
      obtain ⟨k, fo, hk, rfl, rfl, rfl, rfl, hfo, hb1⟩ := hrel
      have hbw : Below w.heap.size w wr := hb3.trans (hb1.mono hb3.size)
      have hsz := hb1.size
      have qp := fun i => cell_of_row wr w.heap.size i _ _ _ ((hb1.block _ (by omega)).trans HKP.out)
      have qh := fun i => cell_of_row wr w2.heap.size i _ _ _ ((hb1.block _ (by omega)).trans HKH.out)
      by_cases hlt : k < L.length
      · obtain ⟨b, off, rfl, _, _⟩ := hL.at_ (Below.refl _ _) hlt
        have h1 : (k : Int) < (L.length : Int) := by omega
        have i1 : (k : Int) + 1 ≤ (cp : Int) := by omega
        have i2 : (k : Int) ≤ (cp : Int) := by omega
        have i3 : (0 : Int) ≤ (k : Int) + 1 := by omega
        have i4 : k ≤ cp := by omega
        have i5 : IntKind.i64.wrap ((k : Int) + 1) = (k : Int) + 1 := IntWalk.i64_in _ (by omega)
        have i6 : ¬ cp = k := by omega
        have i7 : (k : Int) ≤ (k : Int) + 1 := by omega
        have hT : RQ w w.heap.size (some ⟨b, off + k * 4, none⟩) ((L.drop k).take 1) := hL.part rfl k 1 (by omega)
        have hTl : ((L.drop k).take 1).length = 1 := by simp; omega
        have hTq : ∀ q ∈ (L.drop k).take 1, clQ (S : Int) f q = true := fun q hq => HQ.out q (List.mem_of_mem_drop (List.mem_of_mem_take hq))
        have hN : oneN (S : Int) f S L k = (keepL (oversL (S : Int) f S 3) ((L.drop k).take 1)).length := rfl
        have hkl := keepL_len S f ((L.drop k).take 1) hS.2
        have hBS : bestC (S : Int) f S L (k + 1) = if k = 0 ∨ oneN (S : Int) f S L k < (bestC (S : Int) f S L k).2 then (k, oneN (S : Int) f S L k) else bestC (S : Int) f S L k := rfl
        have hb0 := bestC_lt (S : Int) f S L k
        rw [← hN] at hkl
        obtain ⟨N, hNe⟩ : ∃ N, N = oneN (S : Int) f S L k := ⟨_, rfl⟩
        rw [← hNe] at hN hkl hBS
        obtain ⟨⟨bx, bz⟩, hB⟩ : ∃ B, B = bestC (S : Int) f S L k := ⟨_, rfl⟩
        rw [← hB] at hBS hb0 ⊢
        dsimp only at hBS hb0 ⊢
        have HN := Lib.hid hN; have HBS := Lib.hid hBS; have HT := Lib.hid hT; have HTL := Lib.hid hTl; have HTQ := Lib.hid hTq
        clear hN hBS hT hTl hTq hNe hB
        go_wp2
        go_still_tail 9, (by kernel_rfl)
        change wpList _ _ _ _ _ wr.drew
        go_wp2_with fail
        refine (count_n S f (some ⟨b, off + k * 4, none⟩) 1 1 ((L.drop k).take 1) wr.drew HTL.out hS hf (HT.out.go hbw.drew) HTQ.out).mono ?_
        rintro e w5 ⟨rfl, hx5⟩
        rw [← HN.out]
        have hx5' : Below wr.heap.size wr w5 := (Below.refl _ wr).drew.trans hx5
        have hb5 := hb1.trans (hx5'.mono hsz)
        clear hx5 hx5' hb1 qp qh
        by_cases hz0 : k = 0
        · obtain rfl : fo = false := by rw [hfo.out, hz0]; rfl
          have hbs := HBS.out
          rw [if_pos (.inl hz0)] at hbs
          have HB' := Lib.hid hbs; have HZ := Lib.hid hz0
          clear hbs hz0
          go_wp2
          go_roundw
          case rel => exact ⟨k + 1, true, by omega, by go_num, by rw [HB'.out], by rw [HB'.out], rfl, Lib.hid (by simp), hb5⟩
          case measure => simp [intOf]; omega
        · obtain rfl : fo = true := by rw [hfo.out]; exact decide_eq_true (by omega)
          by_cases hn : N < bz
          · have hn1 : (N : Int) < (bz : Int) := by omega
            have hbs := HBS.out
            rw [if_pos (.inr hn)] at hbs
            have HB' := Lib.hid hbs; have HZ := Lib.hid hz0
            clear hbs hz0
            go_wp2
            go_roundw
            case rel => exact ⟨k + 1, true, by omega, by go_num, by rw [HB'.out], by rw [HB'.out], rfl, Lib.hid (by simp), hb5⟩
            case measure => simp [intOf]; omega
          · have hn1 : ¬ (N : Int) < (bz : Int) := by omega
            have hbs := HBS.out
            rw [if_neg (by omega)] at hbs
            have HB' := Lib.hid hbs; have HZ := Lib.hid hz0
            clear hbs hz0
            go_wp2
            go_roundw
            case rel => exact ⟨k + 1, true, by omega, by go_num, by rw [HB'.out], by rw [HB'.out], rfl, Lib.hid (by simp), hb5⟩
            case measure => simp [intOf]; omega
      · obtain rfl : k = L.length := by omega
        have h1 : ¬ (L.length : Int) < (L.length : Int) := by omega
        have hV := HV.out
        rw [← hfo.out] at hV
        subst hV
        have hb0 := bestC_lt (S : Int) f S L L.length
        go_wp2
        go_ret2
        exact ⟨rfl, hbw⟩
theorem bestClue_both (q f : Int) (L : List Qd) : ∃ v ok,
    (∀ (A : Option Addr) (cp : Nat) (w : World), RQ w w.heap.size A L → L.length ≤ cp → Calls Try.prog 44 #[.agg #[.int .i64 q, .int .i64 f, .slice A L.length cp]] w fun e w' => e = .returned (.tuple #[.int .i64 v, .bool ok]) ∧ Below w.heap.size w w') ∧
    (∀ (A : Option Addr) (cp : Nat) (w : World), RQ w w.heap.size A L → L.length ≤ cp → Calls Try.prog 45 #[.agg #[.int .i64 q, .int .i64 f, .slice A L.length cp]] w fun e w' => e = .returned (.tuple #[.int .i64 v, .bool ok]) ∧ Below w.heap.size w w') :=
  ⟨_, _, fun A cp w hL hc => specBestClue_any q f L A cp w hL hc, fun A cp w hL hc => implBestClue_any q f L A cp w hL hc⟩
end Go.Proofs.Ytjngiinfpoappaa

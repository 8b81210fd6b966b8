/-
  BestLadder, the model's.
-/
import Derived.Test.YtndodohngeaklaaC1ao
import Derived.Test.YtndodohngeaklaaC1n
namespace Go.Proofs.Ytndodohngeaklaa
open Go.RowKit

set_option maxRecDepth 100000 in
theorem specBestLadder_no (s f o : Int) (A : Option Addr) (c : Nat) (js : List (Int × Int)) (w : World) (hj : RJ w w.heap.size A js) (hgd : good ⟨s, f, o, js⟩ = false) :
    Calls Try.prog 23 #[.agg #[.int .i64 s, .int .i64 f, .int .i64 o, .slice A js.length c]] w (LadIs w none) := by
  have hl := hj.1
  have HG := Lib.hid hgd; clear hgd
  go_enter Try.func23, Try.ntmps23
  go_wp2_with fail
  refine (sqGood_any _ _ _ _ _ _ _ (hj.go (below2 _ _ _))).mono ?_
  rintro e w2 ⟨rfl, hx⟩
  rw [HG.out]
  have hs2 := hx.size
  simp only [World.size_alloc] at hs2
  have kR := (hx.block (w.heap.size + 1) (by simp)).trans (heap_alloc_at _ _ _ (by simp))
  have hb := (below2 w _ _).trans (hx.mono (by simp; omega))
  have qR := fun i => cell_of_row w2 (w.heap.size + 1) i _ _ _ kR
  have fR := fun i => frozen_row (i := i) kR
  go_wp2
  exact bodyPost_ret (v := .tuple #[.agg #[.int .i64 0, .int .i64 0], .int .i64 0, .bool false]) (by simp [results, Try.results23, go_sem, qR]) rfl ⟨rfl, (hb.setCell (by dsimp only; omega) _).setCell (by dsimp only; omega) _⟩

set_option maxRecDepth 100000 in
theorem specBestLadder_full (s f o : Int) (A : Option Addr) (c : Nat) (js : List (Int × Int)) (w : World) (hj : RJ w w.heap.size A js) (hgd : good ⟨s, f, o, js⟩ = true) (h20 : ¬ js.length < 20) :
    Calls Try.prog 23 #[.agg #[.int .i64 s, .int .i64 f, .int .i64 o, .slice A js.length c]] w (LadIs w none) := by
  have hl := hj.1
  have hz := good_sizes hgd
  have h2 : ((js.length : Int) == 20) = true := by rw [beq_iff_eq]; omega
  have HG := Lib.hid hgd; clear hgd
  go_enter Try.func23, Try.ntmps23
  go_wp2_with fail
  refine (sqGood_any _ _ _ _ _ _ _ (hj.go (below2 _ _ _))).mono ?_
  rintro e w2 ⟨rfl, hx⟩
  rw [HG.out]
  have hs2 := hx.size
  simp only [World.size_alloc] at hs2
  have kB := (hx.block w.heap.size (by simp; omega)).trans ((Below.heap_alloc _ _ _ (by simp)).trans (heap_alloc_at _ _ _ rfl))
  have kR := (hx.block (w.heap.size + 1) (by simp)).trans (heap_alloc_at _ _ _ (by simp))
  have hb := (below2 w _ _).trans (hx.mono (by simp; omega))
  have qB := fun i => cell_of_row w2 w.heap.size i _ _ _ kB
  have qR := fun i => cell_of_row w2 (w.heap.size + 1) i _ _ _ kR
  have fR := fun i => frozen_row (i := i) kR
  go_wp2
  exact bodyPost_ret (v := .tuple #[.agg #[.int .i64 0, .int .i64 0], .int .i64 0, .bool false]) (by simp [results, Try.results23, go_sem, qR]) rfl ⟨rfl, (hb.setCell (by dsimp only; omega) _).setCell (by dsimp only; omega) _⟩

set_option maxRecDepth 100000 in
set_option maxHeartbeats 4000000 in
theorem specBestLadder_some (s f o : Int) (bb off c : Nat) (js : List (Int × Int)) (V : Int × Int → Option Nat) (w : World) (hj : RJ w w.heap.size (some ⟨bb, off, none⟩) js) (hc : js.length ≤ c) (hgd : good ⟨s, f, o, js⟩ = true) (h20 : js.length < 20) (hV : ValOf s f o js V) :
    Calls Try.prog 23 #[.agg #[.int .i64 s, .int .i64 f, .int .i64 o, .slice (some ⟨bb, off, none⟩) js.length c]] w (LadIs w (bst V (rowsL (mayPut s f o js) s.toNat (s.toNat - 1)))) := by
  have hl := hj.1
  have hz := good_sizes hgd
  have h2 : ((js.length : Int) == 20) = false := by rw [beq_eq_false_iff_ne]; omega
  have HG := Lib.hid hgd; have HV := Lib.hid hV; clear hgd hV
  go_enter Try.func23, Try.ntmps23
  go_wp2_with fail
  refine (sqGood_any _ _ _ _ _ _ _ (hj.go (below2 _ _ _))).mono ?_
  rintro e w1 ⟨rfl, hx⟩
  rw [HG.out]
  have hs1 := hx.size
  simp only [World.size_alloc] at hs1
  obtain ⟨W, hW⟩ : ∃ W, W = w1.alloc (.cells #[.int .i64 0, .int .i64 0] 38) := ⟨_, rfl⟩
  have kB1 := (hx.block w.heap.size (by simp; omega)).trans ((Below.heap_alloc _ _ _ (by simp)).trans (heap_alloc_at _ _ _ rfl))
  have kR1 := (hx.block (w.heap.size + 1) (by simp)).trans (heap_alloc_at _ _ _ (by simp))
  have D1 := (below2 w _ _).trans (hx.mono (by simp; omega))
  have qB1 := fun i => cell_of_row w1 w.heap.size i _ _ _ kB1
  have kB := (Below.heap_alloc w1 (.cells #[.int .i64 0, .int .i64 0] 38) _ (heap_lt kB1)).trans kB1
  have kR := (Below.heap_alloc w1 (.cells #[.int .i64 0, .int .i64 0] 38) _ (heap_lt kR1)).trans kR1
  have kJ : (w1.alloc (.cells #[.int .i64 0, .int .i64 0] 38)).heap[w1.heap.size]? = some (.cells #[.int .i64 0, .int .i64 0] 38 (0, 0)) := heap_alloc_at _ _ _ rfl
  have D := D1.alloc D1.size (.cells #[.int .i64 0, .int .i64 0] 38)
  obtain ⟨S, hS0, hS⟩ : ∃ S : Nat, s.toNat = S ∧ s = (S : Int) := ⟨s.toNat, rfl, by omega⟩
  have HS0 := Lib.hid hS0
  have hS100 : 1 ≤ S ∧ S ≤ 100 := by omega
  have HS := Lib.hid hS
  rw [hS0]
  clear hS hS0 hx kB1 kR1 D1 hW
  go_wp2_with fail
  clear qB1
  go_loopw [6, 7, 8, 9, 10] (fun l fr _ _ _ wr => ∃ (n : Nat) (st : Option ((Int × Int) × Nat)), n ≤ S - 1 ∧ fr = .int .i64 ((n : Int) + 1) ∧ bst V (rowsL (mayPut s f o js) S n) = st ∧ l = .int .i64 (stL st) ∧ Below w.heap.size w wr ∧ wr.heap[w.heap.size]? = some (.cells #[.int .i64 s, .int .i64 f, .int .i64 o, .slice (some ⟨bb, off, none⟩) js.length c] 30 (0, 0)) ∧ wr.heap[w.heap.size + 1]? = some (.cells #[.int .i64 0, .int .i64 0] 38 (0, 0)) ∧ wr.heap[w1.heap.size]? = some (.cells #[.int .i64 (stP st).1, .int .i64 (stP st).2] 38 (0, 0))) (fun _ fr _ _ _ _ => S - (intOf fr).toNat)
  case atStart => exact ⟨0, none, Nat.zero_le _, rfl, rfl, rfl, D, kB, kR, kJ⟩
  case round =>
    clear D kB kR kJ
    obtain ⟨n, st, hn, rfl, hst, rfl, D, kB, kR, kJ⟩ := hrel
    have HST := Lib.hid hst; clear hst
    have hDs := D.size
    have qB := fun i => cell_of_row wr w.heap.size i _ _ _ kB
    by_cases hln : n < S - 1
    · have h4 : (n : Int) + 1 < s := by have := HS.out; omega
      go_wp2
      go_loopw [6, 8, 9, 10] (fun l to _ _ wi => ∃ (t : Nat) (st : Option ((Int × Int) × Nat)), t ≤ S - (n + 1) ∧ to = .int .i64 ((n : Int) + 1 + 1 + (t : Int)) ∧ bst V (rowsL (mayPut s f o js) S n ++ rowL (mayPut s f o js) (n + 1) t) = st ∧ l = .int .i64 (stL st) ∧ Below w.heap.size w wi ∧ wi.heap[w.heap.size]? = some (.cells #[.int .i64 s, .int .i64 f, .int .i64 o, .slice (some ⟨bb, off, none⟩) js.length c] 30 (0, 0)) ∧ wi.heap[w.heap.size + 1]? = some (.cells #[.int .i64 0, .int .i64 0] 38 (0, 0)) ∧ wi.heap[w1.heap.size]? = some (.cells #[.int .i64 (stP st).1, .int .i64 (stP st).2] 38 (0, 0))) (fun _ to _ _ _ => S + 1 - (intOf to).toNat)
      case atStart => exact ⟨0, st, Nat.zero_le _, by go_num, by rw [rowL_zero, List.append_nil]; exact HST.out, rfl, D, kB, kR, kJ⟩
      case round =>
        clear D kB kR kJ qB HST hDs
        obtain ⟨t, st, ht, rfl, hst, rfl, D, kB, kR, kJ⟩ := hrel
        have HST := Lib.hid hst; clear hst
        have hDs := D.size
        have hBs := heap_lt kB; have hRs := heap_lt kR; have hJs := heap_lt kJ
        have qB := fun i => cell_of_row wr w.heap.size i _ _ _ kB
        by_cases hlt : t < S - (n + 1)
        · have h5 : (n : Int) + 1 + 1 + (t : Int) ≤ s := by have := HS.out; omega
          have hcn : ((n + 1 : Nat) : Int) = (n : Int) + 1 := by omega
          obtain ⟨a, hna⟩ : ∃ a : Int, a = (n : Int) + 1 := ⟨_, rfl⟩
          obtain ⟨b, hnb⟩ : ∃ b : Int, b = (n : Int) + 1 + 1 + (t : Int) := ⟨_, rfl⟩
          have hwf := wfJ_put (a := (n : Int) + 1) (b := (n : Int) + 1 + 1 + (t : Int)) hj.2.1 (wfi_of (by omega) (by omega)) (wfi_of (by omega) (by omega))
          have HL := Lib.hid (put_len js ((n : Int) + 1, (n : Int) + 1 + 1 + (t : Int)))
          have hrow := rowL_succ (mayPut s f o js) (n + 1) t
          rw [hcn] at hrow
          have HROW := Lib.hid hrow
          clear hrow hcn hna hnb
          go_wp2_with fail
          refine (sqWith_some s f o _ _ bb off c js _ (hj.later D D.size) hc (by omega)).mono ?_
          rintro e w4 ⟨v, rfl, ho4, hx4⟩
          obtain ⟨A4, c4, rfl⟩ := own_sl ho4
          have hs4 := hx4.size
          have ho5 := ho4.alloc (.cells #[.int .i64 s, .int .i64 f, .int .i64 o, .slice A4 (js.length + 1) c4] 30)
          have b5 := hx4.alloc hs4 (.cells #[.int .i64 s, .int .i64 f, .int .i64 o, .slice A4 (js.length + 1) c4] 30)
          have kO5 : (w4.alloc (.cells #[.int .i64 s, .int .i64 f, .int .i64 o, .slice A4 (js.length + 1) c4] 30)).heap[w4.heap.size]? = some (.cells #[.int .i64 s, .int .i64 f, .int .i64 o, .slice A4 (js.length + 1) c4] 30 (0, 0)) := heap_alloc_at _ _ _ rfl
          have hR := (own_row ho5 HL.out).rjl HL.out (by have := HL.out; omega) hwf
          have hcon := sqGood_any s f o A4 c4 (put js ((n : Int) + 1, (n : Int) + 1 + 1 + (t : Int))) _ hR
          rw [HL.out] at hcon
          clear qB
          go_wp2_with fail
          refine hcon.mono ?_
          rintro e w6 ⟨rfl, hx6⟩
          have b6 := b5.trans (hx6.mono b5.size)
          have kO6 := (hx6.block _ (heap_lt kO5)).trans kO5
          have qO6 := fun i => cell_of_row w6 w4.heap.size i _ _ _ kO6
          have ho6 := own_below ho5 hx6
          clear hcon hR ho4 ho5 kO5 hx4 hx6 b5
          cases hP : good ⟨s, f, o, put js ((n : Int) + 1, (n : Int) + 1 + 1 + (t : Int))⟩
          · have HR := Lib.hid (show bst V (rowsL (mayPut s f o js) S n ++ rowL (mayPut s f o js) (n + 1) (t + 1)) = st by
              rw [HROW.out, mayPut, hP]; simpa using HST.out)
            clear hP
            go_wp2
            go_roundw
            case rel => exact ⟨t + 1, st, by omega, by go_num, HR.out, rfl, D.trans (b6.mono hDs), (b6.block _ hBs).trans kB, (b6.block _ hRs).trans kR, (b6.block _ hJs).trans kJ⟩
            case measure => simp [intOf]; omega
          · have HPG := Lib.hid hP
            have HR := Lib.hid (show bst V (rowsL (mayPut s f o js) S n ++ rowL (mayPut s f o js) (n + 1) (t + 1)) = better V st ((n : Int) + 1, (n : Int) + 1 + 1 + (t : Int)) by
              rw [HROW.out, mayPut, hP, if_pos rfl, ← List.append_assoc, bst_snoc, HST.out])
            clear hP
            have hR6 := (own_row ho6 HL.out).rjl HL.out (by have := HL.out; omega) hwf
            have hcon := sqFar_any s f o A4 c4 (put js ((n : Int) + 1, (n : Int) + 1 + 1 + (t : Int))) _ hR6 HPG.out
            rw [HL.out] at hcon
            go_wp2_with fail
            refine hcon.mono ?_
            rintro e w7 ⟨g, F, L, rfl, hg, hrow, hyes, hno, hL, hx7⟩
            have b7 := b6.trans (hx7.mono b6.size)
            have hfs : (0 : Int) < ((s.toNat + 1 : Nat) : Int) := by omega
            have c0 := hrow.cell (k := 0) (by omega)
            have D7 := D.trans (b7.mono hDs)
            have kB7 := (b7.block _ hBs).trans kB
            have kR7 := (b7.block _ hRs).trans kR
            have kJ7 := (b7.block _ hJs).trans kJ
            have qJ7 := fun i => cell_of_row w7 w1.heap.size i _ _ _ kJ7
            have fJ7 := fun i => frozen_row (i := i) kJ7
            have hvv := HV.out ((n : Int) + 1, (n : Int) + 1 + 1 + (t : Int))
            have HVV := Lib.hid hvv
            have HY := Lib.hid hyes; have HN := Lib.hid hno
            clear hcon hR6 hrow hyes hno hx7 kO6 ho6 b6 kB kR kJ D hvv qO6 hL
            cases hF : F 0
            · rw [farF_no hF] at c0
              have HT := Lib.hid (HVV.out.2 (HN.out 0 (okB_of (asked_on (asked_start HPG.out))) hF))
              go_wp2
              go_roundw
              case rel => exact ⟨t + 1, st, by omega, by go_num, by rw [HR.out]; exact better_no HT.out st, rfl, D7, kB7, kR7, kJ7⟩
              case measure => simp [intOf]; omega
            · rw [farF_yes hF] at c0
              have HT := Lib.hid (HVV.out.1 _ (HY.out 0 hF).2)
              have h00 : ¬ ((L 0 : Nat) : Int) < 0 := by omega
              have h01 : (0 : Int) ≤ ((L 0 : Nat) : Int) := by omega
              obtain ⟨l0, hl0⟩ : ∃ l0, L 0 = l0 := ⟨_, rfl⟩
              rw [hl0] at HT c0 h00 h01
              clear hl0
              rcases st with _ | ⟨⟨p1, p2⟩, m⟩
              · dsimp only [stL, stP] at qJ7 kJ7 ⊢
                go_wp2
                go_roundw
                case rel =>
                  exact ⟨t + 1, some (((n : Int) + 1, (n : Int) + 1 + 1 + (t : Int)), l0), by omega, by go_num, by rw [HR.out]; exact better_first HT.out, rfl, (D7.setCell (by dsimp only; omega) _).setCell (by dsimp only; omega) _, (Below.heap_setCell _ _ _ _ (by dsimp only; omega)).trans ((Below.heap_setCell _ _ _ _ (by dsimp only; omega)).trans kB7), (Below.heap_setCell _ _ _ _ (by dsimp only; omega)).trans ((Below.heap_setCell _ _ _ _ (by dsimp only; omega)).trans kR7), (heap_set _ _ _ _ _ _ (heap_set _ _ _ _ _ _ kJ7)).trans rfl⟩
                case measure => simp [intOf]; omega
              · dsimp only [stL, stP] at qJ7 kJ7 ⊢
                have hm0 : ¬ (m : Int) < 0 := by omega
                by_cases hl2 : l0 < m
                · have g1 : (l0 : Int) < (m : Int) := by omega
                  go_wp2
                  go_roundw
                  case rel =>
                    exact ⟨t + 1, some (((n : Int) + 1, (n : Int) + 1 + 1 + (t : Int)), l0), by omega, by go_num, by rw [HR.out]; exact better_less HT.out hl2, rfl, (D7.setCell (by dsimp only; omega) _).setCell (by dsimp only; omega) _, (Below.heap_setCell _ _ _ _ (by dsimp only; omega)).trans ((Below.heap_setCell _ _ _ _ (by dsimp only; omega)).trans kB7), (Below.heap_setCell _ _ _ _ (by dsimp only; omega)).trans ((Below.heap_setCell _ _ _ _ (by dsimp only; omega)).trans kR7), (heap_set _ _ _ _ _ _ (heap_set _ _ _ _ _ _ kJ7)).trans rfl⟩
                  case measure => simp [intOf]; omega
                · have g1 : ¬ (l0 : Int) < (m : Int) := by omega
                  go_wp2
                  go_roundw
                  case rel => exact ⟨t + 1, some ((p1, p2), m), by omega, by go_num, by rw [HR.out]; exact better_not HT.out hl2, rfl, D7, kB7, kR7, kJ7⟩
                  case measure => simp [intOf]; omega
        · have h5 : ¬ (n : Int) + 1 + 1 + (t : Int) ≤ s := by have := HS.out; omega
          obtain rfl : t = S - (n + 1) := by omega
          go_wp2
          go_roundw
          case rel => exact ⟨n + 1, st, by omega, by go_num, by rw [rowsL_succ]; exact HST.out, rfl, D, kB, kR, kJ⟩
          case measure => simp [intOf]; omega
    · have h4 : ¬ (n : Int) + 1 < s := by have := HS.out; omega
      obtain rfl : n = S - 1 := by omega
      have hRs := heap_lt kR
      have qR := fun i => cell_of_row wr (w.heap.size + 1) i _ _ _ kR
      have fR := fun i => frozen_row (i := i) kR
      have qJ := fun i => cell_of_row wr w1.heap.size i _ _ _ kJ
      rcases st with _ | ⟨⟨p1, p2⟩, m⟩
      · dsimp only [stL, stP] at qJ ⊢
        go_wp2
        refine bodyPost_ret (v := .tuple #[.agg #[.int .i64 0, .int .i64 0], .int .i64 0, .bool false]) (by simp [results, Try.results23, go_sem, qR]) rfl ?_
        rw [HS0.out, HST.out]
        exact ⟨rfl, (D.setCell (by dsimp only; omega) _).setCell (by dsimp only; omega) _⟩
      · dsimp only [stL, stP] at qJ ⊢
        have hm0 : ¬ (m : Int) < 0 := by omega
        go_wp2
        refine bodyPost_ret (v := .tuple #[.agg #[.int .i64 p1, .int .i64 p2], .int .i64 (m : Int), .bool true]) (by simp [results, Try.results23, go_sem, qR]) rfl ?_
        rw [HS0.out, HST.out]
        exact ⟨rfl, (D.setCell (by dsimp only; omega) _).setCell (by dsimp only; omega) _⟩

theorem bestLadder_both (s f o : Int) (js : List (Int × Int)) : ∃ st : Option ((Int × Int) × Nat),
    (∀ (g c : Nat) (W : World), RJ W W.heap.size (some ⟨g, 0, none⟩) js → js.length ≤ c → Calls Try.prog 23 #[.agg #[.int .i64 s, .int .i64 f, .int .i64 o, .slice (some ⟨g, 0, none⟩) js.length c]] W (LadIs W st)) ∧
    (∀ (A : Option Addr) (c : Nat) (W : World), RJ W W.heap.size A js → Calls Try.prog 24 #[.agg #[.int .i64 s, .int .i64 f, .int .i64 o, .slice A js.length c]] W (LadIs W st)) := by
  cases h : good ⟨s, f, o, js⟩
  · exact ⟨none, fun g c W hj _ => specBestLadder_no s f o _ c js W hj h, fun A c W hj => implBestLadder_no s f o A c js W hj h⟩
  · obtain ⟨V, hV⟩ := valOf_ex s f o js
    refine ⟨bst V (ladsL s f o js), fun g c W hj hc => ?_, fun A c W hj => implBestLadder_yes s f o A c js V W hj h hV⟩
    by_cases h20 : js.length < 20
    · rw [ladsL, if_pos h20]
      exact specBestLadder_some s f o g 0 c js V W hj hc h h20 hV
    · rw [ladsL, if_neg h20]
      exact specBestLadder_full s f o _ c js W hj h h20
/-- A jump, a number and a Bool are handed back. -/
def JumpIs (w : World) (a b x : Int) (ok : Bool) (e : Ending) (w' : World) : Prop := e = .returned (.tuple #[.agg #[.int .i64 a, .int .i64 b], .int .i64 x, .bool ok]) ∧ Below w.heap.size w w'
theorem bestLadder_told (s f o : Int) (js : List (Int × Int)) : ∃ (a b x : Int) (ok : Bool),
    (∀ (g c : Nat) (W : World), RJ W W.heap.size (some ⟨g, 0, none⟩) js → js.length ≤ c → Calls Try.prog 23 #[.agg #[.int .i64 s, .int .i64 f, .int .i64 o, .slice (some ⟨g, 0, none⟩) js.length c]] W (JumpIs W a b x ok)) ∧
    (∀ (A : Option Addr) (c : Nat) (W : World), RJ W W.heap.size A js → Calls Try.prog 24 #[.agg #[.int .i64 s, .int .i64 f, .int .i64 o, .slice A js.length c]] W (JumpIs W a b x ok)) := by
  obtain ⟨st, h1, h2⟩ := bestLadder_both s f o js
  exact ⟨(stP st).1, (stP st).2, stN st, stF st, h1, h2⟩
end Go.Proofs.Ytndodohngeaklaa

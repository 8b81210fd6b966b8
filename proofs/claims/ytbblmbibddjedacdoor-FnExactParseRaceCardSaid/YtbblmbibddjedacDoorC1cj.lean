/-
  The program's ParseBoard.
-/
import Derived.Test.YtbblmbibddjedacDoorC1bb
import Derived.Test.YtbblmbibddjedacDoorC1ce
import Derived.Test.YtbblmbibddjedacDoorC1ci
namespace Go.Proofs.YtbblmbibddjedacDoor
open Go.RowKit

theorem cut_less (s : List UInt8) (m : UInt8) : 2 * (Lib.cut s [m]).2.1.length + (if (Lib.cut s [m]).2.2 then 1 else 0) < 2 * s.length + 1 := by
  unfold Lib.cut
  split
  · rename_i h
    have := Lib.index_room s [m] h
    simp at this ⊢
    omega
  · simp
theorem jumpsP_end {n : Nat} {acc : List (Int × Int)} {rest : List UInt8} {more : Bool} (h : more = false ∨ n = 0) : jumpsP n acc rest more = some acc := by
  rcases h with rfl | rfl
  · exact jumpsP_no _ _ _
  · rfl
/-- How far the loop over a text's jumps still has to go. -/
def textLeft (r m : Value) : Nat := (match r with | .string b => 2 * b.size | _ => 0) + (match m with | .bool true => 1 | _ => 0)

set_option maxRecDepth 100000 in
set_option maxHeartbeats 4000000 in
theorem implParseBoard_any (s : List UInt8) (w : World) (ht : Texts w) (hs : s.length ≤ 1048576) :
    Calls Tryd.prog 16 #[.string ⟨s.toArray⟩] w (BoardBack w.heap.size w (parsed (parseP s) s)) := by
  obtain ⟨ti, hi, hz0, hz1, hz2⟩ := info_parts infoJumpT
  obtain ⟨W0, hW0⟩ : ∃ W0, W0 = w.alloc (.cells #[.int .i64 0, .int .i64 0, .int .i64 0, .slice none 0 0] 32) := ⟨_, rfl⟩
  have z0 : W0.heap.size = w.heap.size + 1 := by rw [hW0]; simp
  have h0 : Below w.heap.size w W0 := by rw [hW0]; exact below1 _ _
  have k0 : W0.heap[w.heap.size]? = some (.cells #[.int .i64 0, .int .i64 0, .int .i64 0, .slice none 0 0] 32 (0, 0)) := by rw [hW0]; exact heap_alloc_at _ _ _ rfl
  have hT0 := ht.on h0
  have hc := cut_len s 59
  have hcut := cut_any s 59 W0 hT0 hs
  have hP : parseP s = if (plainP (Lib.cut s [59]).1).2 then (jumpsP 20 [] (Lib.cut s [59]).2.1 (Lib.cut s [59]).2.2).map fun js => ⟨(plainP (Lib.cut s [59]).1).1.1, (plainP (Lib.cut s [59]).1).1.2.1, (plainP (Lib.cut s [59]).1).1.2.2, js⟩ else none := rfl
  obtain ⟨p, r0, m0, hcr⟩ : ∃ a r ok, Lib.cut s [59] = (a, r, ok) := ⟨_, _, _, rfl⟩
  rw [hcr] at hc hcut hP
  clear hcr
  dsimp only at hc hcut hP
  have hpl := fun W hT => plainOf_any p W hT (by omega)
  obtain ⟨a, b, c, ok, hpr⟩ : ∃ a b c ok, plainP p = ((a, b, c), ok) := ⟨_, _, _, _, rfl⟩
  rw [hpr] at hpl hP
  clear hpr
  dsimp only at hpl hP
  cases ok
  · have HP := Lib.hid (show parseP s = none from hP); clear hP
    rw [HP.out]
    have HW := Lib.hid hW0
    go_enter Tryd.func16, Tryd.ntmps16
    go_wp2_with fail
    rw [← HW.out]
    clear hW0
    refine hcut.mono ?_
    rintro e w1 ⟨rfl, hx⟩
    rw [z0] at hx
    go_wp2_with fail
    refine (hpl w1 (hT0.on (by rw [z0]; exact hx))).mono ?_
    rintro e w2 ⟨rfl, hy⟩
    have hb := hx.trans (hy.mono (by have := hx.size; omega))
    have q0 := cell_atT hb (by omega) k0
    have f0 := free_atT hb (by omega) k0
    have hb1 := h0.trans (hb.mono (by omega))
    have hlt2 : w.heap.size < w2.heap.size := by have := hb.size; omega
    go_wp2_with fail
    refine bodyPost_ret (v := .tuple #[.agg #[.int .i64 0, .int .i64 0, .int .i64 0, .slice none 0 0], .bool false]) (by simp [results, Tryd.results16, go_sem, q0, hlt2]) rfl ?_
    exact ⟨none, 0, rfl, .inl rfl, ((((hb1.setCell (Nat.le_refl _) _).setCell (Nat.le_refl _) _).setCell (Nat.le_refl _) _).setCell (Nat.le_refl _) _).alloc (by simp; omega) _⟩
  · have HP := Lib.hid (show parseP s = (jumpsP 20 [] r0 m0).map fun js => ⟨a, b, c, js⟩ from hP); clear hP
    have HW := Lib.hid hW0
    go_enter Tryd.func16, Tryd.ntmps16
    go_wp2_with fail
    rw [← HW.out]
    clear hW0
    refine hcut.mono ?_
    rintro e w1 ⟨rfl, hx⟩
    rw [z0] at hx
    go_wp2_with fail
    refine (hpl w1 (hT0.on (by rw [z0]; exact hx))).mono ?_
    rintro e w2 ⟨rfl, hy⟩
    have hb := hx.trans (hy.mono (by have := hx.size; omega))
    have hTw2 := hT0.on (by rw [z0]; exact hb)
    clear hcut hpl
    go_wp2_with fail
    have hN : w.heap.size + 1 ≤ w2.heap.size := by have := hb.size; omega
    have q3' : (w2.alloc (.cells #[.int .i64 a, .int .i64 b, .int .i64 c, .slice none 0 0] 32)).heap[w2.heap.size]? = some (.cells #[.int .i64 a, .int .i64 b, .int .i64 c, .slice none 0 0] 32 (0, 0)) := heap_alloc_at _ _ _ rfl
    have hbA := hb.alloc (show w.heap.size + 1 ≤ w2.heap.size by omega) (.cells #[.int .i64 a, .int .i64 b, .int .i64 c, .slice none 0 0] 32)
    obtain ⟨N, eN⟩ : ∃ N, N = w2.heap.size := ⟨_, rfl⟩
    rw [← eN] at q3' hN
    rw [← eN]
    have zN : (w2.alloc (.cells #[.int .i64 a, .int .i64 b, .int .i64 c, .slice none 0 0] 32)).heap.size = N + 1 := by simp [eN]
    clear eN
    go_loopw [5, 6] (fun r m wr => ∃ (k : Nat) (acc : List (Int × Int)) (rest : List UInt8) (more : Bool) (A : Option Addr) (cp : Nat), r = .string ⟨rest.toArray⟩ ∧ m = .bool more ∧ acc.length = k ∧ k ≤ 20 ∧ rest.length ≤ s.length ∧ wfJ acc ∧ Below (w.heap.size + 1) W0 wr ∧ N + 1 ≤ wr.heap.size ∧
      wr.heap[N]? = some (.cells #[.int .i64 a, .int .i64 b, .int .i64 c, .slice A k cp] 32 (0, 0)) ∧ wr.ownsRow (N + 1) 57 2 (.slice A k cp) k (flatJ acc) ∧ jumpsP 20 [] r0 m0 = jumpsP (20 - k) acc rest more) (fun r m _ => textLeft r m)
    case atStart => exact ⟨0, [], r0, m0, none, 0, rfl, rfl, rfl, by omega, hc.2, fun j hj => by simp at hj, hbA, by omega, q3', World.ownsRow_nil _ _ _ _, rfl⟩
    case round =>
      clear q3' hbA zN hb hx hy
      obtain ⟨k, acc, rest, more, A, cp, rfl, rfl, hk, hk20, hrl, hwf, hb, hsz, hNr, ho, hd⟩ := hrel
      have Hd := Lib.hid hd; have HK := Lib.hid hk; clear hd hk
      have hTr := hT0.on (by rw [z0]; exact hb)
      have q3 := fun i => cell_of_row wr N i _ _ _ hNr
      by_cases hgo : more = true ∧ k < 20
      · obtain ⟨rfl, hk2⟩ := hgo
        have hk3 : (k : Int) < 20 := by omega
        have hless := cut_less rest 59
        have hlen := cut_len rest 59
        have hcr := cut_any rest 59 wr hTr (by omega)
        have hJ : jumpsP (20 - k) acc rest true = (aroundP 62 (Lib.cut rest [59]).1).bind fun j => jumpsP (20 - (k + 1)) (acc ++ [j]) (Lib.cut rest [59]).2.1 (Lib.cut rest [59]).2.2 := by
          rw [show 20 - k = (20 - (k + 1)) + 1 by omega]; rfl
        obtain ⟨x, y, ok2, hcx⟩ : ∃ a r ok, Lib.cut rest [59] = (a, r, ok) := ⟨_, _, _, rfl⟩
        rw [hcx] at hless hlen hcr hJ
        clear hcx
        dsimp only at hless hlen hcr hJ
        cases hj : aroundP 62 x with
        | none =>
          have HPn := Lib.hid (show parsed (parseP s) s = none by rw [HP.out, Hd.out, hJ, hj]; rfl)
          have Hj := Lib.hid hj; clear hj hJ hless
          rw [HPn.out]
          go_wp2_with fail
          refine hcr.mono ?_
          rintro e w4 ⟨rfl, hx4⟩
          have hT4 := hTr.on hx4
          clear hcr
          go_wp2_with fail
          refine (numbersAround_any x 62 w4 hT4 (by omega)).mono ?_
          rintro e w5 ⟨rfl, hx5⟩
          rw [Hj.out]
          dsimp only [Option.getD_none, Option.isSome_none]
          have hb5 := (hb.trans (hx4.mono (by have := hb.size; omega))).trans (hx5.mono (by have := hb.size; have := hx4.size; omega))
          have q0 := cell_atT hb5 (by omega) k0
          have f0 := free_atT hb5 (by omega) k0
          have hb6 := h0.trans (hb5.mono (by omega))
          clear q3
          go_wp2_with fail
          refine bodyPost_ret (v := .tuple #[.agg #[.int .i64 0, .int .i64 0, .int .i64 0, .slice none 0 0], .bool false]) (by simp [results, Tryd.results16, go_sem, q0]) rfl ?_
          exact ⟨none, 0, rfl, .inl rfl, (((hb6.setCell (Nat.le_refl _) _).setCell (Nat.le_refl _) _).setCell (Nat.le_refl _) _).setCell (Nat.le_refl _) _⟩
        | some j =>
          obtain ⟨jx, jy⟩ := j
          have hwj := aroundP_wf hj
          have HJ := Lib.hid (show jumpsP 20 [] r0 m0 = jumpsP (20 - (k + 1)) (acc ++ [(jx, jy)]) y ok2 by rw [Hd.out, hJ, hj]; rfl)
          have Hj := Lib.hid hj; have Hless := Lib.hid hless; clear hj hJ hless
          go_wp2_with fail
          refine hcr.mono ?_
          rintro e w4 ⟨rfl, hx4⟩
          have hT4 := hTr.on hx4
          clear hcr
          go_wp2_with fail
          refine (numbersAround_any x 62 w4 hT4 (by omega)).mono ?_
          rintro e w5 ⟨rfl, hx5⟩
          rw [Hj.out]
          dsimp only [Option.getD_some, Option.isSome_some]
          have hx45 := hx4.trans (hx5.mono hx4.size)
          have hs45 := hx45.size
          have hb5 := hb.trans (hx45.mono (by have := hb.size; omega))
          have hN5 := (hx45.block N (by omega)).trans hNr
          have ho5 := own_below ho hx45
          have q5 := fun i => cell_of_row w5 N i _ _ _ hN5
          clear q3
          have hlt5 : N < w5.heap.size := by omega
          have HF := Lib.hid (show flatJ (acc ++ [(jx, jy)]) = flatJ acc ++ [.int .i64 jx, .int .i64 jy] by rw [flatJ_app]; rfl)
          have HN := Lib.hid hN5; clear hN5
          go_wp2_with (at_builtin; go_loud (refine wpList_append_own _ rfl _ _ 30 rfl (N + 1) 57 ti (.agg #[.int .i64 0, .int .i64 0]) 2 16 Tryd.underlying30 hi hz0 hz1 hz2 rfl (by decide) _ _ _ rfl (ho5.alloc _) ⟨w5.heap.size, 0, none⟩ 1 1 [.int .i64 jx, .int .i64 jy] rfl rfl (cell_new2 _ _ _ _) (two_int _ _) (by unfold maxLen; omega) (by omega) (by simp; omega) ?_; intro v1 w6 ho6 hg6 _; have hN6 := (hg6.block N (by simp; omega) (fun e => by have := own_from ho5 N e.symm; omega)).trans ((Below.heap_alloc _ _ _ hlt5).trans HN.out); have q6 := fun i => cell_of_row w6 N i _ _ _ hN6; have f6 := fun i => frozen_row (i := i) hN6; obtain ⟨A6, c6, rfl⟩ := own_slT ho6))
          have hs6 := hg6.size
          simp only [World.size_alloc] at hs6
          refine ⟨⟨acc.length + 1, acc ++ [(jx, jy)], y, ok2, A6, c6, rfl, rfl, by simp, by have := HK.out; omega, by omega, fun j hj => ?_, ?_, ?_, ?_, ?_, ?_⟩, ?_⟩
          · rcases List.mem_append.1 hj with h | h
            · exact hwf j h
            · simp only [List.mem_singleton] at h
              subst h
              exact hwj
          · exact ((hb5.alloc (by omega) _).grown hg6 (by simp; omega) (fun g hg => by have := own_from ho5 g hg; omega)).setCell (by dsimp only; omega) _
          · simp only [World.size_setCell]
            omega
          · rw [HK.out]
            exact heap_set _ N 3 _ _ _ hN6
          · rw [HF.out, HK.out]
            exact ownsRow_setCell_below ho6 (by dsimp only; omega) _
          · rw [HK.out]
            exact HJ.out
          · have h := Hless.out
            have e : ∀ l : List UInt8, (⟨l.toArray⟩ : ByteArray).size = l.length := fun l => by show l.toArray.size = _; simp
            cases ok2 <;> simp only [textLeft, e] <;> simp at h <;> omega
      · have hstop : more = false ∨ 20 - k = 0 := by
          cases more
          · exact .inl rfl
          · have : ¬ k < 20 := fun h => hgo ⟨rfl, h⟩
            exact .inr (by omega)
        have HPs := Lib.hid (show parseP s = some ⟨a, b, c, acc⟩ by rw [HP.out, Hd.out, jumpsP_end hstop]; rfl)
        obtain rfl := HK.out
        have hOJ := own_rowT ho rfl
        have hRJ := hOJ.rjT rfl (by omega) hwf
        have hBT := implBoardText_any a b c A cp acc wr hRJ hTr.tens
        have hcond : more = false ∨ (more = true ∧ ¬ ((acc.length : Int) < 20)) := by
          cases more
          · exact .inl rfl
          · exact .inr ⟨rfl, fun h => hgo ⟨rfl, by omega⟩⟩
        clear hgo hstop
        rcases hcond with rfl | ⟨rfl, h20⟩
        all_goals
          cases hg : good ⟨a, b, c, acc⟩
          · have HPn := Lib.hid (show parsed (parseP s) s = none by rw [HPs.out]; simp [parsed, hg])
            rw [hg] at hBT
            simp only [Bool.false_eq_true, if_false] at hBT
            clear hg
            go_wp2_with fail
            refine hBT.mono ?_
            rintro e w7 ⟨rfl, hx⟩
            have hb7 := hb.trans (hx.mono (by have := hb.size; omega))
            have q0 := cell_atT hb7 (by omega) k0
            have f0 := free_atT hb7 (by omega) k0
            have hb6 := h0.trans (hb7.mono (by omega))
            clear q3
            go_wp2_with fail
            refine bodyPost_ret (v := .tuple #[.agg #[.int .i64 0, .int .i64 0, .int .i64 0, .slice none 0 0], .bool false]) (by simp [results, Tryd.results16, go_sem, q0]) rfl ?_
            rw [HPn.out]
            exact ⟨none, 0, rfl, .inl rfl, (((hb6.setCell (Nat.le_refl _) _).setCell (Nat.le_refl _) _).setCell (Nat.le_refl _) _).setCell (Nat.le_refl _) _⟩
          · by_cases htx : txtL ⟨a, b, c, acc⟩ = s
            · have HPo := Lib.hid (show parsed (parseP s) s = some ⟨a, b, c, acc⟩ by rw [HPs.out]; exact parsed_ok hg htx)
              have HTX : txtB a b c acc = ⟨s.toArray⟩ := by rw [← htx]; rfl
              rw [hg] at hBT
              simp only [if_true, HTX] at hBT
              clear hg htx HTX
              go_wp2_with fail
              refine hBT.mono ?_
              rintro e w7 ⟨rfl, hx⟩
              have hb7 := hb.trans (hx.mono (by have := hb.size; omega))
              have q0 := cell_atT hb7 (by omega) k0
              have f0 := free_atT hb7 (by omega) k0
              have hb6 := h0.trans (hb7.mono (by omega))
              have q7 := fun i => cell_of_row w7 N i _ _ _ ((hx.block N (by omega)).trans hNr)
              have hO7 := (hOJ.below hx (Nat.le_refl _)).loT (show w.heap.size + 1 ≤ N + 1 by omega)
              clear q3
              go_wp2_with fail
              refine bodyPost_ret (v := .tuple #[.agg #[.int .i64 a, .int .i64 b, .int .i64 c, .slice A acc.length cp], .bool true]) (by simp [results, Tryd.results16, go_sem, q0]) rfl ?_
              rw [HPo.out]
              exact ⟨A, cp, rfl, ((((hO7.farT (p := ⟨w.heap.size, 0, none⟩) (by dsimp only; omega) _).farT (p := ⟨w.heap.size, 1, none⟩) (by dsimp only; omega) _).farT (p := ⟨w.heap.size, 2, none⟩) (by dsimp only; omega) _).farT (p := ⟨w.heap.size, 3, none⟩) (by dsimp only; omega) _).loT (by omega), (((hb6.setCell (Nat.le_refl _) _).setCell (Nat.le_refl _) _).setCell (Nat.le_refl _) _).setCell (Nat.le_refl _) _⟩
            · have HPn := Lib.hid (show parsed (parseP s) s = none by rw [HPs.out]; simp [parsed, htx])
              have hne : ((txtB a b c acc).toList == s) = false := by
                rw [beq_eq_false_iff_ne]
                intro e
                apply htx
                rw [show txtB a b c acc = ⟨(txtL ⟨a, b, c, acc⟩).toArray⟩ from rfl] at e
                simpa using e
              rw [hg] at hBT
              simp only [if_true] at hBT
              clear hg htx
              go_wp2_with fail
              refine hBT.mono ?_
              rintro e w7 ⟨rfl, hx⟩
              have hb7 := hb.trans (hx.mono (by have := hb.size; omega))
              have q0 := cell_atT hb7 (by omega) k0
              have f0 := free_atT hb7 (by omega) k0
              have hb6 := h0.trans (hb7.mono (by omega))
              clear q3
              go_wp2_with fail
              refine bodyPost_ret (v := .tuple #[.agg #[.int .i64 0, .int .i64 0, .int .i64 0, .slice none 0 0], .bool false]) (by simp [results, Tryd.results16, go_sem, q0]) rfl ?_
              rw [HPn.out]
              exact ⟨none, 0, rfl, .inl rfl, (((hb6.setCell (Nat.le_refl _) _).setCell (Nat.le_refl _) _).setCell (Nat.le_refl _) _).setCell (Nat.le_refl _) _⟩
end Go.Proofs.YtbblmbibddjedacDoor

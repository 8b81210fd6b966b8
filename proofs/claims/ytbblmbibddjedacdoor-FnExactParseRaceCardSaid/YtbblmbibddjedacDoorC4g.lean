/-
  The program's ParseRace.
-/
import Derived.Test.YtbblmbibddjedacDoorC4f
namespace Go.Proofs.YtbblmbibddjedacDoor
open Go.RowKit

/-- What a parse hands back: the race and its jumps in a row of its own, or nothing. -/
def RaceBack (B : Nat) (w : World) (r : Option Rc) (e : Ending) (w' : World) : Prop :=
  ∃ A' c', e = .returned (.tuple #[.agg #[.int .i64 (r.getD ⟨⟨0, 0, 0, []⟩, 0, 0, 0⟩).b.sq, .int .i64 (r.getD ⟨⟨0, 0, 0, []⟩, 0, 0, 0⟩).b.fa, .int .i64 (r.getD ⟨⟨0, 0, 0, []⟩, 0, 0, 0⟩).b.ov, .slice A' (r.getD ⟨⟨0, 0, 0, []⟩, 0, 0, 0⟩).b.js.length c', .int .i64 (r.getD ⟨⟨0, 0, 0, []⟩, 0, 0, 0⟩).me, .int .i64 (r.getD ⟨⟨0, 0, 0, []⟩, 0, 0, 0⟩).fi, .int .i64 (r.getD ⟨⟨0, 0, 0, []⟩, 0, 0, 0⟩).ot], .bool r.isSome]) ∧
    OJ w' B 57 A' (r.getD ⟨⟨0, 0, 0, []⟩, 0, 0, 0⟩).b.js.length (fun k => (r.getD ⟨⟨0, 0, 0, []⟩, 0, 0, 0⟩).b.js.getD k (0, 0)) ∧ Below B w w'
theorem raceBack_none {B : Nat} {w w' : World} (h : Below B w w') : RaceBack B w none (.returned (.tuple #[.agg #[.int .i64 0, .int .i64 0, .int .i64 0, .slice none 0 0, .int .i64 0, .int .i64 0, .int .i64 0], .bool false])) w' := ⟨none, 0, rfl, .inl rfl, h⟩
theorem set7B {B n : Nat} {w0 w : World} (h : Below B w0 w) (hb : B ≤ n) (v0 v1 v2 v3 v4 v5 v6 : Value) : Below B w0 (((((((w.setCell ⟨n, 0, none⟩ v0).setCell ⟨n, 1, none⟩ v1).setCell ⟨n, 2, none⟩ v2).setCell ⟨n, 3, none⟩ v3).setCell ⟨n, 4, none⟩ v4).setCell ⟨n, 5, none⟩ v5).setCell ⟨n, 6, none⟩ v6) :=
  ((((((h.setCell hb _).setCell hb _).setCell hb _).setCell hb _).setCell hb _).setCell hb _).setCell hb _
theorem set7O {lo n k : Nat} {w : World} {t : TypeId} {A : Option Addr} {F : Nat → Int × Int} (h : OJ w lo t A k F) (hn : n < lo) (v0 v1 v2 v3 v4 v5 v6 : Value) : OJ (((((((w.setCell ⟨n, 0, none⟩ v0).setCell ⟨n, 1, none⟩ v1).setCell ⟨n, 2, none⟩ v2).setCell ⟨n, 3, none⟩ v3).setCell ⟨n, 4, none⟩ v4).setCell ⟨n, 5, none⟩ v5).setCell ⟨n, 6, none⟩ v6) lo t A k F :=
  ((((((h.farT hn _).farT hn _).farT hn _).farT hn _).farT hn _).farT hn _).farT hn _

set_option maxRecDepth 100000 in
set_option maxHeartbeats 4000000 in
theorem implParseRace_any (s : List UInt8) (w : World) (ht : Texts w) (hs : s.length ≤ 1048576) :
    Calls Tryd.prog 12 #[strV s] w (RaceBack w.heap.size w (raceP s)) := by
  obtain ⟨W0, hW0⟩ : ∃ W0, W0 = w.alloc (.cells #[.int .i64 0, .int .i64 0, .int .i64 0, .slice none 0 0, .int .i64 0, .int .i64 0, .int .i64 0] 34) := ⟨_, rfl⟩
  have z0 : W0.heap.size = w.heap.size + 1 := by rw [hW0]; simp
  have h0 : Below w.heap.size w W0 := by rw [hW0]; exact below1 _ _
  have k0 : W0.heap[w.heap.size]? = some (.cells #[.int .i64 0, .int .i64 0, .int .i64 0, .slice none 0 0, .int .i64 0, .int .i64 0, .int .i64 0] 34 (0, 0)) := by rw [hW0]; exact heap_alloc_at _ _ _ rfl
  have hT0 := ht.on h0
  have hc := cut_len s 64
  have hcut := cut_any s 64 W0 hT0 hs
  have hP : ∀ p r ok, Lib.cut s [64] = (p, r, ok) → raceP s = if ok then (placesP r).bind fun q => (boardOf p).bind fun b => if rcOk ⟨b, q.1, q.2.1, q.2.2⟩ && rcL ⟨b, q.1, q.2.1, q.2.2⟩ == s then some ⟨b, q.1, q.2.1, q.2.2⟩ else none else none := fun p r ok h => by unfold raceP; rw [h]
  obtain ⟨p, r, ok, hcr⟩ : ∃ p r ok, Lib.cut s [64] = (p, r, ok) := ⟨_, _, _, rfl⟩
  rw [hcr] at hc hcut
  replace hP := hP p r ok hcr
  clear hcr
  dsimp only at hc hcut
  have HW := Lib.hid hW0; clear hW0
  cases ok
  · have HP := Lib.hid (show raceP s = none from hP); clear hP
    rw [HP.out]
    go_enter Tryd.func12, Tryd.ntmps12
    go_wp2_with fail
    rw [← HW.out]
    refine hcut.mono ?_
    rintro e w1 ⟨rfl, hx⟩
    rw [z0] at hx
    have q0 := cell_atT hx (by omega) k0
    have f0 := free_atT hx (by omega) k0
    have hb1 := h0.trans (hx.mono (by omega))
    have hlt2 : w.heap.size < w1.heap.size := by have := hx.size; omega
    go_wp2_with fail
    refine bodyPost_ret (v := .tuple #[.agg #[.int .i64 0, .int .i64 0, .int .i64 0, .slice none 0 0, .int .i64 0, .int .i64 0, .int .i64 0], .bool false]) (by simp [results, Tryd.results12, go_sem, q0]) rfl ?_
    exact raceBack_none (set7B hb1 (Nat.le_refl _) _ _ _ _ _ _ _)
  · replace hP : raceP s = (placesP r).bind fun q => (boardOf p).bind fun b => if rcOk ⟨b, q.1, q.2.1, q.2.2⟩ && rcL ⟨b, q.1, q.2.1, q.2.2⟩ == s then some ⟨b, q.1, q.2.1, q.2.2⟩ else none := hP
    have hpl := fun W hT => placesOf_any r W hT (by omega)
    have hpb := fun W hT => implParseBoard_any p W hT (by omega)
    simp only [parsed_eq] at hpb
    cases hq : placesP r with
    | none =>
      have HP := Lib.hid (show raceP s = none by rw [hP, hq]; rfl); clear hP
      have HQ := Lib.hid hq; clear hq
      rw [HP.out]
      go_enter Tryd.func12, Tryd.ntmps12
      go_wp2_with fail
      rw [← HW.out]
      refine hcut.mono ?_
      rintro e w1 ⟨rfl, hx⟩
      rw [z0] at hx
      go_wp2_with fail
      refine (hpl w1 (hT0.on (by rw [z0]; exact hx))).mono ?_
      rintro e w2 ⟨a, b, c, rfl, _, hy⟩
      rw [HQ.out]
      dsimp only [Option.isSome_none]
      have hx2 := hx.trans (hy.mono (by have := hx.size; omega))
      have q0 := cell_atT hx2 (by omega) k0
      have f0 := free_atT hx2 (by omega) k0
      have hb := hx2.alloc (by have := hx2.size; omega) (.cells #[.int .i64 0, .int .i64 0, .int .i64 0, .slice none 0 0, .int .i64 a, .int .i64 b, .int .i64 c] 34)
      have hb1 := h0.trans (hb.mono (by omega))
      have hlt2 : w.heap.size < w2.heap.size := by have := hx.size; have := hy.size; omega
      have hb2 := h0.trans (hx2.mono (by omega))
      clear hcut hpl hpb
      go_wp2_with fail
      refine bodyPost_ret (v := .tuple #[.agg #[.int .i64 0, .int .i64 0, .int .i64 0, .slice none 0 0, .int .i64 0, .int .i64 0, .int .i64 0], .bool false]) (by simp [results, Tryd.results12, go_sem, q0, hlt2]) rfl ?_
      first
        | with_reducible exact raceBack_none (set7B hb1 (Nat.le_refl _) _ _ _ _ _ _ _)
        | with_reducible exact raceBack_none ((set7B hb2 (Nat.le_refl _) _ _ _ _ _ _ _).alloc (by simp only [World.size_setCell]; omega) _)
    | some q =>
      obtain ⟨qa, qb, qc⟩ := q
      replace hP : raceP s = (boardOf p).bind fun b => if rcOk ⟨b, qa, qb, qc⟩ && rcL ⟨b, qa, qb, qc⟩ == s then some ⟨b, qa, qb, qc⟩ else none := by rw [hP, hq]; rfl
      have HQ := Lib.hid hq; clear hq
      cases hbd : boardOf p with
      | none =>
        have HP := Lib.hid (show raceP s = none by rw [hP, hbd]; rfl); clear hP
        have HB := Lib.hid hbd; clear hbd
        rw [HP.out]
        go_enter Tryd.func12, Tryd.ntmps12
        go_wp2_with fail
        rw [← HW.out]
        refine hcut.mono ?_
        rintro e w1 ⟨rfl, hx⟩
        rw [z0] at hx
        go_wp2_with fail
        refine (hpl w1 (hT0.on (by rw [z0]; exact hx))).mono ?_
        rintro e w2 ⟨a, b, c, rfl, hpp, hy⟩
        have hpp2 := hpp _ HQ.out
        injection hpp2 with e1 e2
        injection e2 with e2 e3
        subst e1 e2 e3
        rw [HQ.out]
        dsimp only [Option.isSome_some]
        have hx2 := hx.trans (hy.mono (by have := hx.size; omega))
        have hs2 : w.heap.size + 1 ≤ w2.heap.size := by have := hx2.size; omega
        have hT2 := hT0.on (by rw [z0]; exact hx2)
        clear hcut hpl hpp
        go_wp2_with fail
        have hb := hx2.alloc hs2 (.cells #[.int .i64 0, .int .i64 0, .int .i64 0, .slice none 0 0, .int .i64 qa, .int .i64 qb, .int .i64 qc] 34)
        have kN : (w2.alloc (.cells #[.int .i64 0, .int .i64 0, .int .i64 0, .slice none 0 0, .int .i64 qa, .int .i64 qb, .int .i64 qc] 34)).heap[w2.heap.size]? = some (.cells #[.int .i64 0, .int .i64 0, .int .i64 0, .slice none 0 0, .int .i64 qa, .int .i64 qb, .int .i64 qc] 34 (0, 0)) := heap_alloc_at _ _ _ rfl
        refine (hpb _ (hT2.on (below1 _ _))).mono ?_
        rintro e w3 ⟨A, cp, rfl, hO, hz⟩
        rw [HB.out]
        dsimp only [Option.getD_none, Option.isSome_none]
        simp only [World.size_alloc] at hz
        have kN3 := (hz.block w2.heap.size (by omega)).trans kN
        have qN := fun i => cell_of_row w3 w2.heap.size i _ _ _ kN3
        have fN := fun i => frozen_row (i := i) kN3
        have hb3 := hb.trans (hz.mono (by omega))
        have q0 := cell_atT hb3 (by omega) k0
        have f0 := free_atT hb3 (by omega) k0
        have hb1 := h0.trans (hb3.mono (by omega))
        have hlt2 : w.heap.size < w3.heap.size := by have := hb3.size; omega
        have hne : ¬ w.heap.size = w2.heap.size := by omega
        have hlt3 : w2.heap.size < w3.heap.size := by have := hz.size; simp only [World.size_alloc] at this; omega
        clear kN kN3 hO hpb
        go_wp2_with fail
        refine bodyPost_ret (v := .tuple #[.agg #[.int .i64 0, .int .i64 0, .int .i64 0, .slice none 0 0, .int .i64 0, .int .i64 0, .int .i64 0], .bool false]) (by simp [results, Tryd.results12, go_sem, q0]) rfl ?_
        exact raceBack_none (set7B ((((hb1.setCell (by dsimp only; omega) _).setCell (by dsimp only; omega) _).setCell (by dsimp only; omega) _).setCell (by dsimp only; omega) _) (Nat.le_refl _) _ _ _ _ _ _ _)
      | some b =>
        obtain ⟨bs, bf, bo, bl⟩ := b
        replace hP : raceP s = if rcOk ⟨⟨bs, bf, bo, bl⟩, qa, qb, qc⟩ && rcL ⟨⟨bs, bf, bo, bl⟩, qa, qb, qc⟩ == s then some ⟨⟨bs, bf, bo, bl⟩, qa, qb, qc⟩ else none := by rw [hP, hbd]; rfl
        have hwf := good_wfJ (boardOf_good hbd)
        have HB := Lib.hid hbd; clear hbd
        have HP := Lib.hid hP; clear hP
        have hRT := fun (A : Option Addr) (c : Nat) (W : World) h1 h2 => implRaceText_any bs bf bo qa qb qc A c bl W h1 h2
        go_enter Tryd.func12, Tryd.ntmps12
        go_wp2_with fail
        rw [← HW.out]
        refine hcut.mono ?_
        rintro e w1 ⟨rfl, hx⟩
        rw [z0] at hx
        go_wp2_with fail
        refine (hpl w1 (hT0.on (by rw [z0]; exact hx))).mono ?_
        rintro e w2 ⟨a, b, c, rfl, hpp, hy⟩
        have hpp2 := hpp _ HQ.out
        injection hpp2 with e1 e2
        injection e2 with e2 e3
        subst e1 e2 e3
        rw [HQ.out]
        dsimp only [Option.isSome_some]
        have hx2 := hx.trans (hy.mono (by have := hx.size; omega))
        have hs2 : w.heap.size + 1 ≤ w2.heap.size := by have := hx2.size; omega
        have hT2 := hT0.on (by rw [z0]; exact hx2)
        clear hcut hpl hpp
        go_wp2_with fail
        have hb := hx2.alloc hs2 (.cells #[.int .i64 0, .int .i64 0, .int .i64 0, .slice none 0 0, .int .i64 qa, .int .i64 qb, .int .i64 qc] 34)
        have kN : (w2.alloc (.cells #[.int .i64 0, .int .i64 0, .int .i64 0, .slice none 0 0, .int .i64 qa, .int .i64 qb, .int .i64 qc] 34)).heap[w2.heap.size]? = some (.cells #[.int .i64 0, .int .i64 0, .int .i64 0, .slice none 0 0, .int .i64 qa, .int .i64 qb, .int .i64 qc] 34 (0, 0)) := heap_alloc_at _ _ _ rfl
        refine (hpb _ (hT2.on (below1 _ _))).mono ?_
        rintro e w3 ⟨A, cp, rfl, hO, hz⟩
        rw [HB.out] at hO ⊢
        dsimp only [Option.getD_some, Option.isSome_some] at hO ⊢
        simp only [World.size_alloc] at hz hO
        have kN3 := (hz.block w2.heap.size (by omega)).trans kN
        have qN := fun i => cell_of_row w3 w2.heap.size i _ _ _ kN3
        have fN := fun i => frozen_row (i := i) kN3
        have hb3 := hb.trans (hz.mono (by omega))
        have hne : ¬ w.heap.size = w2.heap.size := by omega
        have hlt3 : w2.heap.size < w3.heap.size := by have := hz.size; simp only [World.size_alloc] at this; omega
        obtain ⟨N, hN⟩ : ∃ N, N = w2.heap.size := ⟨_, rfl⟩
        rw [← hN] at hs2 hO kN3 qN fN hne hlt3 ⊢
        clear kN hpb hN hx hy hx2 hT2 hb hz
        go_wp2_with fail
        obtain ⟨W4, hW4⟩ : ∃ W4, W4 = (((w3.setCell ⟨N, 0, none⟩ (.int .i64 bs)).setCell ⟨N, 1, none⟩ (.int .i64 bf)).setCell ⟨N, 2, none⟩ (.int .i64 bo)).setCell ⟨N, 3, none⟩ (.slice A bl.length cp) := ⟨_, rfl⟩
        have kN4 : W4.heap[N]? = some (.cells #[.int .i64 bs, .int .i64 bf, .int .i64 bo, .slice A bl.length cp, .int .i64 qa, .int .i64 qb, .int .i64 qc] 34 (0, 0)) := by rw [hW4]; exact heap_set _ _ _ _ _ _ (heap_set _ _ _ _ _ _ (heap_set _ _ _ _ _ _ (heap_set _ _ _ _ _ _ kN3)))
        have hO4 : OJ W4 (N + 1) 57 A bl.length (fun k => bl.getD k (0, 0)) := by rw [hW4]; exact (((hO.farT (by dsimp only; omega) _).farT (by dsimp only; omega) _).farT (by dsimp only; omega) _).farT (by dsimp only; omega) _
        have hb4 : Below (w.heap.size + 1) W0 W4 := by rw [hW4]; exact (((hb3.setCell (by dsimp only; omega) _).setCell (by dsimp only; omega) _).setCell (by dsimp only; omega) _).setCell (by dsimp only; omega) _
        have z4 : W4.heap.size = w3.heap.size := by rw [hW4]; simp
        (try rw [← hW4])
        clear hW4 qN fN hO hb3 kN3
        refine (hRT A cp W4 (hO4.rjT rfl hwf.1 hwf.2) (hT0.on (by rw [z0]; exact hb4)).tens).mono ?_
        rintro e w5 ⟨rfl, hv⟩
        have hb5 := hb4.trans (hv.mono (by omega))
        have q0 := cell_atT hb5 (by omega) k0
        have f0 := free_atT hb5 (by omega) k0
        have qN := fun i => cell_of_row w5 N i _ _ _ ((hv.block N (by omega)).trans kN4)
        have hb1 := h0.trans (hb5.mono (by omega))
        have hlt2 : w.heap.size < w5.heap.size := by have := hb5.size; omega
        have hO5 := (hO4.below hv (Nat.le_refl _)).loT (show w.heap.size + 1 ≤ N + 1 by omega)
        clear kN4 hO4
        cases hok : raceOk bs bf bo bl qa qb qc
        · have HPn := Lib.hid (show raceP s = none by rw [HP.out, show rcOk ⟨⟨bs, bf, bo, bl⟩, qa, qb, qc⟩ = false from hok]; rfl)
          clear hok
          go_wp2_with fail
          refine bodyPost_ret (v := .tuple #[.agg #[.int .i64 0, .int .i64 0, .int .i64 0, .slice none 0 0, .int .i64 0, .int .i64 0, .int .i64 0], .bool false]) (by simp [results, Tryd.results12, go_sem, q0]) rfl ?_
          rw [HPn.out]
          exact raceBack_none (set7B hb1 (Nat.le_refl _) _ _ _ _ _ _ _)
        · by_cases htx : rcL ⟨⟨bs, bf, bo, bl⟩, qa, qb, qc⟩ = s
          · have HPo := Lib.hid (show raceP s = some ⟨⟨bs, bf, bo, bl⟩, qa, qb, qc⟩ by rw [HP.out, show rcOk ⟨⟨bs, bf, bo, bl⟩, qa, qb, qc⟩ = true from hok, htx]; simp)
            have HTX : txtR (brdL bs bf bo bl) qa qb qc = ⟨s.toArray⟩ := by rw [← htx]; rfl
            rw [if_pos rfl, HTX]
            clear hok htx HTX
            go_wp2_with fail
            refine bodyPost_ret (v := .tuple #[.agg #[.int .i64 bs, .int .i64 bf, .int .i64 bo, .slice A bl.length cp, .int .i64 qa, .int .i64 qb, .int .i64 qc], .bool true]) (by simp [results, Tryd.results12, go_sem, q0]) rfl ?_
            rw [HPo.out]
            exact ⟨A, cp, rfl, OJ.loT (lo := w.heap.size + 1) (set7O (lo := w.heap.size + 1) hO5 (Nat.lt_succ_self _) _ _ _ _ _ _ _) (Nat.le_succ _), set7B hb1 (Nat.le_refl _) _ _ _ _ _ _ _⟩
          · have HPn := Lib.hid (show raceP s = none by rw [HP.out]; simp [htx])
            have hne2 : ((txtR (brdL bs bf bo bl) qa qb qc).toList == s) = false := by
              rw [beq_eq_false_iff_ne]
              intro e
              apply htx
              rw [show txtR (brdL bs bf bo bl) qa qb qc = ⟨(rcL ⟨⟨bs, bf, bo, bl⟩, qa, qb, qc⟩).toArray⟩ from rfl] at e
              simpa using e
            rw [if_pos rfl]
            clear hok htx
            go_wp2_with fail
            refine bodyPost_ret (v := .tuple #[.agg #[.int .i64 0, .int .i64 0, .int .i64 0, .slice none 0 0, .int .i64 0, .int .i64 0, .int .i64 0], .bool false]) (by simp [results, Tryd.results12, go_sem, q0]) rfl ?_
            rw [HPn.out]
            exact raceBack_none (set7B hb1 (Nat.le_refl _) _ _ _ _ _ _ _)
end Go.Proofs.YtbblmbibddjedacDoor

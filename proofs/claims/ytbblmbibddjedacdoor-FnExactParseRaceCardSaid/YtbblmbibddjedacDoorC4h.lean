/-
  The model's ParseRace; both.
-/
import Derived.Test.YtbblmbibddjedacDoorC4g
import Derived.Deep.RegionHeld3
namespace Go.Proofs.YtbblmbibddjedacDoor
open Go.RowKit

theorem raceS_parts {s : List UInt8} (h : ¬ (splitL 64 s).length = 2) : raceS s = none := by
  unfold raceS
  split
  · rename_i h2; rw [h2] at h; simp at h
  · rfl
theorem three_of {α : Type} {l : List α} (h : l.length = 3) : ∃ a b c, l = [a, b, c] := by
  match l, h with
  | [a, b, c], _ => exact ⟨a, b, c, rfl⟩
theorem raceS_no {s p q : List UInt8} (h : splitL 64 s = [p, q]) (hb : boardOf p = none) : raceS s = none := by
  unfold raceS
  simp only [h, hb, Option.bind_none]
theorem raceS_no3 {s p q : List UInt8} (h : splitL 64 s = [p, q]) (h3 : ¬ (splitL 58 q).length = 3) : raceS s = none := by
  unfold raceS
  simp only [h]
  cases boardOf p with
  | none => rfl
  | some b =>
    simp only [Option.bind_some]
    split
    · rename_i h2; rw [h2] at h3; simp at h3
    · rfl
theorem raceS_at {s p q x y z : List UInt8} {b : Bd} (h : splitL 64 s = [p, q]) (hb : boardOf p = some b) (h3 : splitL 58 q = [x, y, z]) : raceS s = if rcOk ⟨b, readL x, readL y, readL z⟩ then some ⟨b, readL x, readL y, readL z⟩ else none := by
  unfold raceS
  simp only [h, hb, Option.bind_some, h3]

set_option maxRecDepth 100000 in
set_option maxHeartbeats 4000000 in
theorem raParse_any (s : List UInt8) (w : World) (hs : s.length ≤ 1048576) :
    Calls Tryd.prog 27 #[strV s] w (RaceBack w.heap.size w (raceS s)) := by
  obtain ⟨W0, hW0⟩ : ∃ W0, W0 = w.alloc (.cells #[.int .i64 0, .int .i64 0, .int .i64 0, .slice none 0 0, .int .i64 0, .int .i64 0, .int .i64 0] 34) := ⟨_, rfl⟩
  have z0 : W0.heap.size = w.heap.size + 1 := by rw [hW0]; simp
  have h0 : Below w.heap.size w W0 := by rw [hW0]; exact below1 _ _
  have k0 : W0.heap[w.heap.size]? = some (.cells #[.int .i64 0, .int .i64 0, .int .i64 0, .slice none 0 0, .int .i64 0, .int .i64 0, .int .i64 0] 34 (0, 0)) := by rw [hW0]; exact heap_alloc_at _ _ _ rfl
  have hsp := l1Split_any s 64 W0 hs
  have HW := Lib.hid hW0; clear hW0
  by_cases hn2 : (splitL 64 s).length = 2
  · obtain ⟨p, q, hpq⟩ : ∃ p q, splitL 64 s = [p, q] := two_of hn2
    have hl2 := splitL_len 64 s
    rw [hpq] at hsp hl2
    have hpl := hl2 p (by simp)
    have hql := hl2 q (by simp)
    have HPQ := Lib.hid hpq
    clear hn2 hpq hl2
    by_cases hn3 : (splitL 58 q).length = 3
    · obtain ⟨x, y, z, hxyz⟩ : ∃ x y z, splitL 58 q = [x, y, z] := three_of hn3
      have hl3 := splitL_len 58 q
      rw [hxyz] at hl3
      have hxl := hl3 x (by simp)
      have hyl := hl3 y (by simp)
      have hzl := hl3 z (by simp)
      have HXYZ := Lib.hid hxyz
      clear hn3 hxyz hl3
      go_enter Tryd.func27, Tryd.ntmps27
      go_wp2_with fail
      rw [← HW.out]
      refine hsp.mono ?_
      rintro e w1 ⟨g1, c1, rfl, ⟨hg1, hc1⟩, hr1, hx⟩
      rw [z0] at hx hg1
      have q1 := hr1.cell (k := 0) (by simp)
      simp only [List.getElem_cons_zero] at q1
      have hlt1 := hr1.lt
      clear hsp
      go_wp2_with fail
      refine (sqParse_any p w1 (by omega)).mono ?_
      rintro e w2 ⟨⟨bs, bf, bo, bl⟩, A, c, ok, rfl, hO, hy, hB⟩
      dsimp only at hO ⊢
      have HB := Lib.hid hB; clear hB
      have hr2 := hr1.below hy hlt1
      have hlt2 : g1 < w2.heap.size := by have := hy.size; omega
      have hs2 : w.heap.size + 1 ≤ w2.heap.size := by have := hx.size; have := hy.size; omega
      have q2 := hr2.cell (k := 1) (by simp)
      simp only [List.getElem_cons_zero, List.getElem_cons_succ] at q2
      have hb2 := hx.trans (hy.mono (by have := hx.size; omega))
      have hb3 := hb2.alloc hs2 (.cells #[.int .i64 bs, .int .i64 bf, .int .i64 bo, .slice A bl.length c] 32)
      have kN : (w2.alloc (.cells #[.int .i64 bs, .int .i64 bf, .int .i64 bo, .slice A bl.length c] 32)).heap[w2.heap.size]? = some (.cells #[.int .i64 bs, .int .i64 bf, .int .i64 bo, .slice A bl.length c] 32 (0, 0)) := heap_alloc_at _ _ _ rfl
      have hO3 := hO.below (below1 w2 (.cells #[.int .i64 bs, .int .i64 bf, .int .i64 bo, .slice A bl.length c] 32)) (Nat.le_refl _)
      clear q1
      go_wp2_with fail
      refine (l1Split_any q 58 _ (by omega)).mono ?_
      rw [HXYZ.out]
      rintro e w3 ⟨g3, c3, rfl, ⟨hg3, hc3⟩, hr3, hz⟩
      have hO4 := OJ.loT (lo' := w.heap.size + 1) (hO3.below hz (Nat.le_refl _)) (by have := hx.size; omega)
      simp only [World.size_alloc] at hz hg3
      have kN3 := (hz.block w2.heap.size (by omega)).trans kN
      have hb4 := hb3.trans (hz.mono (by omega))
      have hlt3 := hr3.lt
      obtain ⟨N, eN⟩ : ∃ N, N = w2.heap.size := ⟨_, rfl⟩
      rw [← eN] at kN3 hg3 hs2
      rw [← eN]
      clear eN kN hz hO hO3 hb3 q2 hr1 hr2 hb2 hx hy hlt1 hlt2
      cases ok
      · have HP := Lib.hid (raceS_no HPQ.out HB.out)
        have q0 := cell_atT hb4 (by omega) k0
        have f0 := free_atT hb4 (by omega) k0
        have hb1 := h0.trans (hb4.mono (by omega))
        have hlt0 : w.heap.size < w3.heap.size := by have := hb4.size; omega
        go_wp2_with fail
        refine bodyPost_ret (v := .tuple #[.agg #[.int .i64 0, .int .i64 0, .int .i64 0, .slice none 0 0, .int .i64 0, .int .i64 0, .int .i64 0], .bool false]) (by simp [results, Tryd.results27, go_sem, q0]) rfl ?_
        rw [HP.out]
        exact raceBack_none (set7B hb1 (Nat.le_refl _) _ _ _ _ _ _ _)
      · have HB2 := Lib.hid (show boardOf p = some ⟨bs, bf, bo, bl⟩ from HB.out); clear HB
        have hwf := good_wfJ (boardOf_good HB2.out)
        have HP := Lib.hid (raceS_at HPQ.out HB2.out HXYZ.out)
        have q3 := hr3.cell (k := 0) (by simp)
        have q31 := hr3.cell (k := 1) (by simp)
        have q32 := hr3.cell (k := 2) (by simp)
        simp only [List.getElem_cons_zero, List.getElem_cons_succ] at q3 q31 q32
        have qN0 : w3.cell? ⟨N, 0, none⟩ = some (.int .i64 bs) := cell_of_row w3 N 0 _ _ _ kN3
        have qN1 : w3.cell? ⟨N, 1, none⟩ = some (.int .i64 bf) := cell_of_row w3 N 1 _ _ _ kN3
        have qN2 : w3.cell? ⟨N, 2, none⟩ = some (.int .i64 bo) := cell_of_row w3 N 2 _ _ _ kN3
        have qN3 : w3.cell? ⟨N, 3, none⟩ = some (.slice A bl.length c) := cell_of_row w3 N 3 _ _ _ kN3
        have hNlt : N < w3.heap.size := heap_lt kN3
        go_upto_region 8 with fail
        go_cut [8] from 34 to 47 (fun s8 wx => s8 = .pointer (some ⟨w3.heap.size, 0, none⟩) ∧ wx = (w3.alloc (.cells #[.int .i64 bs, .int .i64 bf, .int .i64 bo, .slice A bl.length c, .int .i64 (readL x), .int .i64 (readL y), .int .i64 (readL z)] 34)).drew)
        case first =>
         go_region_held3 (fun w' => w'.cell? ⟨N, 0, none⟩ = some (.int .i64 bs) ∧ w'.cell? ⟨N, 1, none⟩ = some (.int .i64 bf) ∧ w'.cell? ⟨N, 2, none⟩ = some (.int .i64 bo) ∧ w'.cell? ⟨N, 3, none⟩ = some (.slice A bl.length c) ∧ w'.cell? ⟨g3, 0, none⟩ = some (strV x) ∧ w'.cell? ⟨g3, 1, none⟩ = some (strV y) ∧ w'.cell? ⟨g3, 2, none⟩ = some (strV z)) (go_keep)
          (first
            | (go_at_call 47; refine (l1Read_any _ _ (by omega)).mono ?_; rintro e w4 ⟨rfl, rfl⟩))
         all_goals (go_wp2_with fail; go_meet; exact ⟨rfl, rfl⟩)
        case rest =>
          obtain ⟨rfl, hwc⟩ := hcut
          have hzN : wc.heap.size = w3.heap.size + 1 := by rw [hwc]; simp
          have hw3 : Below w3.heap.size w3 wc := by rw [hwc]; exact ((Below.refl _ _).alloc (Nat.le_refl _) _).drew
          have hNr : wc.heap[w3.heap.size]? = some (.cells #[.int .i64 bs, .int .i64 bf, .int .i64 bo, .slice A bl.length c, .int .i64 (readL x), .int .i64 (readL y), .int .i64 (readL z)] 34 (0, 0)) := by rw [hwc]; exact heap_alloc_at _ _ _ rfl
          clear hwc
          have hbc := hb4.trans (hw3.mono (by have := hb4.size; omega))
          have hOc := hO4.below hw3 (Nat.le_refl _)
          have hRJ := hOc.rjT rfl hwf.1 hwf.2
          have qR := fun i => cell_of_row wc w3.heap.size i _ _ _ hNr
          obtain ⟨rx, hrx⟩ : ∃ n, n = readL x := ⟨_, rfl⟩
          obtain ⟨ry, hry⟩ : ∃ n, n = readL y := ⟨_, rfl⟩
          obtain ⟨rz, hrz⟩ : ∃ n, n = readL z := ⟨_, rfl⟩
          rw [← hrx, ← hry, ← hrz] at hNr qR HP
          clear hrx hry hrz q3 q31 q32 qN0 qN1 qN2 qN3
          go_wp2_with fail
          refine (raGood_any bs bf bo rx ry rz A c bl wc hRJ).mono ?_
          rintro e w5 ⟨rfl, hv⟩
          have hb5 := hbc.trans (hv.mono (by have := hbc.size; omega))
          have q0 := cell_atT hb5 (by omega) k0
          have f0 := free_atT hb5 (by omega) k0
          have qR5 := fun i => cell_of_row w5 w3.heap.size i _ _ _ ((hv.block w3.heap.size (by omega)).trans hNr)
          have hb1 := h0.trans (hb5.mono (by omega))
          have hO5 := hOc.below hv (Nat.le_refl _)
          have hlt0 : w.heap.size < w5.heap.size := by have := hb5.size; omega
          clear qR hNr hOc hO4
          cases hok : raceOk bs bf bo bl rx ry rz
          · have HPn := Lib.hid (show raceS s = none by rw [HP.out, show rcOk ⟨⟨bs, bf, bo, bl⟩, rx, ry, rz⟩ = false from hok]; rfl)
            clear hok
            go_wp2_with fail
            refine bodyPost_ret (v := .tuple #[.agg #[.int .i64 0, .int .i64 0, .int .i64 0, .slice none 0 0, .int .i64 0, .int .i64 0, .int .i64 0], .bool false]) (by simp [results, Tryd.results27, go_sem, q0]) rfl ?_
            rw [HPn.out]
            exact raceBack_none (set7B hb1 (Nat.le_refl _) _ _ _ _ _ _ _)
          · have HPo := Lib.hid (show raceS s = some ⟨⟨bs, bf, bo, bl⟩, rx, ry, rz⟩ by rw [HP.out, show rcOk ⟨⟨bs, bf, bo, bl⟩, rx, ry, rz⟩ = true from hok]; rfl)
            clear hok
            go_wp2_with fail
            refine bodyPost_ret (v := .tuple #[.agg #[.int .i64 bs, .int .i64 bf, .int .i64 bo, .slice A bl.length c, .int .i64 rx, .int .i64 ry, .int .i64 rz], .bool true]) (by simp [results, Tryd.results27, go_sem, q0]) rfl ?_
            rw [HPo.out]
            exact ⟨A, c, rfl, OJ.loT (lo := w.heap.size + 1) (set7O (lo := w.heap.size + 1) hO5 (Nat.lt_succ_self _) _ _ _ _ _ _ _) (Nat.le_succ _), set7B hb1 (Nat.le_refl _) _ _ _ _ _ _ _⟩
    · have HP := Lib.hid (raceS_no3 HPQ.out hn3)
      have hn3' : (((splitL 58 q).length : Int) != 3) = true := by simp; omega
      clear hn3
      go_enter Tryd.func27, Tryd.ntmps27
      go_wp2_with fail
      rw [← HW.out]
      refine hsp.mono ?_
      rintro e w1 ⟨g1, c1, rfl, ⟨hg1, hc1⟩, hr1, hx⟩
      rw [z0] at hx hg1
      have q1 := hr1.cell (k := 0) (by simp)
      simp only [List.getElem_cons_zero] at q1
      have hlt1 := hr1.lt
      clear hsp
      go_wp2_with fail
      refine (sqParse_any p w1 (by omega)).mono ?_
      rintro e w2 ⟨⟨bs, bf, bo, bl⟩, A, c, ok, rfl, hO, hy, _⟩
      dsimp only at hO ⊢
      have hr2 := hr1.below hy hlt1
      have hlt2 : g1 < w2.heap.size := by have := hy.size; omega
      have hs2 : w.heap.size + 1 ≤ w2.heap.size := by have := hx.size; have := hy.size; omega
      have q2 := hr2.cell (k := 1) (by simp)
      simp only [List.getElem_cons_zero, List.getElem_cons_succ] at q2
      have hb2 := hx.trans (hy.mono (by have := hx.size; omega))
      have hb3 := hb2.alloc hs2 (.cells #[.int .i64 bs, .int .i64 bf, .int .i64 bo, .slice A bl.length c] 32)
      clear q1
      go_wp2_with fail
      refine (l1Split_any q 58 _ (by omega)).mono ?_
      rintro e w3 ⟨g3, c3, rfl, ⟨hg3, hc3⟩, hr3, hz⟩
      simp only [World.size_alloc] at hz hg3
      have hb4 := hb3.trans (hz.mono (by omega))
      have q0 := cell_atT hb4 (by omega) k0
      have f0 := free_atT hb4 (by omega) k0
      have hb1 := h0.trans (hb4.mono (by omega))
      have hlt0 : w.heap.size < w3.heap.size := by have := hb4.size; omega
      clear q2 hr1 hr2 hr3 hO hz
      cases ok
      all_goals
        go_wp2_with fail
        refine bodyPost_ret (v := .tuple #[.agg #[.int .i64 0, .int .i64 0, .int .i64 0, .slice none 0 0, .int .i64 0, .int .i64 0, .int .i64 0], .bool false]) (by simp [results, Tryd.results27, go_sem, q0]) rfl ?_
        rw [HP.out]
        exact raceBack_none (set7B hb1 (Nat.le_refl _) _ _ _ _ _ _ _)
  · have HP := Lib.hid (raceS_parts hn2)
    have hn2' : (((splitL 64 s).length : Int) != 2) = true := by simp; omega
    clear hn2
    go_enter Tryd.func27, Tryd.ntmps27
    go_wp2_with fail
    rw [← HW.out]
    refine hsp.mono ?_
    rintro e w1 ⟨g1, c1, rfl, ⟨hg1, hc1⟩, hr1, hx⟩
    rw [z0] at hx hg1
    have q0 := cell_atT hx (by omega) k0
    have f0 := free_atT hx (by omega) k0
    have hb1 := h0.trans (hx.mono (by omega))
    have hlt0 : w.heap.size < w1.heap.size := by have := hx.size; omega
    clear hsp hr1
    go_wp2_with fail
    refine bodyPost_ret (v := .tuple #[.agg #[.int .i64 0, .int .i64 0, .int .i64 0, .slice none 0 0, .int .i64 0, .int .i64 0, .int .i64 0], .bool false]) (by simp [results, Tryd.results27, go_sem, q0]) rfl ?_
    rw [HP.out]
    exact raceBack_none (set7B hb1 (Nat.le_refl _) _ _ _ _ _ _ _)

set_option maxHeartbeats 800000 in
set_option maxRecDepth 100000 in
theorem specParseRace_any (s : List UInt8) (w : World) (hs : s.length ≤ 1048576) :
    Calls Tryd.prog 11 #[strV s] w (RaceBack w.heap.size w (raceS s)) := by
  obtain ⟨W0, hW0⟩ : ∃ W0, W0 = w.alloc (.cells #[.int .i64 0, .int .i64 0, .int .i64 0, .slice none 0 0, .int .i64 0, .int .i64 0, .int .i64 0] 34) := ⟨_, rfl⟩
  have z0 : W0.heap.size = w.heap.size + 1 := by rw [hW0]; simp
  have h0 : Below w.heap.size w W0 := by rw [hW0]; exact below1 _ _
  have k0 : W0.heap[w.heap.size]? = some (.cells #[.int .i64 0, .int .i64 0, .int .i64 0, .slice none 0 0, .int .i64 0, .int .i64 0, .int .i64 0] 34 (0, 0)) := by rw [hW0]; exact heap_alloc_at _ _ _ rfl
  have hcon := raParse_any s W0 hs
  go_enter Tryd.func11, Tryd.ntmps11
  go_wp2_with fail
  rw [← hW0]
  clear hW0
  refine hcon.mono ?_
  rintro e w1 ⟨A, c, rfl, hO, hx⟩
  obtain ⟨r, hr⟩ : ∃ r, r = raceS s := ⟨_, rfl⟩
  rw [← hr] at hO ⊢
  have HRR := Lib.hid hr; clear hr
  obtain ⟨x, hxx⟩ : ∃ x, x = r.getD ⟨⟨0, 0, 0, []⟩, 0, 0, 0⟩ := ⟨_, rfl⟩
  obtain ⟨ok, hok⟩ : ∃ ok, ok = r.isSome := ⟨_, rfl⟩
  rw [← hxx] at hO
  rw [← hxx, ← hok]
  have HR := Lib.hid (And.intro hxx hok); clear hxx hok
  obtain ⟨⟨bs, bf, bo, bl⟩, me, fi, ot⟩ := x
  dsimp only at hO ⊢
  have hlt : w.heap.size < w1.heap.size := by have := hx.size; omega
  have hb := h0.trans (hx.mono (by omega))
  have q0 := cell_atT hx (by omega) k0
  have f0 := free_atT hx (by omega) k0
  go_wp2_with fail
  refine bodyPost_ret (v := .tuple #[.agg #[.int .i64 bs, .int .i64 bf, .int .i64 bo, .slice A bl.length c, .int .i64 me, .int .i64 fi, .int .i64 ot], .bool ok]) (by simp [results, Tryd.results11, go_sem, q0]) rfl ?_
  rw [← HRR.out]
  unfold RaceBack
  rw [← HR.out.1, ← HR.out.2]
  rw [z0] at hO
  exact ⟨A, c, rfl, OJ.loT (lo := w.heap.size + 1) (set7O (lo := w.heap.size + 1) hO (Nat.lt_succ_self _) _ _ _ _ _ _ _) (Nat.le_succ _), set7B hb (Nat.le_refl _) _ _ _ _ _ _ _⟩

/-- A race and a Bool handed back, the jumps in a row of its own. -/
def RcIs (b1 b2 b3 : Int) (bl : List (Int × Int)) (me fi ot : Int) (ok : Bool) (w : World) (e : Ending) (w' : World) : Prop :=
  ∃ A' c', e = .returned (.tuple #[.agg #[.int .i64 b1, .int .i64 b2, .int .i64 b3, .slice A' bl.length c', .int .i64 me, .int .i64 fi, .int .i64 ot], .bool ok]) ∧ OJ w' w.heap.size 57 A' bl.length (fun k => bl.getD k (0, 0)) ∧ Below w.heap.size w w'
theorem parseRace_both (s : List UInt8) (hs : s.length ≤ 1048576) : ∃ (b1 b2 b3 : Int) (bl : List (Int × Int)) (me fi ot : Int) (ok : Bool), bl.length ≤ 1048576 ∧ wfJ bl ∧
    (∀ w : World, Calls Tryd.prog 11 #[strV s] w (RcIs b1 b2 b3 bl me fi ot ok w)) ∧
    (∀ w : World, Texts w → Calls Tryd.prog 12 #[strV s] w (RcIs b1 b2 b3 bl me fi ot ok w)) := by
  have h1 := fun w => specParseRace_any s w hs
  have h2 := fun w ht => implParseRace_any s w ht hs
  rw [raceP_eq] at h2
  cases hr : raceS s with
  | none =>
    rw [hr] at h1 h2
    exact ⟨0, 0, 0, [], 0, 0, 0, false, by simp, fun j hj => by simp at hj, fun w => h1 w, fun w ht => h2 w ht⟩
  | some r =>
    rw [hr] at h1 h2
    have hg := good_wfJ (rc_parts (raceS_some hr).1).1
    exact ⟨r.b.sq, r.b.fa, r.b.ov, r.b.js, r.me, r.fi, r.ot, true, hg.1, hg.2, fun w => h1 w, fun w ht => h2 w ht⟩
end Go.Proofs.YtbblmbibddjedacDoor

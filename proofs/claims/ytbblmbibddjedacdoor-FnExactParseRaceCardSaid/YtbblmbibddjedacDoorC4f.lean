/-
  Races read out of texts: placesOf, ParseRace on both sides.
-/
import Derived.Test.YtbblmbibddjedacDoorM20
import Derived.Test.YtbblmbibddjedacDoorC1cl
import Derived.Deep.CutRange
namespace Go.Proofs.YtbblmbibddjedacDoor
open Go.RowKit

set_option maxRecDepth 100000 in
set_option maxHeartbeats 1000000 in
theorem placesOf_any (s : List UInt8) (w : World) (ht : Texts w) (hs : s.length ≤ 1048576) :
    Calls Tryd.prog 29 #[.string ⟨s.toArray⟩] w fun e w' => ∃ a b c : Int, e = .returned (.tuple #[.agg #[.int .i64 0, .int .i64 0, .int .i64 0, .slice none 0 0, .int .i64 a, .int .i64 b, .int .i64 c], .bool (placesP s).isSome]) ∧ (∀ p, placesP s = some p → p = (a, b, c)) ∧ Below w.heap.size w w' := by
  have hc := cut_len s 58
  have ht1 : Texts (w.alloc (.cells #[.int .i64 0, .int .i64 0, .int .i64 0, .slice none 0 0, .int .i64 0, .int .i64 0, .int .i64 0] 34)) := ht.on (below1 _ _)
  have hcut := cut_any s 58 _ ht1 hs
  have hP : ∀ a r ok, Lib.cut s [58] = (a, r, ok) → placesP s = if ok then (atoiP a).bind fun m => (aroundP 58 r).map fun xy => (m, xy.1, xy.2) else none := fun a r ok h => by unfold placesP; rw [h]
  obtain ⟨a, r, ok, hcr⟩ : ∃ a r ok, Lib.cut s [58] = (a, r, ok) := ⟨_, _, _, rfl⟩
  rw [hcr] at hc hcut
  replace hP := hP a r ok hcr
  clear hcr
  dsimp only at hc hcut
  cases ok
  · have HP := Lib.hid (show placesP s = none from hP); clear hP
    rw [HP.out]
    go_enter Tryd.func29, Tryd.ntmps29
    go_wp2_with fail
    refine hcut.mono ?_
    rintro e w1 ⟨rfl, hx⟩
    have hb := box_on (Below.refl _ _) hx (by simp)
    have B1 := box_row hb
    have q1 := fun i => cell_of_row w1 w.heap.size i _ _ _ B1
    have f1 := fun i => frozen_row (i := i) B1
    replace hb := (below1 _ _).trans (hb.mono (by omega))
    clear B1
    go_wp2_with fail
    exact bodyPost_ret (v := .tuple #[.agg #[.int .i64 0, .int .i64 0, .int .i64 0, .slice none 0 0, .int .i64 0, .int .i64 0, .int .i64 0], .bool false]) (by simp [results, Tryd.results29, go_sem, q1]) rfl ⟨0, 0, 0, rfl, (fun p h => by cases h), (((((((hb.setCell (by dsimp only; omega) _).setCell (by dsimp only; omega) _).setCell (by dsimp only; omega) _).setCell (by dsimp only; omega) _).setCell (by dsimp only; omega) _).setCell (by dsimp only; omega) _).setCell (by dsimp only; omega) _)⟩
  · cases ha : atoiP a with
    | none =>
      have HP := Lib.hid (show placesP s = none by rw [hP, ha]; rfl); clear hP
      have Ha := Lib.hid ha; clear ha
      rw [HP.out]
      go_enter Tryd.func29, Tryd.ntmps29
      go_wp2_with fail
      refine hcut.mono ?_
      rintro e w1 ⟨rfl, hx⟩
      have hb := box_on (Below.refl _ _) hx (by simp)
      go_wp2_with fail
      refine (atoi_no a w1 (ht1.on hx) (by omega) Ha.out).mono ?_
      rintro e w3 ⟨n, t, p, rfl, hz⟩
      replace hb := box_on hb hz (by have := hb.size; simpa using this)
      have B1 := box_row hb
      have q1 := fun i => cell_of_row w3 w.heap.size i _ _ _ B1
      have f1 := fun i => frozen_row (i := i) B1
      replace hb := (below1 _ _).trans (hb.mono (by omega))
      clear B1
      go_wp2_with fail
      exact bodyPost_ret (v := .tuple #[.agg #[.int .i64 0, .int .i64 0, .int .i64 0, .slice none 0 0, .int .i64 0, .int .i64 0, .int .i64 0], .bool false]) (by simp [results, Tryd.results29, go_sem, q1]) rfl ⟨0, 0, 0, rfl, (fun p h => by cases h), (((((((hb.setCell (by dsimp only; omega) _).setCell (by dsimp only; omega) _).setCell (by dsimp only; omega) _).setCell (by dsimp only; omega) _).setCell (by dsimp only; omega) _).setCell (by dsimp only; omega) _).setCell (by dsimp only; omega) _)⟩
    | some n =>
      obtain ⟨x, y, k, hxy, hk, hp⟩ : ∃ (x y : Int) (k : Bool), ((aroundP 58 r).getD (0, 0)) = (x, y) ∧ (aroundP 58 r).isSome = k ∧ (placesP s).isSome = k ∧ ∀ p, placesP s = some p → p = (n, x, y) := by
        rw [hP, ha]
        cases hr : aroundP 58 r with
        | none => exact ⟨0, 0, false, rfl, rfl, rfl, fun p h => by cases h⟩
        | some xy => exact ⟨xy.1, xy.2, true, rfl, rfl, rfl, fun p h => by simpa using h.symm⟩
      have HX := Lib.hid hxy; have HK := Lib.hid hk; have HP := Lib.hid hp; have HA := Lib.hid ha
      clear hxy hk hp hP ha
      rw [HP.out.1]
      go_enter Tryd.func29, Tryd.ntmps29
      go_wp2_with fail
      refine hcut.mono ?_
      rintro e w1 ⟨rfl, hx⟩
      have hb := box_on (Below.refl _ _) hx (by simp)
      go_wp2_with fail
      refine (atoi_ok a n w1 (by omega) HA.out).mono ?_
      rintro e w2 ⟨rfl, hy⟩
      replace hb := box_on hb hy (by have := hb.size; simpa using this)
      have ht2 := (ht1.on hx).on hy
      go_wp2_with fail
      refine (numbersAround_any r 58 w2 ht2 (by omega)).mono ?_
      rintro e w3 ⟨rfl, hz⟩
      rw [HX.out, HK.out]
      dsimp only
      replace hb := box_on hb hz (by have := hb.size; simpa using this)
      have B1 := box_row hb
      have q1 := fun i => cell_of_row w3 w.heap.size i _ _ _ B1
      have f1 := fun i => frozen_row (i := i) B1
      replace hb := (below1 _ _).trans (hb.mono (by omega))
      clear B1
      go_wp2_with fail
      exact bodyPost_ret (v := .tuple #[.agg #[.int .i64 0, .int .i64 0, .int .i64 0, .slice none 0 0, .int .i64 n, .int .i64 x, .int .i64 y], .bool k]) (by simp [results, Tryd.results29, go_sem, q1]) rfl ⟨n, x, y, rfl, HP.out.2, (((((((hb.setCell (by dsimp only; omega) _).setCell (by dsimp only; omega) _).setCell (by dsimp only; omega) _).setCell (by dsimp only; omega) _).setCell (by dsimp only; omega) _).setCell (by dsimp only; omega) _).setCell (by dsimp only; omega) _)⟩
end Go.Proofs.YtbblmbibddjedacDoor

/-
  The program's plainOf.
-/
import Derived.Test.YtbblmbibddjedacDoorC1ch
import Derived.Test.YtbblmbibddjedacDoorC1p
namespace Go.Proofs.YtbblmbibddjedacDoor
open Go.RowKit

/-- What plainOf gives: the numbers of a board without jumps, and whether there is one. -/
def plainP (s : List UInt8) : (Int × Int × Int) × Bool :=
  if (Lib.cut s [47]).2.2 then
    match aroundP 100 (Lib.cut s [47]).1, atoiP (Lib.cut s [47]).2.1 with
    | some (x, y), some n => plainR x y n
    | _, _ => ((0, 0, 0), false)
  else ((0, 0, 0), false)
theorem box_row {w wr : World} {cs : Array Value} {t : TypeId} (hb : Below (w.heap.size + 1) (w.alloc (.cells cs t)) wr) : wr.heap[w.heap.size]? = some (.cells cs t (0, 0)) :=
  (hb.block _ (by omega)).trans (heap_alloc_at _ _ _ rfl)
/-- A board's value. -/
abbrev bdV (a b c : Int) : Value := .agg #[.int .i64 a, .int .i64 b, .int .i64 c, .slice none 0 0]

set_option maxRecDepth 100000 in
set_option maxHeartbeats 1000000 in
theorem plainOf_any (s : List UInt8) (w : World) (ht : Texts w) (hs : s.length ≤ 1048576) :
    Calls Tryd.prog 31 #[.string ⟨s.toArray⟩] w fun e w' => e = .returned (.tuple #[bdV (plainP s).1.1 (plainP s).1.2.1 (plainP s).1.2.2, .bool (plainP s).2]) ∧ Below w.heap.size w w' := by
  have hc := cut_len s 47
  have ht1 : Texts (w.alloc (.cells #[.int .i64 0, .int .i64 0, .int .i64 0, .slice none 0 0] 32)) := ht.on (below1 _ _)
  have hcut := cut_any s 47 _ ht1 hs
  have hP : ∀ a r ok, Lib.cut s [47] = (a, r, ok) → plainP s = if ok then (match aroundP 100 a, atoiP r with | some (x, y), some n => plainR x y n | _, _ => ((0, 0, 0), false)) else ((0, 0, 0), false) := fun a r ok h => by unfold plainP; rw [h]
  obtain ⟨a, r, ok, hcr⟩ : ∃ a r ok, Lib.cut s [47] = (a, r, ok) := ⟨_, _, _, rfl⟩
  rw [hcr] at hc hcut
  replace hP := hP a r ok hcr
  clear hcr
  dsimp only at hc hcut
  cases ok
  · have HP := Lib.hid (show plainP s = ((0, 0, 0), false) from hP); clear hP
    rw [HP.out]
    go_enter Tryd.func31, Tryd.ntmps31
    go_wp2_with fail
    refine hcut.mono ?_
    rintro e w1 ⟨rfl, hx⟩
    have hb := box_on (Below.refl _ _) hx (by simp)
    have B1 := box_row hb
    have q1 := fun i => cell_of_row w1 w.heap.size i _ _ _ B1
    have f1 := fun i => frozen_row (i := i) B1
    replace hb := (below1 _ _).trans (hb.mono (by omega))
    clear B1
    go_wp2_with fail
    exact bodyPost_ret (v := .tuple #[bdV 0 0 0, .bool false]) (by simp [results, Tryd.results31, go_sem, q1]) rfl ⟨rfl, (((hb.setCell (Nat.le_refl _) _).setCell (Nat.le_refl _) _).setCell (Nat.le_refl _) _).setCell (Nat.le_refl _) _⟩
  · cases ha : aroundP 100 a with
    | none =>
      have HP := Lib.hid (show plainP s = ((0, 0, 0), false) by rw [hP, ha]; rfl); clear hP
      have Ha := Lib.hid ha; clear ha
      rw [HP.out]
      go_enter Tryd.func31, Tryd.ntmps31
      go_wp2_with fail
      refine hcut.mono ?_
      rintro e w1 ⟨rfl, hx⟩
      have hb := box_on (Below.refl _ _) hx (by simp)
      go_wp2_with fail
      refine (numbersAround_any a 100 w1 (ht1.on hx) (by omega)).mono ?_
      rintro e w2 ⟨rfl, hy⟩
      rw [Ha.out]
      dsimp only [Option.getD_none, Option.isSome_none]
      replace hb := box_on hb hy (by have := hb.size; simpa using this)
      have B1 := box_row hb
      have q1 := fun i => cell_of_row w2 w.heap.size i _ _ _ B1
      have f1 := fun i => frozen_row (i := i) B1
      replace hb := (below1 _ _).trans (hb.mono (by omega))
      clear B1
      go_wp2_with fail
      exact bodyPost_ret (v := .tuple #[bdV 0 0 0, .bool false]) (by simp [results, Tryd.results31, go_sem, q1]) rfl ⟨rfl, (((hb.setCell (Nat.le_refl _) _).setCell (Nat.le_refl _) _).setCell (Nat.le_refl _) _).setCell (Nat.le_refl _) _⟩
    | some xy =>
      obtain ⟨x, y⟩ := xy
      have Ha := Lib.hid ha
      cases hr : atoiP r with
      | none =>
        have HP := Lib.hid (show plainP s = ((0, 0, 0), false) by rw [hP, ha, hr]; rfl); clear hP ha
        rw [HP.out]
        go_enter Tryd.func31, Tryd.ntmps31
        go_wp2_with fail
        refine hcut.mono ?_
        rintro e w1 ⟨rfl, hx⟩
        have hb := box_on (Below.refl _ _) hx (by simp)
        go_wp2_with fail
        refine (numbersAround_any a 100 w1 (ht1.on hx) (by omega)).mono ?_
        rintro e w2 ⟨rfl, hy⟩
        rw [Ha.out]
        dsimp only [Option.getD_some, Option.isSome_some]
        replace hb := box_on hb hy (by have := hb.size; simpa using this)
        have ht2 := (ht1.on hx).on hy
        go_wp2_with fail
        refine (atoi_no r w2 ht2 (by omega) hr).mono ?_
        rintro e w3 ⟨n, t, p, rfl, hz⟩
        replace hb := box_on hb hz (by have := hb.size; simpa using this)
        have B1 := box_row hb
        have q1 := fun i => cell_of_row w3 w.heap.size i _ _ _ B1
        have f1 := fun i => frozen_row (i := i) B1
        replace hb := (below1 _ _).trans (hb.mono (by omega))
        clear B1
        go_wp2_with fail
        exact bodyPost_ret (v := .tuple #[bdV 0 0 0, .bool false]) (by simp [results, Tryd.results31, go_sem, q1]) rfl ⟨rfl, (((hb.setCell (Nat.le_refl _) _).setCell (Nat.le_refl _) _).setCell (Nat.le_refl _) _).setCell (Nat.le_refl _) _⟩
      | some n =>
        have HP := Lib.hid (show plainP s = plainR x y n by rw [hP, ha, hr]; rfl); clear hP ha
        rw [HP.out]
        go_enter Tryd.func31, Tryd.ntmps31
        go_wp2_with fail
        refine hcut.mono ?_
        rintro e w1 ⟨rfl, hx⟩
        have hb := box_on (Below.refl _ _) hx (by simp)
        go_wp2_with fail
        refine (numbersAround_any a 100 w1 (ht1.on hx) (by omega)).mono ?_
        rintro e w2 ⟨rfl, hy⟩
        rw [Ha.out]
        dsimp only [Option.getD_some, Option.isSome_some]
        replace hb := box_on hb hy (by have := hb.size; simpa using this)
        go_wp2_with fail
        refine (atoi_ok r n w2 (by omega) hr).mono ?_
        rintro e w3 ⟨rfl, hz⟩
        replace hb := box_on hb hz (by have := hb.size; simpa using this)
        go_wp2_with fail
        refine (implPlainBoard_any x y n w3).mono ?_
        rintro e w4 ⟨rfl, hv⟩
        replace hb := box_on hb hv (by have := hb.size; simpa using this)
        have B1 := box_row hb
        have q1 := fun i => cell_of_row w4 w.heap.size i _ _ _ B1
        have f1 := fun i => frozen_row (i := i) B1
        replace hb := (below1 _ _).trans (hb.mono (by omega))
        clear B1
        go_wp2_with fail
        exact bodyPost_ret (v := .tuple #[bdV (plainR x y n).1.1 (plainR x y n).1.2.1 (plainR x y n).1.2.2, .bool (plainR x y n).2]) (by simp [results, Tryd.results31, go_sem, q1]) rfl ⟨rfl, (((hb.setCell (Nat.le_refl _) _).setCell (Nat.le_refl _) _).setCell (Nat.le_refl _) _).setCell (Nat.le_refl _) _⟩
end Go.Proofs.YtbblmbibddjedacDoor

/-
  Tracks: slices.IndexFunc and slices.DeleteFunc at tokens with the closure of sentBy; sentBy.
-/
import Derived.Test.YtmhffdgfkgdmlaaC7i
namespace Go.Proofs.Ytmhffdgfkgdmlaa
open Go.RowKit

theorem cloSent_any (a b pl : Int) (cb : Nat) (w : World) (hcb : cb < w.heap.size) (hc : w.cell? ⟨cb, 0, none⟩ = some (.int .i64 pl)) :
    Calls Try.prog 142 #[.agg #[.int .i64 a, .int .i64 b], .pointer (some ⟨cb, 0, none⟩)] w fun e w' => e = .returned (.bool (a == pl)) ∧ Below w.heap.size w w' := by
  go_enter Try.func142, Try.ntmps142
  go_wp2
  go_ret
  exact ⟨rfl, below1 _ _⟩

/-- A token of another player. -/
def keepP (pl : Int) (a : Int × Int) : Bool := !(a.1 == pl)

set_option maxHeartbeats 1000000 in
theorem idxSent_any (b c : Nat) (L : List (Int × Int)) (pl : Int) (cb : Nat) (r : Int) (w : World) (hrow : RowJ w b 163 L.length (fun y => L.getD y (0, 0))) (hl : L.length ≤ 1048576) (hcb : cb < w.heap.size) (hc : w.cell? ⟨cb, 0, none⟩ = some (.int .i64 pl))
    (hr : ∀ j, j < L.length → keepP pl (L.getD j (0, 0)) = false → (∀ i < j, keepP pl (L.getD i (0, 0)) = true) → r = (j : Int)) (hn : (∀ j < L.length, keepP pl (L.getD j (0, 0)) = true) → r = -1) :
    Calls Try.prog 150 #[.slice (some ⟨b, 0, none⟩) L.length c, .func (.func 142) #[] #[.pointer (some ⟨cb, 0, none⟩)]] w fun e w' => e = .returned (.int .i64 r) ∧ Below w.heap.size w w' := by
  have HR := Lib.hid hr; have HN := Lib.hid hn
  clear hr hn
  go_enter Try.func150, Try.ntmps150
  go_wp2
  go_loopw [8] (fun i wr => ∃ k : Nat, k ≤ L.length ∧ i = .int .i64 k ∧ Below w.heap.size w wr ∧ Hid (∀ j < k, keepP pl (L.getD j (0, 0)) = true)) (fun i _ => L.length - (intOf i).toNat)
  case atStart => exact ⟨0, Nat.zero_le _, rfl, Below.refl _ _, Lib.hid (fun j h => by omega)⟩
  case round =>
    obtain ⟨k, hk, rfl, hb, hall⟩ := hrel
    have hsz := hb.size
    by_cases hlt : k < L.length
    · have hrw := hrow.below hb hrow.lt
      have d1 := hrw.cell1 hlt
      have d2 := hrw.cell2 hlt
      have hcw := (bcell hb hcb).trans hc
      have hkp : keepP pl (L.getD k (0, 0)) = !((L.getD k (0, 0)).1 == pl) := rfl
      obtain ⟨x, hx⟩ : ∃ x, x = (L.getD k (0, 0)).1 := ⟨_, rfl⟩
      obtain ⟨y, hy⟩ : ∃ y, y = (L.getD k (0, 0)).2 := ⟨_, rfl⟩
      rw [← hx] at d1 hkp
      rw [← hy] at d2
      have HK := Lib.hid hkp
      clear hx hy hkp
      cases he : (x == pl)
      · have HE := Lib.hid he
        go_wp2_with fail
        refine (cloSent_any x y pl cb wr (by omega) hcw).mono ?_
        rintro e w2 ⟨rfl, hx2⟩
        rw [HE.out]
        go_wp2_with fail
        go_roundw
        case rel => exact ⟨k + 1, by omega, by go_num, hb.trans (hx2.mono hsz), Lib.hid (fun j hj => by
          by_cases e : j = k
          · subst e; rw [HK.out, HE.out]; rfl
          · exact hall.out j (by omega))⟩
        case measure => simp [intOf]; omega
      · have HE := Lib.hid he
        go_wp2_with fail
        refine (cloSent_any x y pl cb wr (by omega) hcw).mono ?_
        rintro e w2 ⟨rfl, hx2⟩
        rw [HE.out]
        go_wp2
        go_ret
        exact ⟨ret_int (HR.out k hlt (by rw [HK.out, HE.out]; rfl) hall.out).symm, hb.trans (hx2.mono hsz)⟩
    · obtain rfl : k = L.length := by omega
      go_wp2
      go_ret
      exact ⟨ret_int (HN.out hall.out).symm, hb⟩
end Go.Proofs.Ytmhffdgfkgdmlaa

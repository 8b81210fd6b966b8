/-
  Marks on a slice of integers: what they write to besides it: nothing.
-/
import Derived.Test.YtiekdokgjdgajaaL2
namespace Go.Proofs.Ytiekdokgjdgajaa
open Go.RowKit

set_option maxHeartbeats 400000 in
theorem markIntSg_any (A : Option Addr) (n c lo : Nat) (F : Nat → Int) (k0 : Int) (w : World) (h : OI w lo 3 A n F) (hn : n ≤ 1048576) (h0 : 0 ≤ k0) (h1 : k0 ≤ 1000000000) :
    Calls Try.prog 28 #[.slice A n c, .int .i64 k0] w fun e w' => e = .returned (.int .i64 (k0 + n)) ∧ OI w' lo 3 A n (marksI k0) ∧ (∀ B, B ≤ lo → Below B w w') ∧ w'.heap.size = w.heap.size ∧ w.grownBy w' (A.map (·.block)) := by
  go_enter Try.func28, Try.ntmps28
  go_wp2
  go_loopw [1, 5] (fun v i wr => ∃ k : Nat, k ≤ n ∧ i = .int .i64 k ∧ v = .int .i64 (k0 + k) ∧ OI wr lo 3 A n (fun j => if j < k then marksI k0 j else F j) ∧ Hid (∀ B, B ≤ lo → Below B w wr) ∧ Hid (wr.heap.size = w.heap.size) ∧ w.grownBy wr (A.map (·.block))) (fun _ i _ => n - (intOf i).toNat)
  case atStart => exact ⟨0, Nat.zero_le _, rfl, by simp, h.congr (by simp), Lib.hid (fun _ _ => Below.refl _ _), Lib.hid rfl, grown_refl _ _⟩
  case round =>
    obtain ⟨k, hk, rfl, rfl, ho, hg, hsz, hgr⟩ := hrel
    by_cases hlt : k < n
    · obtain ⟨g, rfl, hlo, hr⟩ := ho.get hlt
      have c1 := hr.cell hlt
      have f1 := hr.free k
      go_wp2
      go_roundw
      case rel => exact ⟨k + 1, by omega, by go_num, by go_num, .inr ⟨g, rfl, hlo, (hr.set hlt _).congr (fun j hj => by
        by_cases e : j = k
        · subst e; simp [marksI]
        · have e2 : (j < k + 1) = (j < k) := by apply propext; omega
          simp [e, e2])⟩, Lib.hid (fun B hB => (hg.out B hB).setCell (by dsimp only; omega) _), Lib.hid (by simp; exact hsz.out), grown_setCell hgr ⟨g, k, none⟩ _ rfl⟩
      case measure => simp [intOf]; omega
    · obtain rfl : k = n := by omega
      go_wp2
      go_ret
      exact ⟨rfl, ho.congr (fun j hj => by simp [hj]), hg.out, hsz.out, hgr⟩

end Go.Proofs.Ytiekdokgjdgajaa

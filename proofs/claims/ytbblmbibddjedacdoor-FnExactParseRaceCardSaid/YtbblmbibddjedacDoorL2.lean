/-
  Contracts of the laws' helpers on marks and on slices of integers.
-/
import Derived.Test.YtbblmbibddjedacDoorL1
import Derived.BigQuiet
import Derived.Deep.QuietTactic
namespace Go.Proofs.YtbblmbibddjedacDoor
open Go.RowKit

/-- What marks write, from k on. -/
def marksJ (k : Int) (i : Nat) : Int × Int := (k + 2 * i, k + 2 * i + 1)
def marksI (k : Int) (i : Nat) : Int := k + i

set_option maxHeartbeats 400000 in
theorem markJumpS_any (A : Option Addr) (n c lo : Nat) (F : Nat → Int × Int) (k0 : Int) (w : World) (h : OJ w lo 57 A n F) (hn : n ≤ 1048576) (h0 : 0 ≤ k0) (h1 : k0 ≤ 1000000000) :
    Calls Tryd.prog 34 #[.slice A n c, .int .i64 k0] w fun e w' => e = .returned (.int .i64 (k0 + 2 * n)) ∧ OJ w' lo 57 A n (marksJ k0) ∧ w.grownBy w' (A.map (·.block)) ∧ w'.heap.size = w.heap.size ∧ (∀ B, B ≤ lo → Below B w w') := by
  go_enter Tryd.func34, Tryd.ntmps34
  go_wp2
  go_loopw [1, 5] (fun v i wr => ∃ k : Nat, k ≤ n ∧ i = .int .i64 k ∧ v = .int .i64 (k0 + 2 * k) ∧ OJ wr lo 57 A n (fun j => if j < k then marksJ k0 j else F j) ∧ w.grownBy wr (A.map (·.block)) ∧ Hid (wr.heap.size = w.heap.size) ∧ Hid (∀ B, B ≤ lo → Below B w wr)) (fun _ i _ => n - (intOf i).toNat)
  case atStart => exact ⟨0, Nat.zero_le _, rfl, by simp, h.congr (by simp), grown_refl _ _, Lib.hid rfl, Lib.hid (fun _ _ => Below.refl _ _)⟩
  case round =>
    obtain ⟨k, hk, rfl, rfl, ho, hg, hsz, hbl⟩ := hrel
    by_cases hlt : k < n
    · obtain ⟨g, rfl, hlo, hr⟩ := ho.get hlt
      have c1 := hr.cell1 hlt
      have c2 := hr.cell2 hlt
      have f1 := hr.free (k * 2)
      have f2 := hr.free (k * 2 + 1)
      go_wp2
      go_roundw
      case rel => exact ⟨k + 1, by omega, by go_num, by go_num, .inr ⟨g, rfl, hlo, (hr.set hlt _ _).congr (fun j hj => by
        by_cases e : j = k
        · subst e; simp [marksJ]
        · have e2 : (j < k + 1) = (j < k) := by apply propext; omega
          simp [e, e2])⟩, grown_setCell (grown_setCell hg ⟨g, k * 2, none⟩ _ rfl) ⟨g, k * 2 + 1, none⟩ _ rfl, Lib.hid (by simp; exact hsz.out), Lib.hid (fun B hB => ((hbl.out B hB).setCell (by dsimp only; omega) _).setCell (by dsimp only; omega) _)⟩
      case measure => simp [intOf]; omega
    · obtain rfl : k = n := by omega
      go_wp2
      go_ret
      exact ⟨rfl, ho.congr (fun j hj => by simp [hj]), hg, hsz.out, hbl.out⟩

set_option maxHeartbeats 400000 in
theorem heldJumpS_any (A : Option Addr) (n c lo : Nat) (k0 : Int) (w : World) (h : OJ w lo 57 A n (marksJ k0)) (hn : n ≤ 1048576) (h0 : 0 ≤ k0) (h1 : k0 ≤ 1000000000) :
    Calls Tryd.prog 35 #[.slice A n c, .int .i64 k0] w fun e w' => e = .returned (.int .i64 (k0 + 2 * n)) ∧ w = w' := by
  go_enter Tryd.func35, Tryd.ntmps35
  go_wp2
  go_loop [1, 5] (fun v i => ∃ k : Nat, k ≤ n ∧ i = .int .i64 k ∧ v = .int .i64 (k0 + 2 * k)) (fun _ i => n - (intOf i).toNat)
  case atStart => exact ⟨0, Nat.zero_le _, rfl, by simp⟩
  case round =>
    obtain ⟨k, hk, rfl, rfl⟩ := hrel
    by_cases hlt : k < n
    · obtain ⟨g, rfl, hlo, hr⟩ := h.get hlt
      have c1 : w.cell? ⟨g, k * 2, none⟩ = some (.int .i64 (k0 + 2 * k)) := hr.cell1 hlt
      have c2 : w.cell? ⟨g, k * 2 + 1, none⟩ = some (.int .i64 (k0 + 2 * k + 1)) := hr.cell2 hlt
      go_wp2
      go_round
      case rel => exact ⟨k + 1, by omega, by go_num, by go_num⟩
      case measure => simp [intOf]; omega
    · obtain rfl : k = n := by omega
      go_wp2
      go_ret
      exact ⟨rfl, rfl⟩

theorem markBoard_any (s f o : Int) (A : Option Addr) (n c lo : Nat) (F : Nat → Int × Int) (k0 : Int) (w : World) (h : OJ w lo 57 A n F) (hn : n ≤ 1048576) (h0 : 0 ≤ k0) (h1 : k0 ≤ 1000000000) :
    Calls Tryd.prog 18 #[.agg #[.int .i64 s, .int .i64 f, .int .i64 o, .slice A n c], .int .i64 k0] w fun e w' => e = .returned (.int .i64 (k0 + 2 * n)) ∧ OJ w' lo 57 A n (marksJ k0) ∧ w.grownBy w' (A.map (·.block)) := by
  have ha : OJ (w.alloc (.cells #[.int .i64 s, .int .i64 f, .int .i64 o, .slice A n c] 32)) lo 57 A n F := by
    rcases h with h | ⟨g, e, hl, h⟩
    · exact .inl h
    · exact .inr ⟨g, e, hl, h.alloc _⟩
  go_enter Tryd.func18, Tryd.ntmps18
  go_wp2_with (go_at_call 34; refine (markJumpS_any _ _ _ _ _ _ _ ha hn h0 h1).mono ?_; rintro e w2 ⟨rfl, ho, hg, _, _⟩)
  go_ret
  exact ⟨rfl, ho, grown_trans (World.grownBy_alloc w _ _) hg⟩

theorem heldBoard_any (s f o : Int) (A : Option Addr) (n c lo : Nat) (k0 : Int) (w : World) (h : OJ w lo 57 A n (marksJ k0)) (hn : n ≤ 1048576) (h0 : 0 ≤ k0) (h1 : k0 ≤ 1000000000) :
    Calls Tryd.prog 19 #[.agg #[.int .i64 s, .int .i64 f, .int .i64 o, .slice A n c], .int .i64 k0] w fun e w' => e = .returned (.int .i64 (k0 + 2 * n)) ∧ Below w.heap.size w w' := by
  have ha : OJ (w.alloc (.cells #[.int .i64 s, .int .i64 f, .int .i64 o, .slice A n c] 32)) lo 57 A n (marksJ k0) := h.below (below1 _ _) (Nat.le_refl _)
  have h2 : ¬ k0 + 2 * n < 0 := by omega
  go_enter Tryd.func19, Tryd.ntmps19
  go_wp2_with (go_at_call 35; refine (heldJumpS_any _ _ _ _ _ _ ha hn h0 h1).mono ?_; rintro e w2 ⟨rfl, rfl⟩)
  go_ret
  exact ⟨rfl, below1 _ _⟩

theorem infoInt : (Tryd.prog.info? 3).map (fun i => (i.zero, i.size, i.bytes)) = some (some (.int .i64 0), 1, 8) := by kernel_rfl




end Go.Proofs.YtbblmbibddjedacDoor

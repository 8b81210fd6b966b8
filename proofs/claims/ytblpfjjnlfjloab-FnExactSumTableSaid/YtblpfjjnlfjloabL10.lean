/-
  Slices of integers that begin inside of their row: marks on them. And the law on one that is handed back so.
-/
import Derived.Test.YtblpfjjnlfjloabL8
namespace Go.Proofs.Ytblpfjjnlfjloab
open Go.RowKit

/-- A slice of n integers of a row that the call itself made, from block lo on, wherever it begins. -/
def OX (w : World) (lo : Nat) (t : TypeId) (A : Option Addr) (n : Nat) (f : Nat → Int) : Prop := n = 0 ∨ ∃ g off F, A = some ⟨g, off, none⟩ ∧ lo ≤ g ∧ RowI w g t (off + n) F ∧ ∀ k < n, F (off + k) = f k
section
variable {w w' : World} {lo B n : Nat} {t : TypeId} {A : Option Addr} {f h' : Nat → Int}
theorem OX.get (h : OX w lo t A n f) {k : Nat} (hk : k < n) : ∃ g off F, A = some ⟨g, off, none⟩ ∧ lo ≤ g ∧ RowI w g t (off + n) F ∧ ∀ k < n, F (off + k) = f k := by
  rcases h with h | h
  · omega
  · exact h
theorem OX.below (h : OX w lo t A n f) (hb : Below B w w') (hB : w.heap.size ≤ B) : OX w' lo t A n f := by
  rcases h with h | ⟨g, off, F, e, hl, h, hf⟩
  · exact .inl h
  · exact .inr ⟨g, off, F, e, hl, h.below hb (Nat.lt_of_lt_of_le h.lt hB), hf⟩
theorem OX.congr (h : OX w lo t A n f) (he : ∀ k < n, f k = h' k) : OX w lo t A n h' := by
  rcases h with h | ⟨g, off, F, e, hl, h, hf⟩
  · exact .inl h
  · exact .inr ⟨g, off, F, e, hl, h, fun k hk => (hf k hk).trans (he k hk)⟩
theorem OX.ri {xs : List Int} (h : OX w lo t A xs.length (fun k => xs.getD k 0)) (hl : xs.length ≤ 1048576) : RI w w.heap.size A xs := by
  rcases h with h | ⟨g, off, F, e, _, h, hf⟩
  · exact ⟨hl, .inl (List.length_eq_zero_iff.1 h)⟩
  · refine ⟨hl, .inr ⟨g, off, e, h.lt, fun k hk => ?_⟩⟩
    have h1 := h.cell (show off + k < off + xs.length by omega)
    rw [hf k hk] at h1
    simpa [List.getD_eq_getElem?_getD, List.getElem?_eq_getElem hk] using h1
end
/-- A slice of ints wherever it begins, and a bool, are handed back. -/
def IntsBackX (w : World) (R : List Int × Bool) (e : Ending) (w' : World) : Prop :=
  ∃ A' c', e = .returned (.tuple #[.slice A' R.1.length c', .bool R.2]) ∧ OX w' w.heap.size 3 A' R.1.length (fun k => R.1.getD k 0) ∧ Below w.heap.size w w'

set_option maxHeartbeats 400000 in
theorem markIntX_any (A : Option Addr) (n c lo : Nat) (F : Nat → Int) (k0 : Int) (w : World) (h : OX w lo 3 A n F) (hn : n ≤ 1048576) (h0 : 0 ≤ k0) (h1 : k0 ≤ 1000000000) :
    Calls Try.prog 17 #[.slice A n c, .int .i64 k0] w fun e w' => e = .returned (.int .i64 (k0 + n)) ∧ OX w' lo 3 A n (marksI k0) ∧ (∀ B, B ≤ lo → Below B w w') ∧ w'.heap.size = w.heap.size := by
  go_enter Try.func17, Try.ntmps17
  go_wp2
  go_loopw [1, 5] (fun v i wr => ∃ k : Nat, k ≤ n ∧ i = .int .i64 k ∧ v = .int .i64 (k0 + k) ∧ OX wr lo 3 A n (fun j => if j < k then marksI k0 j else F j) ∧ Hid (∀ B, B ≤ lo → Below B w wr) ∧ Hid (wr.heap.size = w.heap.size)) (fun _ i _ => n - (intOf i).toNat)
  case atStart => exact ⟨0, Nat.zero_le _, rfl, by simp, h.congr (by simp), Lib.hid (fun _ _ => Below.refl _ _), Lib.hid rfl⟩
  case round =>
    obtain ⟨k, hk, rfl, rfl, ho, hg, hsz⟩ := hrel
    by_cases hlt : k < n
    · obtain ⟨g, off, G, rfl, hlo, hr, hf⟩ := ho.get hlt
      have c1 := hr.cell (show off + k < off + n by omega)
      have f1 := hr.free (off + k)
      have HF := Lib.hid hf
      clear hf
      go_wp2
      go_roundw
      case rel => exact ⟨k + 1, by omega, by go_num, by go_num, .inr ⟨g, off, _, rfl, hlo, hr.set (show off + k < off + n by omega) _, fun j hj => by
        by_cases e : j = k
        · subst e; simp [marksI]
        · have e2 : (j < k + 1) = (j < k) := by apply propext; omega
          have e3 : ¬ off + j = off + k := by omega
          rw [if_neg e3, HF.out j hj]
          simp [e2]⟩, Lib.hid (fun B hB => (hg.out B hB).setCell (by dsimp only; omega) _), Lib.hid (by simp; exact hsz.out)⟩
      case measure => simp [intOf]; omega
    · obtain rfl : k = n := by omega
      go_wp2
      go_ret
      exact ⟨rfl, ho.congr (fun j hj => by simp [hj]), hg.out, hsz.out⟩
set_option maxHeartbeats 400000 in
theorem heldIntX_any (A : Option Addr) (n c lo : Nat) (k0 : Int) (w : World) (h : OX w lo 3 A n (marksI k0)) (hn : n ≤ 1048576) (h0 : 0 ≤ k0) (h1 : k0 ≤ 1000000000) :
    Calls Try.prog 18 #[.slice A n c, .int .i64 k0] w fun e w' => e = .returned (.int .i64 (k0 + n)) ∧ w = w' := by
  go_enter Try.func18, Try.ntmps18
  go_wp2
  go_loop [1, 5] (fun v i => ∃ k : Nat, k ≤ n ∧ i = .int .i64 k ∧ v = .int .i64 (k0 + k)) (fun _ i => n - (intOf i).toNat)
  case atStart => exact ⟨0, Nat.zero_le _, rfl, by simp⟩
  case round =>
    obtain ⟨k, hk, rfl, rfl⟩ := hrel
    by_cases hlt : k < n
    · obtain ⟨g, off, G, rfl, hlo, hr, hf⟩ := h.get hlt
      have c1 := hr.cell (show off + k < off + n by omega)
      rw [hf k hlt] at c1
      have c2 : w.cell? ⟨g, off + k, none⟩ = some (.int .i64 (k0 + k)) := c1
      clear c1 hf
      go_wp2
      go_round
      case rel => exact ⟨k + 1, by omega, by go_num, by go_num⟩
      case measure => simp [intOf]; omega
    · obtain rfl : k = n := by omega
      go_wp2
      go_ret
      exact ⟨rfl, rfl⟩
end Go.Proofs.Ytblpfjjnlfjloab

/-
  The model's numerals (l1Num).
-/
import Derived.Test.YtbblmbibddjedacDoorC1ca
namespace Go.Proofs.YtbblmbibddjedacDoor
open Go.RowKit

/-- string([]byte{c}). -/
theorem conv_one (m : Nat) (hm : m < 256) (W : World) (g : Nat) (hc : W.cell? ⟨g, 0, none⟩ = some (.int .u8 (m : Int))) :
    (convert 85 9 (.slice (some ⟨g, 0, none⟩) 1 1)).run Tryd.prog W = .ok (.string ⟨#[UInt8.ofNat m]⟩) W := by
  have h := run_convert_bytes_back (P := Tryd.prog) W 85 9 5 ⟨g, 0, none⟩ 1 [UInt8.ofNat m] Tryd.underlying85 Tryd.underlying5 Tryd.underlying9 (fun j hj => by
    obtain rfl : j = 0 := by simpa using hj
    rw [show (⟨g, 0, none⟩ : Addr).add 0 = ⟨g, 0, none⟩ by simp [Addr.add], hc, List.getElem_cons_zero, UInt8.toNat_ofNat_of_lt' hm])
  exact h

set_option maxRecDepth 100000 in
set_option maxHeartbeats 1000000 in
theorem l1Num_any : ∀ (k : Nat) (n : Int) (w : World), 0 ≤ n → n < 10 ^ (k + 1) → n ≤ 999 → Calls Tryd.prog 41 #[.int .i64 n] w fun e w' => e = .returned (.string (numB n)) ∧ Below w.heap.size w w'
  | 0, n, w, h0, h1, h2 => by
    have hlt : n < 10 := by simpa using h1
    have hw1 : IntKind.i64.wrap (48 + n) = 48 + n := IntWalk.i64_in _ (by omega)
    have hw2 : IntKind.u8.wrap (48 + n) = 48 + n := by rw [IntKind.wrap_u8]; omega
    have hcv := conv_one (48 + n.toNat) (by omega)
    rw [show ((48 + n.toNat : Nat) : Int) = 48 + n by omega, show (⟨#[UInt8.ofNat (48 + n.toNat)]⟩ : ByteArray) = numB n by unfold numB; rw [numL_small n h0 hlt]] at hcv
    go_enter Tryd.func41, Tryd.ntmps41
    go_wp2
    go_ret
    exact ⟨rfl, (Below.refl _ _).alloc (Nat.le_refl _) _⟩
  | k + 1, n, w, h0, h1, h2 => by
    by_cases hlt : n < 10
    · exact l1Num_any 0 n w h0 (by simpa using hlt) h2
    have ih := fun w => l1Num_any k (n / 10) w (by omega) (by rw [Int.pow_succ] at h1; omega) (by omega)
    have hge : (n < 10) = False := by simpa using hlt
    have hw0 : IntKind.i64.wrap (n.tdiv 10) = n / 10 := by rw [Int.tdiv_eq_ediv_of_nonneg h0]; exact IntWalk.i64_in _ (by omega)
    have hw3 : n.tmod 10 = n % 10 := Int.tmod_eq_emod_of_nonneg h0
    have hm : n % 10 < 10 ∧ 0 ≤ n % 10 := by omega
    have hw1 : IntKind.i64.wrap (48 + n % 10) = 48 + n % 10 := IntWalk.i64_in _ (by omega)
    have hw2 : IntKind.u8.wrap (48 + n % 10) = 48 + n % 10 := by rw [IntKind.wrap_u8]; omega
    have hcv := conv_one (48 + (n % 10).toNat) (by omega)
    rw [show ((48 + (n % 10).toNat : Nat) : Int) = 48 + n % 10 by omega] at hcv
    have hadd := add_run (P := Tryd.prog) (numB (n / 10)) ⟨#[UInt8.ofNat (48 + (n % 10).toNat)]⟩ (numB n) (by unfold numB; rw [numL_big n (by omega)]; apply ByteArray.ext; simp) (by
      have := numL_len (n / 10) (by omega)
      rw [numB_size]
      show _ + 1 ≤ _
      omega)
    clear hm
    generalize n % 10 = d at *
    generalize (⟨#[UInt8.ofNat (48 + d.toNat)]⟩ : ByteArray) = D at *
    go_enter Tryd.func41, Tryd.ntmps41
    go_wp2
    go_region_with (go_at_call 41; refine (ih _).mono ?_; rintro e w1 ⟨rfl, hb⟩; try have q : w1.cell? ⟨w.heap.size, 0, none⟩ = some (.int .u8 (48 + d)) := keepcell hb (World.cell?_alloc_at _ _ _ _ rfl))
    all_goals
      go_wp2
      go_ret
    · exact ⟨rfl, ((Below.refl _ _).drew.trans hb).alloc (by have := hb.size; simpa using this) _⟩
    · exact ⟨rfl, ((Below.refl _ _).drew.alloc (Nat.le_refl _) _).trans (hb.mono (by simp))⟩
    · exact ⟨rfl, ((Below.refl _ _).drew.alloc (Nat.le_refl _) _).trans (hb.mono (by simp))⟩

/-- l1Num behind a box that was made: the box reads as before. -/
theorem l1Num_on {w0 w : World} {cs : Array Value} {t : TypeId} (n : Int) (h0 : 0 ≤ n) (h1 : n ≤ 999) (hS : Below (w0.heap.size + 1) (w0.alloc (.cells cs t)) w) :
    Calls Tryd.prog 41 #[.int .i64 n] w fun e w' => e = .returned (.string (numB n)) ∧ Below (w0.heap.size + 1) (w0.alloc (.cells cs t)) w' ∧ (∀ i, w'.cell? ⟨w0.heap.size, i, none⟩ = cs[i]?) :=
  (l1Num_any 2 n w h0 (by omega) h1).mono fun _ _ ⟨he, hx⟩ =>
    have hb := box_on hS hx (by have := hS.size; simpa using this)
    ⟨he, hb, boxcells hb⟩

end Go.Proofs.YtbblmbibddjedacDoor

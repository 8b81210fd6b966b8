/-
  Pairs: who moves, the model's, by the leader or the other one.
-/
import Derived.Test.YtblpfjjnlfjloaaC5w
import Derived.Test.YtblpfjjnlfjloaaC5q
namespace Go.Proofs.Ytblpfjjnlfjloaa
open Go.RowKit

/-- The model's table, from block gt on. -/
def TabS (w : World) (gt s : Nat) (T : Tab) : Prop := RowJ w gt 78 ((s + 1) * (s + 1)) (fun i => (((T (i / (s + 1)) (i % (s + 1))).1 : Int), ((T (i / (s + 1)) (i % (s + 1))).2 : Int)))
theorem TabS.at_ {w : World} {gt s : Nat} {T : Tab} (h : TabS w gt s T) {x y : Nat} (hx : x ≤ s) (hy : y ≤ s) : x * (s + 1) + y < (s + 1) * (s + 1) ∧ w.cell? ⟨gt, (x * (s + 1) + y) * 2, none⟩ = some (.int .i64 ((T x y).1 : Nat)) ∧ w.cell? ⟨gt, (x * (s + 1) + y) * 2 + 1, none⟩ = some (.int .i64 ((T x y).2 : Nat)) := by
  have hlt : x * (s + 1) + y < (s + 1) * (s + 1) := by
    have : x * (s + 1) ≤ s * (s + 1) := Nat.mul_le_mul_right _ hx
    rw [Nat.add_mul]; omega
  have hd : (x * (s + 1) + y) / (s + 1) = x := by rw [Nat.mul_comm, Nat.mul_add_div (by omega), Nat.div_eq_of_lt (by omega)]; omega
  have hm : (x * (s + 1) + y) % (s + 1) = y := by rw [Nat.mul_comm, Nat.mul_add_mod, Nat.mod_eq_of_lt (by omega)]
  have c1 := RowJ.cell1 h hlt
  have c2 := RowJ.cell2 h hlt
  simp only [hd, hm] at c1 c2
  exact ⟨hlt, c1, c2⟩
/-- Who moves, as the model tells it: -1 if nobody can. -/
def whoI (m : Option Nat) : Int := match m with | some tok => (tok : Int) | none => -1

set_option maxRecDepth 100000 in
set_option maxHeartbeats 2000000 in
theorem oiWho_none (s x y face : Nat) (r : Int) (A : Option Addr) (n c : Nat) (ch : Tab → Nat → Nat → Nat → Nat) (T : Tab) (w : World) (hs : s ≤ 6) (hx : x ≤ s) (hy : y ≤ s) (hf : face ≤ 8) (hno : ¬ (x + face ≤ s ∧ y + face ≤ s)) :
    Calls Try.prog 63 #[.slice A n c, .int .i64 s, .int .i64 r, .int .i64 x, .int .i64 y, .int .i64 face] w fun e w' => e = .returned (.int .i64 (whoI (movP ch T s x y face))) ∧ Below w.heap.size w w' := by
  have wx : IntKind.i64.wrap ((x : Int) + (face : Int)) = ((x + face : Nat) : Int) := by rw [IntWalk.i64_in _ (by omega)]; omega
  have wy : IntKind.i64.wrap ((y : Int) + (face : Int)) = ((y + face : Nat) : Int) := by rw [IntWalk.i64_in _ (by omega)]; omega
  obtain ⟨R, hR⟩ : ∃ R, R = whoI (movP ch T s x y face) := ⟨_, rfl⟩
  rw [← hR]
  unfold movP at hR
  obtain ⟨X, hX⟩ : ∃ X, X = x + face := ⟨_, rfl⟩
  obtain ⟨Y, hY⟩ : ∃ Y, Y = y + face := ⟨_, rfl⟩
  rw [← hX] at wx hR hno
  rw [← hY] at wy hR hno
  have hX6 : X ≤ 20 := by omega
  have hY6 : Y ≤ 20 := by omega
  have HR := Lib.hid hR
  clear hX hY hR
  by_cases h1 : X ≤ s <;> by_cases h2 : Y ≤ s
  · exact absurd ⟨h1, h2⟩ hno
  · have hv : R = 0 := by rw [HR.out, if_pos h1, if_neg h2]; rfl
    subst hv
    clear HR hno
    go_enter Try.func63, Try.ntmps63
    go_wp2_with fail
    go_ret
    exact ⟨rfl, Below.refl _ _⟩
  · have hv : R = 1 := by rw [HR.out, if_neg h1, if_pos h2]; rfl
    subst hv
    clear HR hno
    go_enter Try.func63, Try.ntmps63
    go_wp2_with fail
    go_ret
    exact ⟨rfl, Below.refl _ _⟩
  · have hv : R = -1 := by rw [HR.out, if_neg h1, if_neg h2]; rfl
    subst hv
    clear HR hno
    go_enter Try.func63, Try.ntmps63
    go_wp2_with fail
    go_ret
    exact ⟨rfl, Below.refl _ _⟩

set_option maxRecDepth 100000 in
set_option maxHeartbeats 4000000 in
theorem oiWho_lead (s x y face gt c : Nat) (T : Tab) (w : World) (hT : TabS w gt s T) (hs : s ≤ 6) (hf : face ≤ 8) (hx : x + face ≤ s) (hy : y + face ≤ s) :
    Calls Try.prog 63 #[.slice (some ⟨gt, 0, none⟩) ((s + 1) * (s + 1)) c, .int .i64 s, .int .i64 2, .int .i64 x, .int .i64 y, .int .i64 face] w fun e w' => e = .returned (.int .i64 (if x < y then 1 else 0)) ∧ Below w.heap.size w w' := by
  have h1 := hT.at_ (x := x + face) (y := y) hx (by omega)
  have h2 := hT.at_ (x := x) (y := y + face) (by omega) hy
  have hgl := RowJ.lt hT
  obtain ⟨n, hn⟩ : ∃ n, n = (s + 1) * (s + 1) := ⟨_, rfl⟩
  obtain ⟨R, hR⟩ : ∃ R : Int, R = if x < y then 1 else 0 := ⟨_, rfl⟩
  rw [← hR]
  have HR := Lib.hid hR
  have wx : IntKind.i64.wrap ((x : Int) + (face : Int)) = ((x + face : Nat) : Int) := by rw [IntWalk.i64_in _ (by omega)]; omega
  have wy : IntKind.i64.wrap ((y : Int) + (face : Int)) = ((y + face : Nat) : Int) := by rw [IntWalk.i64_in _ (by omega)]; omega
  have ws : IntKind.i64.wrap ((s : Int) + 1) = ((s + 1 : Nat) : Int) := by rw [IntWalk.i64_in _ (by omega)]; omega
  obtain ⟨X, hX⟩ : ∃ X, X = x + face := ⟨_, rfl⟩
  obtain ⟨Y, hY⟩ : ∃ Y, Y = y + face := ⟨_, rfl⟩
  obtain ⟨S, hS⟩ : ∃ S, S = s + 1 := ⟨_, rfl⟩
  rw [← hn, ← hS, ← hX] at h1
  rw [← hn, ← hS, ← hY] at h2
  rw [← hX] at wx hx
  rw [← hY] at wy hy
  rw [← hS] at ws hn
  rw [show (s + 1) * (s + 1) = n by rw [hn, hS]]
  have hSl : S ≤ 7 := by omega
  have m1 : X * S ≤ 6 * 7 := Nat.mul_le_mul (by omega) hSl
  have m2 : x * S ≤ 6 * 7 := Nat.mul_le_mul (by omega) hSl
  have wp1 : IntKind.i64.wrap ((X : Int) * (S : Int)) = ((X * S : Nat) : Int) := by rw [← Int.natCast_mul]; exact IntWalk.i64_in _ (by omega)
  have wp2 : IntKind.i64.wrap ((x : Int) * (S : Int)) = ((x * S : Nat) : Int) := by rw [← Int.natCast_mul]; exact IntWalk.i64_in _ (by omega)
  obtain ⟨P1, hP1⟩ : ∃ P1, P1 = X * S := ⟨_, rfl⟩
  obtain ⟨P2, hP2⟩ : ∃ P2, P2 = x * S := ⟨_, rfl⟩
  rw [← hP1] at wp1 h1 m1
  rw [← hP2] at wp2 h2 m2
  have wi1 : IntKind.i64.wrap ((P1 : Int) + (y : Int)) = ((P1 + y : Nat) : Int) := by rw [IntWalk.i64_in _ (by omega)]; omega
  have wi2 : IntKind.i64.wrap ((P2 : Int) + (y : Int)) = ((P2 + y : Nat) : Int) := by rw [IntWalk.i64_in _ (by omega)]; omega
  obtain ⟨I1, hI1⟩ : ∃ I1, I1 = P1 + y := ⟨_, rfl⟩
  obtain ⟨J2, hJ2⟩ : ∃ J2, J2 = P2 + y := ⟨_, rfl⟩
  obtain ⟨I2, hI2⟩ : ∃ I2, I2 = P2 + Y := ⟨_, rfl⟩
  rw [← hI1] at wi1 h1
  rw [← hJ2] at wi2
  rw [← hI2] at h2
  have wi3 : IntKind.i64.wrap ((J2 : Int) + (face : Int)) = (I2 : Int) := by rw [IntWalk.i64_in _ (by omega)]; omega
  obtain ⟨h1a, c1, c2⟩ := h1
  obtain ⟨h2a, c3, c4⟩ := h2
  have b1 : (I1 : Int) < (n : Int) := by omega
  have b2 : (I2 : Int) < (n : Int) := by omega
  clear hn hX hY hS hP1 hP2 hI1 hJ2 hI2 hR hT
  go_enter Try.func63, Try.ntmps63
  go_wp2_with fail
  go_region
  all_goals
    by_cases hlt : x < y
    · have hv : R = 1 := by rw [HR.out, if_pos hlt]
      subst hv
      have hlt' : (x : Int) < (y : Int) := by omega
      clear HR
      go_wp2
      go_ret
      exact ⟨rfl, (below2 _ _ _).drew⟩
    · have hv : R = 0 := by rw [HR.out, if_neg hlt]
      subst hv
      have hlt' : ¬ (x : Int) < (y : Int) := by omega
      clear HR
      go_wp2
      go_ret
      exact ⟨rfl, (below2 _ _ _).drew⟩

set_option maxRecDepth 100000 in
set_option maxHeartbeats 4000000 in
theorem oiWho_other (s x y face gt c : Nat) (T : Tab) (w : World) (hT : TabS w gt s T) (hs : s ≤ 6) (hf : face ≤ 8) (hx : x + face ≤ s) (hy : y + face ≤ s) :
    Calls Try.prog 63 #[.slice (some ⟨gt, 0, none⟩) ((s + 1) * (s + 1)) c, .int .i64 s, .int .i64 3, .int .i64 x, .int .i64 y, .int .i64 face] w fun e w' => e = .returned (.int .i64 (if x < y then 0 else 1)) ∧ Below w.heap.size w w' := by
  have h1 := hT.at_ (x := x + face) (y := y) hx (by omega)
  have h2 := hT.at_ (x := x) (y := y + face) (by omega) hy
  have hgl := RowJ.lt hT
  obtain ⟨n, hn⟩ : ∃ n, n = (s + 1) * (s + 1) := ⟨_, rfl⟩
  obtain ⟨R, hR⟩ : ∃ R : Int, R = if x < y then 0 else 1 := ⟨_, rfl⟩
  rw [← hR]
  have HR := Lib.hid hR
  have wx : IntKind.i64.wrap ((x : Int) + (face : Int)) = ((x + face : Nat) : Int) := by rw [IntWalk.i64_in _ (by omega)]; omega
  have wy : IntKind.i64.wrap ((y : Int) + (face : Int)) = ((y + face : Nat) : Int) := by rw [IntWalk.i64_in _ (by omega)]; omega
  have ws : IntKind.i64.wrap ((s : Int) + 1) = ((s + 1 : Nat) : Int) := by rw [IntWalk.i64_in _ (by omega)]; omega
  obtain ⟨X, hX⟩ : ∃ X, X = x + face := ⟨_, rfl⟩
  obtain ⟨Y, hY⟩ : ∃ Y, Y = y + face := ⟨_, rfl⟩
  obtain ⟨S, hS⟩ : ∃ S, S = s + 1 := ⟨_, rfl⟩
  rw [← hn, ← hS, ← hX] at h1
  rw [← hn, ← hS, ← hY] at h2
  rw [← hX] at wx hx
  rw [← hY] at wy hy
  rw [← hS] at ws hn
  rw [show (s + 1) * (s + 1) = n by rw [hn, hS]]
  have hSl : S ≤ 7 := by omega
  have m1 : X * S ≤ 6 * 7 := Nat.mul_le_mul (by omega) hSl
  have m2 : x * S ≤ 6 * 7 := Nat.mul_le_mul (by omega) hSl
  have wp1 : IntKind.i64.wrap ((X : Int) * (S : Int)) = ((X * S : Nat) : Int) := by rw [← Int.natCast_mul]; exact IntWalk.i64_in _ (by omega)
  have wp2 : IntKind.i64.wrap ((x : Int) * (S : Int)) = ((x * S : Nat) : Int) := by rw [← Int.natCast_mul]; exact IntWalk.i64_in _ (by omega)
  obtain ⟨P1, hP1⟩ : ∃ P1, P1 = X * S := ⟨_, rfl⟩
  obtain ⟨P2, hP2⟩ : ∃ P2, P2 = x * S := ⟨_, rfl⟩
  rw [← hP1] at wp1 h1 m1
  rw [← hP2] at wp2 h2 m2
  have wi1 : IntKind.i64.wrap ((P1 : Int) + (y : Int)) = ((P1 + y : Nat) : Int) := by rw [IntWalk.i64_in _ (by omega)]; omega
  have wi2 : IntKind.i64.wrap ((P2 : Int) + (y : Int)) = ((P2 + y : Nat) : Int) := by rw [IntWalk.i64_in _ (by omega)]; omega
  obtain ⟨I1, hI1⟩ : ∃ I1, I1 = P1 + y := ⟨_, rfl⟩
  obtain ⟨J2, hJ2⟩ : ∃ J2, J2 = P2 + y := ⟨_, rfl⟩
  obtain ⟨I2, hI2⟩ : ∃ I2, I2 = P2 + Y := ⟨_, rfl⟩
  rw [← hI1] at wi1 h1
  rw [← hJ2] at wi2
  rw [← hI2] at h2
  have wi3 : IntKind.i64.wrap ((J2 : Int) + (face : Int)) = (I2 : Int) := by rw [IntWalk.i64_in _ (by omega)]; omega
  obtain ⟨h1a, c1, c2⟩ := h1
  obtain ⟨h2a, c3, c4⟩ := h2
  have b1 : (I1 : Int) < (n : Int) := by omega
  have b2 : (I2 : Int) < (n : Int) := by omega
  clear hn hX hY hS hP1 hP2 hI1 hJ2 hI2 hR hT
  go_enter Try.func63, Try.ntmps63
  go_wp2_with fail
  go_region
  all_goals
    by_cases hlt : x < y
    · have hv : R = 0 := by rw [HR.out, if_pos hlt]
      subst hv
      have hlt' : ¬ (y : Int) ≤ (x : Int) := by omega
      clear HR
      go_wp2
      go_ret
      exact ⟨rfl, (below2 _ _ _).drew⟩
    · have hv : R = 1 := by rw [HR.out, if_neg hlt]
      subst hv
      have hlt' : (y : Int) ≤ (x : Int) := by omega
      clear HR
      go_wp2
      go_ret
      exact ⟨rfl, (below2 _ _ _).drew⟩
end Go.Proofs.Ytblpfjjnlfjloaa

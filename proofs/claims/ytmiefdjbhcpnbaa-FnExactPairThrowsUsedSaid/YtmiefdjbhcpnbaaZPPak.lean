/- Several texts, one behind the other: C5x M36 C5y. -/
import Derived.Test.YtmiefdjbhcpnbaaZPPaf
import Derived.Test.YtmiefdjbhcpnbaaZPPaj
import Derived.Test.YtmiefdjbhcpnbaaZPPae

namespace Go.Proofs.Ytmiefdjbhcpnbaa
open Go.RowKit

/-- The model's table, from block gt on. -/
def TabS (w : World) (gt s : Nat) (T : Tab) : Prop := RowJ w gt 96 ((s + 1) * (s + 1)) (fun i => (((T (i / (s + 1)) (i % (s + 1))).1 : Int), ((T (i / (s + 1)) (i % (s + 1))).2 : Int)))
theorem TabS.at_ {w : World} {gt s : Nat} {T : Tab} (h : TabS w gt s T) {x y : Nat} (hx : x ≤ s) (hy : y ≤ s) : x * (s + 1) + y < (s + 1) * (s + 1) ∧ w.cell? ⟨gt, (x * (s + 1) + y) * 2, none⟩ = some (.int .i64 ((T x y).1 : Nat)) ∧ w.cell? ⟨gt, (x * (s + 1) + y) * 2 + 1, none⟩ = some (.int .i64 ((T x y).2 : Nat)) := by
  have hlt : x * (s + 1) + y < (s + 1) * (s + 1) := by
    have : x * (s + 1) ≤ s * (s + 1) := Nat.mul_le_mul_right _ hx
    rw [Nat.add_mul]; omega
  have hd : (x * (s + 1) + y) / (s + 1) = x := by rw [Nat.mul_comm, Nat.mul_add_div (by omega), Nat.div_eq_of_lt (by omega)]; omega
  have hm : (x * (s + 1) + y) % (s + 1) = y := by rw [Nat.mul_comm, Nat.mul_add_mod, Nat.mod_eq_of_lt (by omega)]
  have c1 := RowJ.cell1 h hlt
  have c2 := RowJ.cell2 h hlt
  simp only [hd, hm] at c1 c2
  exact ⟨hlt, c1, c2⟩
/-- Who moves, as the model tells it: -1 if nobody can. -/
def whoI (m : Option Nat) : Int := match m with | some tok => (tok : Int) | none => -1

set_option maxRecDepth 100000 in
set_option maxHeartbeats 2000000 in
theorem oiWho_none (s x y face : Nat) (r : Int) (A : Option Addr) (n c : Nat) (ch : Tab → Nat → Nat → Nat → Nat) (T : Tab) (w : World) (hs : s ≤ 6) (hx : x ≤ s) (hy : y ≤ s) (hf : face ≤ 8) (hno : ¬ (x + face ≤ s ∧ y + face ≤ s)) :
    Calls Try.prog 51 #[.slice A n c, .int .i64 s, .int .i64 r, .int .i64 x, .int .i64 y, .int .i64 face] w fun e w' => e = .returned (.int .i64 (whoI (movP ch T s x y face))) ∧ Below w.heap.size w w' := by
  have wx : IntKind.i64.wrap ((x : Int) + (face : Int)) = ((x + face : Nat) : Int) := by rw [IntWalk.i64_in _ (by omega)]; omega
  have wy : IntKind.i64.wrap ((y : Int) + (face : Int)) = ((y + face : Nat) : Int) := by rw [IntWalk.i64_in _ (by omega)]; omega
  obtain ⟨R, hR⟩ : ∃ R, R = whoI (movP ch T s x y face) := ⟨_, rfl⟩
  rw [← hR]
  unfold movP at hR
  obtain ⟨X, hX⟩ : ∃ X, X = x + face := ⟨_, rfl⟩
  obtain ⟨Y, hY⟩ : ∃ Y, Y = y + face := ⟨_, rfl⟩
  rw [← hX] at wx hR hno
  rw [← hY] at wy hR hno
  have hX6 : X ≤ 20 := by omega
  have hY6 : Y ≤ 20 := by omega
  have HR := Lib.hid hR
  clear hX hY hR
  by_cases h1 : X ≤ s <;> by_cases h2 : Y ≤ s
  · exact absurd ⟨h1, h2⟩ hno
  · have hv : R = 0 := by rw [HR.out, if_pos h1, if_neg h2]; rfl
    subst hv
    clear HR hno
    go_enter Try.func51, Try.ntmps51
    go_wp2_with fail
    go_ret
    exact ⟨rfl, Below.refl _ _⟩
  · have hv : R = 1 := by rw [HR.out, if_neg h1, if_pos h2]; rfl
    subst hv
    clear HR hno
    go_enter Try.func51, Try.ntmps51
    go_wp2_with fail
    go_ret
    exact ⟨rfl, Below.refl _ _⟩
  · have hv : R = -1 := by rw [HR.out, if_neg h1, if_neg h2]; rfl
    subst hv
    clear HR hno
    go_enter Try.func51, Try.ntmps51
    go_wp2_with fail
    go_ret
    exact ⟨rfl, Below.refl _ _⟩

set_option maxRecDepth 100000 in
set_option maxHeartbeats 4000000 in
theorem oiWho_lead (s x y face gt c : Nat) (T : Tab) (w : World) (hT : TabS w gt s T) (hs : s ≤ 6) (hf : face ≤ 8) (hx : x + face ≤ s) (hy : y + face ≤ s) :
    Calls Try.prog 51 #[.slice (some ⟨gt, 0, none⟩) ((s + 1) * (s + 1)) c, .int .i64 s, .int .i64 2, .int .i64 x, .int .i64 y, .int .i64 face] w fun e w' => e = .returned (.int .i64 (if x < y then 1 else 0)) ∧ Below w.heap.size w w' := by
  have h1 := hT.at_ (x := x + face) (y := y) hx (by omega)
  have h2 := hT.at_ (x := x) (y := y + face) (by omega) hy
  have hgl := RowJ.lt hT
  obtain ⟨n, hn⟩ : ∃ n, n = (s + 1) * (s + 1) := ⟨_, rfl⟩
  obtain ⟨R, hR⟩ : ∃ R : Int, R = if x < y then 1 else 0 := ⟨_, rfl⟩
  rw [← hR]
  have HR := Lib.hid hR
  have wx : IntKind.i64.wrap ((x : Int) + (face : Int)) = ((x + face : Nat) : Int) := by rw [IntWalk.i64_in _ (by omega)]; omega
  have wy : IntKind.i64.wrap ((y : Int) + (face : Int)) = ((y + face : Nat) : Int) := by rw [IntWalk.i64_in _ (by omega)]; omega
  have ws : IntKind.i64.wrap ((s : Int) + 1) = ((s + 1 : Nat) : Int) := by rw [IntWalk.i64_in _ (by omega)]; omega
  obtain ⟨X, hX⟩ : ∃ X, X = x + face := ⟨_, rfl⟩
  obtain ⟨Y, hY⟩ : ∃ Y, Y = y + face := ⟨_, rfl⟩
  obtain ⟨S, hS⟩ : ∃ S, S = s + 1 := ⟨_, rfl⟩
  rw [← hn, ← hS, ← hX] at h1
  rw [← hn, ← hS, ← hY] at h2
  rw [← hX] at wx hx
  rw [← hY] at wy hy
  rw [← hS] at ws hn
  rw [show (s + 1) * (s + 1) = n by rw [hn, hS]]
  have hSl : S ≤ 7 := by omega
  have m1 : X * S ≤ 6 * 7 := Nat.mul_le_mul (by omega) hSl
  have m2 : x * S ≤ 6 * 7 := Nat.mul_le_mul (by omega) hSl
  have wp1 : IntKind.i64.wrap ((X : Int) * (S : Int)) = ((X * S : Nat) : Int) := by rw [← Int.natCast_mul]; exact IntWalk.i64_in _ (by omega)
  have wp2 : IntKind.i64.wrap ((x : Int) * (S : Int)) = ((x * S : Nat) : Int) := by rw [← Int.natCast_mul]; exact IntWalk.i64_in _ (by omega)
  obtain ⟨P1, hP1⟩ : ∃ P1, P1 = X * S := ⟨_, rfl⟩
  obtain ⟨P2, hP2⟩ : ∃ P2, P2 = x * S := ⟨_, rfl⟩
  rw [← hP1] at wp1 h1 m1
  rw [← hP2] at wp2 h2 m2
  have wi1 : IntKind.i64.wrap ((P1 : Int) + (y : Int)) = ((P1 + y : Nat) : Int) := by rw [IntWalk.i64_in _ (by omega)]; omega
  have wi2 : IntKind.i64.wrap ((P2 : Int) + (y : Int)) = ((P2 + y : Nat) : Int) := by rw [IntWalk.i64_in _ (by omega)]; omega
  obtain ⟨I1, hI1⟩ : ∃ I1, I1 = P1 + y := ⟨_, rfl⟩
  obtain ⟨J2, hJ2⟩ : ∃ J2, J2 = P2 + y := ⟨_, rfl⟩
  obtain ⟨I2, hI2⟩ : ∃ I2, I2 = P2 + Y := ⟨_, rfl⟩
  rw [← hI1] at wi1 h1
  rw [← hJ2] at wi2
  rw [← hI2] at h2
  have wi3 : IntKind.i64.wrap ((J2 : Int) + (face : Int)) = (I2 : Int) := by rw [IntWalk.i64_in _ (by omega)]; omega
  obtain ⟨h1a, c1, c2⟩ := h1
  obtain ⟨h2a, c3, c4⟩ := h2
  have b1 : (I1 : Int) < (n : Int) := by omega
  have b2 : (I2 : Int) < (n : Int) := by omega
  clear hn hX hY hS hP1 hP2 hI1 hJ2 hI2 hR hT
  go_enter Try.func51, Try.ntmps51
  go_wp2_with fail
  go_region
  all_goals
    by_cases hlt : x < y
    · have hv : R = 1 := by rw [HR.out, if_pos hlt]
      subst hv
      have hlt' : (x : Int) < (y : Int) := by omega
      clear HR
      go_wp2
      go_ret
      exact ⟨rfl, (below2 _ _ _).drew⟩
    · have hv : R = 0 := by rw [HR.out, if_neg hlt]
      subst hv
      have hlt' : ¬ (x : Int) < (y : Int) := by omega
      clear HR
      go_wp2
      go_ret
      exact ⟨rfl, (below2 _ _ _).drew⟩

set_option maxRecDepth 100000 in
set_option maxHeartbeats 4000000 in
theorem oiWho_other (s x y face gt c : Nat) (T : Tab) (w : World) (hT : TabS w gt s T) (hs : s ≤ 6) (hf : face ≤ 8) (hx : x + face ≤ s) (hy : y + face ≤ s) :
    Calls Try.prog 51 #[.slice (some ⟨gt, 0, none⟩) ((s + 1) * (s + 1)) c, .int .i64 s, .int .i64 3, .int .i64 x, .int .i64 y, .int .i64 face] w fun e w' => e = .returned (.int .i64 (if x < y then 0 else 1)) ∧ Below w.heap.size w w' := by
  have h1 := hT.at_ (x := x + face) (y := y) hx (by omega)
  have h2 := hT.at_ (x := x) (y := y + face) (by omega) hy
  have hgl := RowJ.lt hT
  obtain ⟨n, hn⟩ : ∃ n, n = (s + 1) * (s + 1) := ⟨_, rfl⟩
  obtain ⟨R, hR⟩ : ∃ R : Int, R = if x < y then 0 else 1 := ⟨_, rfl⟩
  rw [← hR]
  have HR := Lib.hid hR
  have wx : IntKind.i64.wrap ((x : Int) + (face : Int)) = ((x + face : Nat) : Int) := by rw [IntWalk.i64_in _ (by omega)]; omega
  have wy : IntKind.i64.wrap ((y : Int) + (face : Int)) = ((y + face : Nat) : Int) := by rw [IntWalk.i64_in _ (by omega)]; omega
  have ws : IntKind.i64.wrap ((s : Int) + 1) = ((s + 1 : Nat) : Int) := by rw [IntWalk.i64_in _ (by omega)]; omega
  obtain ⟨X, hX⟩ : ∃ X, X = x + face := ⟨_, rfl⟩
  obtain ⟨Y, hY⟩ : ∃ Y, Y = y + face := ⟨_, rfl⟩
  obtain ⟨S, hS⟩ : ∃ S, S = s + 1 := ⟨_, rfl⟩
  rw [← hn, ← hS, ← hX] at h1
  rw [← hn, ← hS, ← hY] at h2
  rw [← hX] at wx hx
  rw [← hY] at wy hy
  rw [← hS] at ws hn
  rw [show (s + 1) * (s + 1) = n by rw [hn, hS]]
  have hSl : S ≤ 7 := by omega
  have m1 : X * S ≤ 6 * 7 := Nat.mul_le_mul (by omega) hSl
  have m2 : x * S ≤ 6 * 7 := Nat.mul_le_mul (by omega) hSl
  have wp1 : IntKind.i64.wrap ((X : Int) * (S : Int)) = ((X * S : Nat) : Int) := by rw [← Int.natCast_mul]; exact IntWalk.i64_in _ (by omega)
  have wp2 : IntKind.i64.wrap ((x : Int) * (S : Int)) = ((x * S : Nat) : Int) := by rw [← Int.natCast_mul]; exact IntWalk.i64_in _ (by omega)
  obtain ⟨P1, hP1⟩ : ∃ P1, P1 = X * S := ⟨_, rfl⟩
  obtain ⟨P2, hP2⟩ : ∃ P2, P2 = x * S := ⟨_, rfl⟩
  rw [← hP1] at wp1 h1 m1
  rw [← hP2] at wp2 h2 m2
  have wi1 : IntKind.i64.wrap ((P1 : Int) + (y : Int)) = ((P1 + y : Nat) : Int) := by rw [IntWalk.i64_in _ (by omega)]; omega
  have wi2 : IntKind.i64.wrap ((P2 : Int) + (y : Int)) = ((P2 + y : Nat) : Int) := by rw [IntWalk.i64_in _ (by omega)]; omega
  obtain ⟨I1, hI1⟩ : ∃ I1, I1 = P1 + y := ⟨_, rfl⟩
  obtain ⟨J2, hJ2⟩ : ∃ J2, J2 = P2 + y := ⟨_, rfl⟩
  obtain ⟨I2, hI2⟩ : ∃ I2, I2 = P2 + Y := ⟨_, rfl⟩
  rw [← hI1] at wi1 h1
  rw [← hJ2] at wi2
  rw [← hI2] at h2
  have wi3 : IntKind.i64.wrap ((J2 : Int) + (face : Int)) = (I2 : Int) := by rw [IntWalk.i64_in _ (by omega)]; omega
  obtain ⟨h1a, c1, c2⟩ := h1
  obtain ⟨h2a, c3, c4⟩ := h2
  have b1 : (I1 : Int) < (n : Int) := by omega
  have b2 : (I2 : Int) < (n : Int) := by omega
  clear hn hX hY hS hP1 hP2 hI1 hJ2 hI2 hR hT
  go_enter Try.func51, Try.ntmps51
  go_wp2_with fail
  go_region
  all_goals
    by_cases hlt : x < y
    · have hv : R = 0 := by rw [HR.out, if_pos hlt]
      subst hv
      have hlt' : ¬ (y : Int) ≤ (x : Int) := by omega
      clear HR
      go_wp2
      go_ret
      exact ⟨rfl, (below2 _ _ _).drew⟩
    · have hv : R = 1 := by rw [HR.out, if_neg hlt]
      subst hv
      have hlt' : (y : Int) ≤ (x : Int) := by omega
      clear HR
      go_wp2
      go_ret
      exact ⟨rfl, (below2 _ _ _).drew⟩
end Go.Proofs.Ytmiefdjbhcpnbaa

namespace Go.Proofs.Ytmiefdjbhcpnbaa

def sumS (p : Fr) : List Fr → Fr
  | [] => p
  | q :: l => sumS (addS p q) l
theorem sumS_append (p : Fr) (l : List Fr) (q : Fr) : sumS p (l ++ [q]) = addS (sumS p l) q := by
  induction l generalizing p with
  | nil => rfl
  | cons a l ih => exact ih (addS p a)
def totS (ch : Tab → Nat → Nat → Nat → Nat) (T : Tab) (s f x y k : Nat) : Fr := sumS (f, 1) (behL ch T s x y k)
def meanS (ch : Tab → Nat → Nat → Nat → Nat) (T : Tab) (s f x y : Nat) : Fr := if x + y < 2 * s then overS (totS ch T s f x y f) (behL ch T s x y f).length else (0, 1)
/-- Each sum on the way is small. -/
def okTotS (ch : Tab → Nat → Nat → Nat → Nat) (T : Tab) (s f x y : Nat) : Nat → Bool
  | 0 => true
  | k + 1 => okTotS ch T s f x y k && match movP ch T s x y (k + 1) with
    | some tok => okAddS (totS ch T s f x y k) (behP T x y tok (k + 1))
    | none => true
def okMeanS (ch : Tab → Nat → Nat → Nat → Nat) (T : Tab) (s f x y : Nat) : Bool :=
  okTotS ch T s f x y f && (decide (2 * s ≤ x + y) || (decide ((totS ch T s f x y f).1 ≤ 1000000000000000) && decide (1 ≤ (behL ch T s x y f).length) && decide ((behL ch T s x y f).length * (totS ch T s f x y f).2 ≤ 1000000000000000)))
theorem okTotS_at {ch : Tab → Nat → Nat → Nat → Nat} {T : Tab} {s f x y : Nat} : ∀ {n k tok : Nat}, okTotS ch T s f x y n = true → k < n → movP ch T s x y (k + 1) = some tok → okAddS (totS ch T s f x y k) (behP T x y tok (k + 1)) = true
  | n + 1, k, tok, h, hk, hm => by
    simp only [okTotS, Bool.and_eq_true] at h
    by_cases e : k = n
    · subst e
      have := h.2
      rw [hm] at this
      exact this
    · exact okTotS_at h.1 (by omega) hm
theorem totS_some {ch : Tab → Nat → Nat → Nat → Nat} {T : Tab} {s f x y k tok : Nat} (h : movP ch T s x y (k + 1) = some tok) : totS ch T s f x y (k + 1) = addS (totS ch T s f x y k) (behP T x y tok (k + 1)) ∧ (behL ch T s x y (k + 1)).length = (behL ch T s x y k).length + 1 := by
  have e : behL ch T s x y (k + 1) = behL ch T s x y k ++ [behP T x y tok (k + 1)] := by
    show (match movP ch T s x y (k + 1) with | some tok => behL ch T s x y k ++ [behP T x y tok (k + 1)] | none => behL ch T s x y k) = _
    rw [h]
  unfold totS
  rw [e, sumS_append]
  simp
theorem totS_none {ch : Tab → Nat → Nat → Nat → Nat} {T : Tab} {s f x y k : Nat} (h : movP ch T s x y (k + 1) = none) : totS ch T s f x y (k + 1) = totS ch T s f x y k ∧ (behL ch T s x y (k + 1)).length = (behL ch T s x y k).length := by
  have e : behL ch T s x y (k + 1) = behL ch T s x y k := by
    show (match movP ch T s x y (k + 1) with | some tok => behL ch T s x y k ++ [behP T x y tok (k + 1)] | none => behL ch T s x y k) = _
    rw [h]
  unfold totS
  rw [e]
  exact ⟨rfl, rfl⟩
/-- The table when the sums above m are made, and of m itself the squares below x. -/
def partS (T : Tab) (s m x : Nat) : Tab := fun u v => if u ≤ s ∧ v ≤ s ∧ (m < u + v ∨ u + v = m ∧ u < x) then T u v else (0, 0)
theorem partS_start (T : Tab) (s : Nat) : partS T s (2 * s) 0 = fun _ _ => (0, 0) := by
  funext u v
  unfold partS
  rw [if_neg (by omega)]
theorem partS_row (T : Tab) (s m : Nat) : partS T s (m + 1) (s + 1) = partS T s m 0 := by
  funext u v
  unfold partS
  by_cases h : u ≤ s ∧ v ≤ s ∧ (m + 1 < u + v ∨ u + v = m + 1 ∧ u < s + 1)
  · rw [if_pos h, if_pos (by omega)]
  · rw [if_neg h, if_neg (by omega)]
theorem partS_end (T : Tab) (s : Nat) : partS T s 0 (s + 1) = allT T s := by
  funext u v
  unfold partS allT
  by_cases h : u ≤ s ∧ v ≤ s
  · rw [if_pos (by omega), if_pos h]
  · rw [if_neg (by omega), if_neg h]
theorem partS_skip (T : Tab) {s m x : Nat} (h : ¬ (x ≤ m ∧ m - x ≤ s)) : partS T s m (x + 1) = partS T s m x := by
  funext u v
  unfold partS
  by_cases h2 : u ≤ s ∧ v ≤ s ∧ (m < u + v ∨ u + v = m ∧ u < x)
  · rw [if_pos h2, if_pos (by omega)]
  · rw [if_neg h2, if_neg (by omega)]
theorem partS_step (T : Tab) {s m x : Nat} (hx : x ≤ s) (h1 : x ≤ m) (h2 : m - x ≤ s) : setT (partS T s m x) x (m - x) (T x (m - x)) = partS T s m (x + 1) := by
  funext u v
  unfold setT partS
  by_cases h : u = x ∧ v = m - x
  · obtain ⟨rfl, rfl⟩ := h
    rw [if_pos ⟨rfl, rfl⟩, if_pos (by omega)]
  · rw [if_neg h]
    by_cases h3 : u ≤ s ∧ v ≤ s ∧ (m < u + v ∨ u + v = m ∧ u < x)
    · rw [if_pos h3, if_pos (by omega)]
    · rw [if_neg h3, if_neg (by omega)]
/-- A table is the one of a rule's means, as the model makes them. -/
def TabOkS (ch : Tab → Nat → Nat → Nat → Nat) (s f : Nat) (T : Tab) : Prop :=
  ∀ x y, x ≤ s → y ≤ s → okMeanS ch (partS T s (x + y) x) s f x y = true ∧ meanS ch (partS T s (x + y) x) s f x y = T x y
end Go.Proofs.Ytmiefdjbhcpnbaa

namespace Go.Proofs.Ytmiefdjbhcpnbaa
open Go.RowKit

theorem infoFrS : (Try.prog.info? 96).map (fun i => (i.zero, i.size, i.bytes)) = some (some (.agg #[.int .i64 0, .int .i64 0]), 2, 16) := by kernel_rfl
theorem infoSlS : (Try.prog.info? 25).map (fun i => (i.zero, i.size, i.bytes)) = some (some (.slice none 0 0), 1, 24) := by kernel_rfl
/-- Block gw holds n slices; where D holds, the i-th has the numbers F i, in a block of its own from base on. -/
def WhoS (w : World) (gw n f base : Nat) (D : Nat → Bool) (F : Nat → Nat → Int) : Prop :=
  ∃ (cs : Array Value) (V : Nat → Value), w.heap[gw]? = some (.cells cs 25 (0, 0)) ∧ n ≤ cs.size ∧ (∀ i < n, cs[i]? = some (V i)) ∧ ∀ i < n, D i = true → ∃ b c, V i = .slice (some ⟨b, 0, none⟩) f c ∧ base ≤ b ∧ RowI w b 3 f (F i)
section
variable {w w' : World} {gw n f base : Nat} {D : Nat → Bool} {F : Nat → Nat → Int}
theorem WhoS.lt (h : WhoS w gw n f base D F) : gw < w.heap.size := by obtain ⟨cs, V, h, _⟩ := h; exact heap_lt h
theorem WhoS.below (h : WhoS w gw n f base D F) (hb : Below w.heap.size w w') : WhoS w' gw n f base D F := by
  obtain ⟨cs, V, h1, h2, h3, h4⟩ := h
  refine ⟨cs, V, (hb.block _ (heap_lt h1)).trans h1, h2, h3, fun i hi hd => ?_⟩
  obtain ⟨b, c, e, hb', hr⟩ := h4 i hi hd
  exact ⟨b, c, e, hb', hr.below hb hr.lt⟩
theorem WhoS.cell (h : WhoS w gw n f base D F) {i : Nat} (hi : i < n) : (∃ v, w.cell? ⟨gw, i, none⟩ = some v) ∧ w.frozen? ⟨gw, i, none⟩ = false := by
  obtain ⟨cs, V, h1, h2, h3, h4⟩ := h
  exact ⟨⟨_, (cell_of_row _ _ _ _ _ _ h1).trans (h3 i hi)⟩, frozen_row h1⟩
theorem WhoS.far (h : WhoS w gw n f base D F) {p : Addr} (hp : p.block < base) (hg : p.block ≠ gw) (u : Value) : WhoS (w.setCell p u) gw n f base D F := by
  obtain ⟨cs, V, h1, h2, h3, h4⟩ := h
  refine ⟨cs, V, (Below.heap_setCell _ _ _ _ (Ne.symm hg)).trans h1, h2, h3, fun i hi hd => ?_⟩
  obtain ⟨b, c, e, hb', hr⟩ := h4 i hi hd
  exact ⟨b, c, e, hb', hr.far (by omega) _⟩
theorem WhoS.put (h : WhoS w gw n f base D F) (hgb : gw < base) {i b c : Nat} {g : Nat → Int} (hi : i < n) (hb : base ≤ b) (hr : RowI w b 3 f g) : WhoS (w.setCell ⟨gw, i, none⟩ (.slice (some ⟨b, 0, none⟩) f c)) gw n f base (fun j => if j = i then true else D j) (fun j => if j = i then g else F j) := by
  obtain ⟨cs, V, h1, h2, h3, h4⟩ := h
  refine ⟨_, fun j => if j = i then .slice (some ⟨b, 0, none⟩) f c else V j, heap_set _ _ _ _ _ _ h1, by simpa using h2, fun j hj => ?_, fun j hj hd => ?_⟩
  · by_cases e : j = i
    · subst e
      simp [Array.getElem?_setIfInBounds]
      omega
    · have e1 : ¬ i = j := fun h => e h.symm
      simp [e, e1, h3 j hj]
  · by_cases e : j = i
    · subst e
      simp only [if_true]
      exact ⟨b, c, rfl, hb, hr.far (by simp; omega) _⟩
    · simp only [e, if_false] at hd ⊢
      obtain ⟨b', c', e', hb', hr'⟩ := h4 j hj hd
      exact ⟨b', c', e', hb', hr'.far (by simp; omega) _⟩
theorem WhoS.made {A : Option Addr} {c base0 : Nat} (h : w.ownsRow base0 25 1 (.slice A n c) n (madeCells #[.slice none 0 0] (n * 1)).toList) (hA : A = some ⟨gw, 0, none⟩) : WhoS w gw n f base (fun _ => false) F := by
  obtain ⟨h0, ⟨hv, _⟩ | ⟨g', cap, cs, hv, _, hh, hn, _, hsz, htk⟩⟩ := h
  · subst hA; injection hv with hv; cases hv
  · subst hA
    injection hv with hv _ _
    injection hv with hv; injection hv with hv _ _
    subst hv
    refine ⟨cs, fun _ => .slice none 0 0, hh, by omega, fun k hk => ?_, fun _ _ hd => by cases hd⟩
    have : (cs.toList.take (n * 1))[k]? = (madeCells #[.slice none 0 0] (n * 1)).toList[k]? := by rw [htk]
    rw [List.getElem?_take_of_lt (by omega), Array.getElem?_toList, Array.getElem?_toList] at this
    rw [this]
    simp [madeCells, hk, Nat.mod_one]
end
theorem TabS.below {w w' : World} {gt s : Nat} {T : Tab} (h : TabS w gt s T) (hb : Below w.heap.size w w') : TabS w' gt s T := RowJ.below h hb (RowJ.lt h)
theorem TabS.set {w : World} {gt s : Nat} {T : Tab} (h : TabS w gt s T) {x y : Nat} (hx : x ≤ s) (hy : y ≤ s) (p : Fr) :
    TabS ((w.setCell ⟨gt, (x * (s + 1) + y) * 2, none⟩ (.int .i64 (p.1 : Nat))).setCell ⟨gt, (x * (s + 1) + y) * 2 + 1, none⟩ (.int .i64 (p.2 : Nat))) gt s (setT T x y p) := by
  have hlt := (h.at_ hx hy).1
  refine (RowJ.set h hlt (p.1 : Int) (p.2 : Int)).congr (fun i hi => ?_)
  have hdm := Nat.div_add_mod i (s + 1)
  have hml := Nat.mod_lt i (show s + 1 > 0 by omega)
  by_cases e : i = x * (s + 1) + y
  · subst e
    have hd : (x * (s + 1) + y) / (s + 1) = x := by rw [Nat.mul_comm, Nat.mul_add_div (by omega), Nat.div_eq_of_lt (by omega)]; omega
    have hm : (x * (s + 1) + y) % (s + 1) = y := by rw [Nat.mul_comm, Nat.mul_add_mod, Nat.mod_eq_of_lt (by omega)]
    simp [setT, hd, hm]
  · have hn : ¬ (i / (s + 1) = x ∧ i % (s + 1) = y) := fun ⟨h1, h2⟩ => e (by rw [← hdm, h1, h2, Nat.mul_comm])
    simp [setT, hn, e]
/-- What the model's rule asks holds wherever both move. -/
def GoodS (G : Tab → Nat → Nat → Nat → Prop) (s f : Nat) (T : Tab) : Prop := ∀ x y face, x ≤ s → y ≤ s → 1 ≤ face → face ≤ f → x + face ≤ s → y + face ≤ s → G (partS T s (x + y) x) x y face
/-- The model's rule tells who moves. -/
def RuleS (r : Int) (s : Nat) (ch : Tab → Nat → Nat → Nat → Nat) (G : Tab → Nat → Nat → Nat → Prop) : Prop :=
  ∀ (gt x y face c : Nat) (T : Tab) (W : World), TabS W gt s T → x ≤ s → y ≤ s → 1 ≤ face → face ≤ 8 → (∀ u v, (T u v).1 ≤ 10000000 ∧ (T u v).2 ≤ 10000000) → (x + face ≤ s → y + face ≤ s → G T x y face) →
    Calls Try.prog 51 #[.slice (some ⟨gt, 0, none⟩) ((s + 1) * (s + 1)) c, .int .i64 s, .int .i64 r, .int .i64 x, .int .i64 y, .int .i64 face] W fun e w' => e = .returned (.int .i64 (whoI (movP ch T s x y face))) ∧ Below W.heap.size W w'
theorem lead_ruleS (s : Nat) (hs : s ≤ 6) : RuleS 2 s chLead noG := by
  intro gt x y face c T W hT hx hy h1 hf _ _
  by_cases h : x + face ≤ s ∧ y + face ≤ s
  · refine (oiWho_lead s x y face gt c T W hT hs hf h.1 h.2).mono fun e w' h' => ⟨?_, h'.2⟩
    rw [h'.1]
    unfold movP chLead
    rw [if_pos h.1, if_pos h.2]
    by_cases hl : x < y <;> simp [hl, whoI]
  · exact oiWho_none s x y face 2 _ _ c chLead T W hs hx hy hf h
theorem other_ruleS (s : Nat) (hs : s ≤ 6) : RuleS 3 s chFoll noG := by
  intro gt x y face c T W hT hx hy h1 hf _ _
  by_cases h : x + face ≤ s ∧ y + face ≤ s
  · refine (oiWho_other s x y face gt c T W hT hs hf h.1 h.2).mono fun e w' h' => ⟨?_, h'.2⟩
    rw [h'.1]
    unfold movP chFoll
    rw [if_pos h.1, if_pos h.2]
    by_cases hl : x < y <;> simp [hl, whoI]
  · exact oiWho_none s x y face 3 _ _ c chFoll T W hs hx hy hf h
end Go.Proofs.Ytmiefdjbhcpnbaa

/- Several texts, one behind the other: M54 C5zg. -/
import Derived.Test.YtmiefdjbhcpnbaaZPPak
import Derived.Test.YtmiefdjbhcpnbaaZPPar
import Derived.Test.YtmiefdjbhcpnbaaZPPaj
import Derived.Test.YtmiefdjbhcpnbaaZPPaq

namespace Go.Proofs.Ytmiefdjbhcpnbaa

theorem less_parts {a b c d : Nat} (hb : 1 ≤ b) (hd : 1 ≤ d) : a * d = b * d * (a / b) + (a % b) * d ∧ c * b = b * d * (c / d) + (c % d) * b ∧ (a % b) * d < b * d ∧ (c % d) * b < b * d := by
  have h1 := Nat.div_add_mod a b
  have h2 := Nat.div_add_mod c d
  refine ⟨?_, ?_, Nat.mul_lt_mul_of_pos_right (Nat.mod_lt _ hb) hd, ?_⟩
  · calc a * d = (b * (a / b) + a % b) * d := by rw [h1]
      _ = b * d * (a / b) + (a % b) * d := by rw [Nat.add_mul, Nat.mul_right_comm]
  · calc c * b = (d * (c / d) + c % d) * b := by rw [h2]
      _ = b * d * (c / d) + (c % d) * b := by rw [Nat.add_mul, Nat.mul_right_comm, Nat.mul_comm d b]
  · rw [Nat.mul_comm b d]; exact Nat.mul_lt_mul_of_pos_right (Nat.mod_lt _ hd) hb
theorem less_ne {a b c d : Nat} (hb : 1 ≤ b) (hd : 1 ≤ d) (h : a / b ≠ c / d) : (a * d < c * b) = (a / b < c / d) := by
  obtain ⟨e1, e2, l1, l2⟩ := less_parts (a := a) (c := c) hb hd
  rw [e1, e2]
  refine propext ⟨fun hl => ?_, fun hl => ?_⟩
  · rcases Nat.lt_or_ge (a / b) (c / d) with g | g
    · exact g
    · have := Nat.mul_le_mul_left (b * d) (show c / d + 1 ≤ a / b by omega)
      rw [Nat.mul_add, Nat.mul_one] at this
      omega
  · have := Nat.mul_le_mul_left (b * d) (show a / b + 1 ≤ c / d by omega)
    rw [Nat.mul_add, Nat.mul_one] at this
    omega
theorem less_eq {a b c d : Nat} (hb : 1 ≤ b) (hd : 1 ≤ d) (h : a / b = c / d) : (a * d < c * b) = (a % b * d < c % d * b) := by
  obtain ⟨e1, e2, l1, l2⟩ := less_parts (a := a) (c := c) hb hd
  rw [e1, e2, h]
  exact propext ⟨fun _ => by omega, fun _ => by omega⟩
theorem less_left {c d b : Nat} (hb : 1 ≤ b) : (0 * d < c * b) = (0 < c) := by
  refine propext ⟨fun h => ?_, fun h => ?_⟩
  · rcases Nat.eq_zero_or_pos c with rfl | h1
    · simp at h
    · exact h1
  · have := Nat.mul_pos h hb; omega
theorem less_right {a d b : Nat} : (a * d < 0 * b) = False := by simp
theorem less_swap {r d r' b : Nat} : (r * d < r' * b) = (d * r < b * r') := by rw [Nat.mul_comm r d, Nat.mul_comm r' b]

/-- The second token's move leads to a smaller mean. -/
def lessB (T : Tab) (x y face : Nat) : Bool := decide ((behP T x y 1 face).1 * (behP T x y 0 face).2 < (behP T x y 0 face).1 * (behP T x y 1 face).2)
/-- The second token's move leads to a greater mean. -/
def moreB (T : Tab) (x y face : Nat) : Bool := decide ((behP T x y 0 face).1 * (behP T x y 1 face).2 < (behP T x y 1 face).1 * (behP T x y 0 face).2)
def chShort (T : Tab) (x y face : Nat) : Nat := if lessB T x y face then 1 else 0
def chLong (T : Tab) (x y face : Nat) : Nat := if lessB T x y face then 0 else 1
def chWorst (T : Tab) (x y face : Nat) : Nat := if moreB T x y face then 1 else 0
/-- Neither mean behind a move is divided by 0. -/
def gS : Tab → Nat → Nat → Nat → Prop := fun T x y face => 1 ≤ (T (x + face) y).2 ∧ 1 ≤ (T x (y + face)).2

def bestTab : Bool → Nat → Nat → List Fr
  | true, 1, 1 => [(2, 1), (1, 1), (1, 1), (0, 1)]
  | true, 1, 2 => [(4, 1), (2, 1), (2, 1), (0, 1)]
  | true, 1, 3 => [(6, 1), (3, 1), (3, 1), (0, 1)]
  | true, 1, 4 => [(8, 1), (4, 1), (4, 1), (0, 1)]
  | true, 2, 1 => [(4, 1), (3, 1), (2, 1), (3, 1), (2, 1), (1, 1), (2, 1), (1, 1), (0, 1)]
  | true, 2, 2 => [(7, 2), (3, 1), (2, 1), (3, 1), (4, 1), (2, 1), (2, 1), (2, 1), (0, 1)]
  | true, 2, 3 => [(21, 4), (9, 2), (3, 1), (9, 2), (6, 1), (3, 1), (3, 1), (3, 1), (0, 1)]
  | true, 2, 4 => [(7, 1), (6, 1), (4, 1), (6, 1), (8, 1), (4, 1), (4, 1), (4, 1), (0, 1)]
  | true, 3, 1 => [(6, 1), (5, 1), (4, 1), (3, 1), (5, 1), (4, 1), (3, 1), (2, 1), (4, 1), (3, 1), (2, 1), (1, 1), (3, 1), (2, 1), (1, 1), (0, 1)]
  | true, 3, 2 => [(43, 8), (17, 4), (9, 2), (3, 1), (17, 4), (7, 2), (3, 1), (2, 1), (9, 2), (3, 1), (4, 1), (2, 1), (3, 1), (2, 1), (2, 1), (0, 1)]
  | true, 3, 3 => [(47, 9), (14, 3), (5, 1), (3, 1), (14, 3), (21, 4), (9, 2), (3, 1), (5, 1), (9, 2), (6, 1), (3, 1), (3, 1), (3, 1), (3, 1), (0, 1)]
  | true, 3, 4 => [(188, 27), (56, 9), (20, 3), (4, 1), (56, 9), (7, 1), (6, 1), (4, 1), (20, 3), (6, 1), (8, 1), (4, 1), (4, 1), (4, 1), (4, 1), (0, 1)]
  | true, 4, 1 => [(8, 1), (7, 1), (6, 1), (5, 1), (4, 1), (7, 1), (6, 1), (5, 1), (4, 1), (3, 1), (6, 1), (5, 1), (4, 1), (3, 1), (2, 1), (5, 1), (4, 1), (3, 1), (2, 1), (1, 1), (4, 1), (3, 1), (2, 1), (1, 1), (0, 1)]
  | true, 4, 2 => [(199, 32), (89, 16), (39, 8), (17, 4), (7, 2), (89, 16), (43, 8), (17, 4), (9, 2), (3, 1), (39, 8), (17, 4), (7, 2), (3, 1), (2, 1), (17, 4), (9, 2), (3, 1), (4, 1), (2, 1), (7, 2), (3, 1), (2, 1), (2, 1), (0, 1)]
  | true, 4, 3 => [(536, 81), (152, 27), (97, 18), (35, 6), (4, 1), (152, 27), (47, 9), (14, 3), (5, 1), (3, 1), (97, 18), (14, 3), (21, 4), (9, 2), (3, 1), (35, 6), (5, 1), (9, 2), (6, 1), (3, 1), (4, 1), (3, 1), (3, 1), (3, 1), (0, 1)]
  | true, 4, 4 => [(213, 32), (437, 72), (109, 18), (13, 2), (4, 1), (437, 72), (188, 27), (56, 9), (20, 3), (4, 1), (109, 18), (56, 9), (7, 1), (6, 1), (4, 1), (13, 2), (20, 3), (6, 1), (8, 1), (4, 1), (4, 1), (4, 1), (4, 1), (4, 1), (0, 1)]
  | true, 5, 1 => [(10, 1), (9, 1), (8, 1), (7, 1), (6, 1), (5, 1), (9, 1), (8, 1), (7, 1), (6, 1), (5, 1), (4, 1), (8, 1), (7, 1), (6, 1), (5, 1), (4, 1), (3, 1), (7, 1), (6, 1), (5, 1), (4, 1), (3, 1), (2, 1), (6, 1), (5, 1), (4, 1), (3, 1), (2, 1), (1, 1), (5, 1), (4, 1), (3, 1), (2, 1), (1, 1), (0, 1)]
  | true, 5, 2 => [(983, 128), (441, 64), (207, 32), (89, 16), (43, 8), (17, 4), (441, 64), (199, 32), (89, 16), (39, 8), (17, 4), (7, 2), (207, 32), (89, 16), (43, 8), (17, 4), (9, 2), (3, 1), (89, 16), (39, 8), (17, 4), (7, 2), (3, 1), (2, 1), (43, 8), (17, 4), (9, 2), (3, 1), (4, 1), (2, 1), (17, 4), (7, 2), (3, 1), (2, 1), (2, 1), (0, 1)]
  | true, 5, 3 => [(21137, 2916), (3253, 486), (491, 81), (647, 108), (101, 18), (13, 3), (3253, 486), (536, 81), (152, 27), (97, 18), (35, 6), (4, 1), (491, 81), (152, 27), (47, 9), (14, 3), (5, 1), (3, 1), (647, 108), (97, 18), (14, 3), (21, 4), (9, 2), (3, 1), (101, 18), (35, 6), (5, 1), (9, 2), (6, 1), (3, 1), (13, 3), (4, 1), (3, 1), (3, 1), (3, 1), (0, 1)]
  | true, 5, 4 => [(112495, 13824), (889, 128), (6199, 864), (505, 72), (89, 12), (5, 1), (889, 128), (213, 32), (437, 72), (109, 18), (13, 2), (4, 1), (6199, 864), (437, 72), (188, 27), (56, 9), (20, 3), (4, 1), (505, 72), (109, 18), (56, 9), (7, 1), (6, 1), (4, 1), (89, 12), (13, 2), (20, 3), (6, 1), (8, 1), (4, 1), (5, 1), (4, 1), (4, 1), (4, 1), (4, 1), (0, 1)]
  | true, 6, 1 => [(12, 1), (11, 1), (10, 1), (9, 1), (8, 1), (7, 1), (6, 1), (11, 1), (10, 1), (9, 1), (8, 1), (7, 1), (6, 1), (5, 1), (10, 1), (9, 1), (8, 1), (7, 1), (6, 1), (5, 1), (4, 1), (9, 1), (8, 1), (7, 1), (6, 1), (5, 1), (4, 1), (3, 1), (8, 1), (7, 1), (6, 1), (5, 1), (4, 1), (3, 1), (2, 1), (7, 1), (6, 1), (5, 1), (4, 1), (3, 1), (2, 1), (1, 1), (6, 1), (5, 1), (4, 1), (3, 1), (2, 1), (1, 1), (0, 1)]
  | true, 6, 2 => [(4551, 512), (2105, 256), (967, 128), (441, 64), (199, 32), (89, 16), (39, 8), (2105, 256), (983, 128), (441, 64), (207, 32), (89, 16), (43, 8), (17, 4), (967, 128), (441, 64), (199, 32), (89, 16), (39, 8), (17, 4), (7, 2), (441, 64), (207, 32), (89, 16), (43, 8), (17, 4), (9, 2), (3, 1), (199, 32), (89, 16), (39, 8), (17, 4), (7, 2), (3, 1), (2, 1), (89, 16), (43, 8), (17, 4), (9, 2), (3, 1), (4, 1), (2, 1), (39, 8), (17, 4), (7, 2), (3, 1), (2, 1), (2, 1), (0, 1)]
  | true, 6, 3 => [(52760, 6561), (66017, 8748), (20669, 2916), (1577, 243), (1991, 324), (335, 54), (43, 9), (66017, 8748), (21137, 2916), (3253, 486), (491, 81), (647, 108), (101, 18), (13, 3), (20669, 2916), (3253, 486), (536, 81), (152, 27), (97, 18), (35, 6), (4, 1), (1577, 243), (491, 81), (152, 27), (47, 9), (14, 3), (5, 1), (3, 1), (1991, 324), (647, 108), (97, 18), (14, 3), (21, 4), (9, 2), (3, 1), (335, 54), (101, 18), (35, 6), (5, 1), (9, 2), (6, 1), (3, 1), (43, 9), (13, 3), (4, 1), (3, 1), (3, 1), (3, 1), (0, 1)]
  | true, 6, 4 => [(1872983, 221184), (447403, 55296), (33317, 4608), (24811, 3456), (2123, 288), (341, 48), (21, 4), (447403, 55296), (112495, 13824), (889, 128), (6199, 864), (505, 72), (89, 12), (5, 1), (33317, 4608), (889, 128), (213, 32), (437, 72), (109, 18), (13, 2), (4, 1), (24811, 3456), (6199, 864), (437, 72), (188, 27), (56, 9), (20, 3), (4, 1), (2123, 288), (505, 72), (109, 18), (56, 9), (7, 1), (6, 1), (4, 1), (341, 48), (89, 12), (13, 2), (20, 3), (6, 1), (8, 1), (4, 1), (21, 4), (5, 1), (4, 1), (4, 1), (4, 1), (4, 1), (0, 1)]
  | false, 1, 1 => [(2, 1), (1, 1), (1, 1), (0, 1)]
  | false, 1, 2 => [(4, 1), (2, 1), (2, 1), (0, 1)]
  | false, 1, 3 => [(6, 1), (3, 1), (3, 1), (0, 1)]
  | false, 1, 4 => [(8, 1), (4, 1), (4, 1), (0, 1)]
  | false, 2, 1 => [(4, 1), (3, 1), (2, 1), (3, 1), (2, 1), (1, 1), (2, 1), (1, 1), (0, 1)]
  | false, 2, 2 => [(4, 1), (4, 1), (2, 1), (4, 1), (4, 1), (2, 1), (2, 1), (2, 1), (0, 1)]
  | false, 2, 3 => [(6, 1), (6, 1), (3, 1), (6, 1), (6, 1), (3, 1), (3, 1), (3, 1), (0, 1)]
  | false, 2, 4 => [(8, 1), (8, 1), (4, 1), (8, 1), (8, 1), (4, 1), (4, 1), (4, 1), (0, 1)]
  | false, 3, 1 => [(6, 1), (5, 1), (4, 1), (3, 1), (5, 1), (4, 1), (3, 1), (2, 1), (4, 1), (3, 1), (2, 1), (1, 1), (3, 1), (2, 1), (1, 1), (0, 1)]
  | false, 3, 2 => [(25, 4), (11, 2), (5, 1), (3, 1), (11, 2), (4, 1), (4, 1), (2, 1), (5, 1), (4, 1), (4, 1), (2, 1), (3, 1), (2, 1), (2, 1), (0, 1)]
  | false, 3, 3 => [(6, 1), (6, 1), (6, 1), (3, 1), (6, 1), (6, 1), (6, 1), (3, 1), (6, 1), (6, 1), (6, 1), (3, 1), (3, 1), (3, 1), (3, 1), (0, 1)]
  | false, 3, 4 => [(8, 1), (8, 1), (8, 1), (4, 1), (8, 1), (8, 1), (8, 1), (4, 1), (8, 1), (8, 1), (8, 1), (4, 1), (4, 1), (4, 1), (4, 1), (0, 1)]
  | false, 4, 1 => [(8, 1), (7, 1), (6, 1), (5, 1), (4, 1), (7, 1), (6, 1), (5, 1), (4, 1), (3, 1), (6, 1), (5, 1), (4, 1), (3, 1), (2, 1), (5, 1), (4, 1), (3, 1), (2, 1), (1, 1), (4, 1), (3, 1), (2, 1), (1, 1), (0, 1)]
  | false, 4, 2 => [(117, 16), (55, 8), (23, 4), (11, 2), (7, 2), (55, 8), (25, 4), (11, 2), (5, 1), (3, 1), (23, 4), (11, 2), (4, 1), (4, 1), (2, 1), (11, 2), (5, 1), (4, 1), (4, 1), (2, 1), (7, 2), (3, 1), (2, 1), (2, 1), (0, 1)]
  | false, 4, 3 => [(226, 27), (70, 9), (22, 3), (7, 1), (4, 1), (70, 9), (6, 1), (6, 1), (6, 1), (3, 1), (22, 3), (6, 1), (6, 1), (6, 1), (3, 1), (7, 1), (6, 1), (6, 1), (6, 1), (3, 1), (4, 1), (3, 1), (3, 1), (3, 1), (0, 1)]
  | false, 4, 4 => [(8, 1), (8, 1), (8, 1), (8, 1), (4, 1), (8, 1), (8, 1), (8, 1), (8, 1), (4, 1), (8, 1), (8, 1), (8, 1), (8, 1), (4, 1), (8, 1), (8, 1), (8, 1), (8, 1), (4, 1), (4, 1), (4, 1), (4, 1), (4, 1), (0, 1)]
  | false, 5, 1 => [(10, 1), (9, 1), (8, 1), (7, 1), (6, 1), (5, 1), (9, 1), (8, 1), (7, 1), (6, 1), (5, 1), (4, 1), (8, 1), (7, 1), (6, 1), (5, 1), (4, 1), (3, 1), (7, 1), (6, 1), (5, 1), (4, 1), (3, 1), (2, 1), (6, 1), (5, 1), (4, 1), (3, 1), (2, 1), (1, 1), (5, 1), (4, 1), (3, 1), (2, 1), (1, 1), (0, 1)]
  | false, 5, 2 => [(569, 64), (263, 32), (121, 16), (55, 8), (25, 4), (17, 4), (263, 32), (117, 16), (55, 8), (23, 4), (11, 2), (7, 2), (121, 16), (55, 8), (25, 4), (11, 2), (5, 1), (3, 1), (55, 8), (23, 4), (11, 2), (4, 1), (4, 1), (2, 1), (25, 4), (11, 2), (5, 1), (4, 1), (4, 1), (2, 1), (17, 4), (7, 2), (3, 1), (2, 1), (2, 1), (0, 1)]
  | false, 5, 3 => [(2212, 243), (715, 81), (217, 27), (67, 9), (22, 3), (13, 3), (715, 81), (226, 27), (70, 9), (22, 3), (7, 1), (4, 1), (217, 27), (70, 9), (6, 1), (6, 1), (6, 1), (3, 1), (67, 9), (22, 3), (6, 1), (6, 1), (6, 1), (3, 1), (22, 3), (7, 1), (6, 1), (6, 1), (6, 1), (3, 1), (13, 3), (4, 1), (3, 1), (3, 1), (3, 1), (0, 1)]
  | false, 5, 4 => [(2673, 256), (637, 64), (153, 16), (37, 4), (9, 1), (5, 1), (637, 64), (8, 1), (8, 1), (8, 1), (8, 1), (4, 1), (153, 16), (8, 1), (8, 1), (8, 1), (8, 1), (4, 1), (37, 4), (8, 1), (8, 1), (8, 1), (8, 1), (4, 1), (9, 1), (8, 1), (8, 1), (8, 1), (8, 1), (4, 1), (5, 1), (4, 1), (4, 1), (4, 1), (4, 1), (0, 1)]
  | false, 6, 1 => [(12, 1), (11, 1), (10, 1), (9, 1), (8, 1), (7, 1), (6, 1), (11, 1), (10, 1), (9, 1), (8, 1), (7, 1), (6, 1), (5, 1), (10, 1), (9, 1), (8, 1), (7, 1), (6, 1), (5, 1), (4, 1), (9, 1), (8, 1), (7, 1), (6, 1), (5, 1), (4, 1), (3, 1), (8, 1), (7, 1), (6, 1), (5, 1), (4, 1), (3, 1), (2, 1), (7, 1), (6, 1), (5, 1), (4, 1), (3, 1), (2, 1), (1, 1), (6, 1), (5, 1), (4, 1), (3, 1), (2, 1), (1, 1), (0, 1)]
  | false, 6, 2 => [(2601, 256), (1223, 128), (561, 64), (263, 32), (117, 16), (55, 8), (39, 8), (1223, 128), (569, 64), (263, 32), (121, 16), (55, 8), (25, 4), (17, 4), (561, 64), (263, 32), (117, 16), (55, 8), (23, 4), (11, 2), (7, 2), (263, 32), (121, 16), (55, 8), (25, 4), (11, 2), (5, 1), (3, 1), (117, 16), (55, 8), (23, 4), (11, 2), (4, 1), (4, 1), (2, 1), (55, 8), (25, 4), (11, 2), (5, 1), (4, 1), (4, 1), (2, 1), (39, 8), (17, 4), (7, 2), (3, 1), (2, 1), (2, 1), (0, 1)]
  | false, 6, 3 => [(22108, 2187), (7093, 729), (2266, 243), (670, 81), (217, 27), (70, 9), (43, 9), (7093, 729), (2212, 243), (715, 81), (217, 27), (67, 9), (22, 3), (13, 3), (2266, 243), (715, 81), (226, 27), (70, 9), (22, 3), (7, 1), (4, 1), (670, 81), (217, 27), (70, 9), (6, 1), (6, 1), (6, 1), (3, 1), (217, 27), (67, 9), (22, 3), (6, 1), (6, 1), (6, 1), (3, 1), (70, 9), (22, 3), (7, 1), (6, 1), (6, 1), (6, 1), (3, 1), (43, 9), (13, 3), (4, 1), (3, 1), (3, 1), (3, 1), (0, 1)]
  | false, 6, 4 => [(45001, 4096), (11061, 1024), (2593, 256), (621, 64), (149, 16), (37, 4), (21, 4), (11061, 1024), (2673, 256), (637, 64), (153, 16), (37, 4), (9, 1), (5, 1), (2593, 256), (637, 64), (8, 1), (8, 1), (8, 1), (8, 1), (4, 1), (621, 64), (153, 16), (8, 1), (8, 1), (8, 1), (8, 1), (4, 1), (149, 16), (37, 4), (8, 1), (8, 1), (8, 1), (8, 1), (4, 1), (37, 4), (9, 1), (8, 1), (8, 1), (8, 1), (8, 1), (4, 1), (21, 4), (5, 1), (4, 1), (4, 1), (4, 1), (4, 1), (0, 1)]
  | _, _, _ => []
def chP (l : Bool) : Tab → Nat → Nat → Nat → Nat := if l then chShort else chLong
def chS (l : Bool) : Tab → Nat → Nat → Nat → Nat := if l then chShort else chWorst
def denB (l : List Fr) : Bool := l.all fun p => decide (1 ≤ p.2)
theorem denB_iff {s : Nat} {l : List Fr} (h : denB l = true) (u v : Nat) : 1 ≤ (rowsTab s l u v).2 := by
  unfold rowsTab
  rw [List.getD_eq_getElem?_getD]
  cases hg : l[u * (s + 1) + v]? with
  | none => exact Nat.le_refl 1
  | some p =>
    have := List.all_eq_true.1 h p (List.mem_of_getElem? hg)
    simpa using this
def okBest (l : Bool) (s f : Nat) : Bool := smallB (bestTab l s f) && denB (bestTab l s f) && okPB (chP l) s f (rowsTab s (bestTab l s f)) && okSB (chS l) s f (rowsTab s (bestTab l s f))
theorem bestTab_ok : ((List.range 6).all fun s => (List.range 4).all fun f => [true, false].all fun l => okBest l (s + 1) (f + 1)) = true := by decide +kernel
theorem bestTab_all (l : Bool) (s f : Nat) (hs1 : 1 ≤ s) (hs : s ≤ 6) (hf1 : 1 ≤ f) (hf : f ≤ 4) :
    smallB (bestTab l s f) = true ∧ denB (bestTab l s f) = true ∧ okPB (chP l) s f (rowsTab s (bestTab l s f)) = true ∧ okSB (chS l) s f (rowsTab s (bestTab l s f)) = true := by
  have h1 := List.all_eq_true.1 bestTab_ok (s - 1) (by simp; omega)
  have h2 := List.all_eq_true.1 h1 (f - 1) (by simp; omega)
  have h3 := List.all_eq_true.1 h2 l (by cases l <;> simp)
  rw [show s - 1 + 1 = s by omega, show f - 1 + 1 = f by omega] at h3
  unfold okBest at h3
  simp only [Bool.and_eq_true] at h3
  exact ⟨h3.1.1.1, h3.1.1.2, h3.1.2, h3.2⟩

/-- Both can move by a face, and the means behind differ. -/
def diffB (T : Tab) (s x y face : Nat) : Bool := decide (x + face ≤ s ∧ y + face ≤ s) && !(decide ((T (x + face) y).1 = (T x (y + face)).1) && decide ((T (x + face) y).2 = (T x (y + face)).2))
/-- The faces among the first k by which it matters. -/
def mattL (T : Tab) (s x y : Nat) : Nat → List Int
  | 0 => []
  | k + 1 => if diffB T s x y (k + 1) then mattL T s x y k ++ [((k + 1 : Nat) : Int)] else mattL T s x y k
theorem mattL_len (T : Tab) (s x y : Nat) : ∀ k, (mattL T s x y k).length ≤ k
  | 0 => by simp [mattL]
  | k + 1 => by
    have := mattL_len T s x y k
    unfold mattL
    split
    · simp only [List.length_append, List.length_singleton]; omega
    · omega
theorem mattL_succ (T : Tab) (s x y k : Nat) : mattL T s x y (k + 1) = if diffB T s x y (k + 1) then mattL T s x y k ++ [((k + 1 : Nat) : Int)] else mattL T s x y k := rfl
end Go.Proofs.Ytmiefdjbhcpnbaa

namespace Go.Proofs.Ytmiefdjbhcpnbaa
open Go.RowKit

/-- The program's comparison tells so. -/
def shG : Tab → Nat → Nat → Nat → Prop := fun T x y face => ∃ c, cmpP (behP T x y 1 face) (behP T x y 0 face) = some c ∧ decide (c < 0) = lessB T x y face

set_option maxRecDepth 100000 in
set_option maxHeartbeats 1000000 in
theorem shortest_any (g s f x y face : Nat) (R : Value) (T : Tab) (w : World) (hP : PA w g 82 s f R T) (hs : s ≤ 6) (hx : x + face ≤ s) (hy : y + face ≤ s) (hT : ∀ u v, (T u v).1 ≤ 10000000 ∧ (T u v).2 ≤ 10000000) (hG : shG T x y face) :
    Calls Try.prog 55 #[.pointer (some ⟨g, 0, none⟩), .agg #[.int .i64 x, .int .i64 y], .int .i64 face] w fun e w' => e = .returned (.int .i64 (chShort T x y face : Nat)) ∧ Below w.heap.size w w' := by
  obtain ⟨c, hc, hcl⟩ := hG
  have HM1 := Lib.hid (fun W h => meanBehind_any g s f x y 1 face R T W h hs (by omega) (.inr ⟨rfl, hy, by omega⟩))
  have HM0 := Lib.hid (fun W h => meanBehind_any g s f x y 0 face R T W h hs (by omega) (.inl ⟨rfl, hx, by omega⟩))
  have hb1 : (behP T x y 1 face).1 ≤ 10000000 ∧ (behP T x y 1 face).2 ≤ 10000000 := hT _ _
  have hb0 : (behP T x y 0 face).1 ≤ 10000000 ∧ (behP T x y 0 face).2 ≤ 10000000 := hT _ _
  have HCP := Lib.hid (fun W => compare_any _ _ c W hb1.1 hb1.2 hb0.1 hb0.2 hc)
  obtain ⟨m, hm⟩ : ∃ m, m = chShort T x y face := ⟨_, rfl⟩
  have hmc : m = if c < 0 then 1 else 0 := by rw [hm]; unfold chShort; rw [← hcl]; simp
  rw [← hm]
  obtain ⟨p, hp⟩ : ∃ p, p = behP T x y 1 face := ⟨_, rfl⟩
  obtain ⟨q, hq⟩ : ∃ q, q = behP T x y 0 face := ⟨_, rfl⟩
  rw [← hp, ← hq] at HCP
  rw [← hp] at HM1
  rw [← hq] at HM0
  have hgl := hP.lt
  have HMC := Lib.hid hmc
  obtain ⟨W1, hW1⟩ : ∃ W1, W1 = w.alloc (.cells #[.int .i64 (x : Int), .int .i64 (y : Int)] 56) := ⟨_, rfl⟩
  have hB1 : Below w.heap.size w W1 := by rw [hW1]; exact below1 _ _
  have k1 : W1.heap[w.heap.size]? = some (.cells #[.int .i64 (x : Int), .int .i64 (y : Int)] 56 (0, 0)) := by rw [hW1]; exact heap_alloc_at _ _ _ rfl
  have P1 : PA W1 g 82 s f R T := by rw [hW1]; exact hP.alloc _
  have hz1 : w.heap.size < W1.heap.size := heap_lt k1
  have hgl1 := P1.lt
  have HW := Lib.hid hW1
  have sizeB : (Try.prog.info? 56).map (·.size) = some 2 := by kernel_rfl
  have HP1 := Lib.hid P1
  clear hm hmc hc hcl hp hq hP hb1 hb0 hT hs hx hy hW1 hgl P1
  go_enter Try.func55, Try.ntmps55
  go_wp2_with fail
  rw [← HW.out]
  refine wp_region_held_drew (S := (fun w' => Below W1.heap.size W1 w')) (by kernel_rfl) ((Below.refl W1.heap.size W1).drew) (fun hS => ?_)
  refine wpAnyH_take (i := 1) (oi := ⟨some 8, _, _, _, _, _⟩) rfl (by kernel_rfl) (by kernel_rfl) (by kernel_rfl) (fun _ _ _ h => h) (yields_load_row rfl 56 (.tmp 4) rfl w.heap.size rfl _ _ _ _ (fun _ h => (h.block w.heap.size hz1).trans k1) Try.underlying56 rfl sizeB) hS ?_
  try simp only [Act.put, List.setIfInBounds_toArray, List.set_cons_zero, List.set_cons_succ]
  refine wpAnyH_take (i := 5) (oi := ⟨some 12, _, _, _, _, _⟩) rfl (by kernel_rfl) (by kernel_rfl) (by kernel_rfl) (fun _ _ _ h => h) (yields_load_row rfl 56 (.tmp 4) rfl w.heap.size rfl _ _ _ _ (fun _ h => (h.block w.heap.size hz1).trans k1) Try.underlying56 rfl sizeB) hS ?_
  try simp only [Act.put, List.setIfInBounds_toArray, List.set_cons_zero, List.set_cons_succ]
  refine wpAnyH_take (i := 0) (oi := ⟨some 7, _, _, _, _, _⟩) (v := ?va1) rfl (by kernel_rfl) (by kernel_rfl) (by kernel_rfl) (fun _ _ _ h => h) (Or.inl ⟨by rfl, ?ha1⟩) hS ?ra1
  case ha1 => (intro w' hSw; (try dsimp only at hSw); go_simp; (try with_reducible rfl))
  try simp only [Act.put, List.setIfInBounds_toArray, List.set_cons_zero, List.set_cons_succ]
  refine wpAnyH_take (i := 2) (oi := ⟨some 9, _, _, _, _, _⟩) (v := ?va2) rfl (by kernel_rfl) (by kernel_rfl) (by kernel_rfl) (fun _ _ _ h => h) (Or.inl ⟨by rfl, ?ha2⟩) hS ?ra2
  case ha2 => (intro w' hSw; (try dsimp only at hSw); go_simp; (try with_reducible rfl))
  try simp only [Act.put, List.setIfInBounds_toArray, List.set_cons_zero, List.set_cons_succ]
  refine wpAnyH_take (i := 4) (oi := ⟨some 11, _, _, _, _, _⟩) (v := ?va3) rfl (by kernel_rfl) (by kernel_rfl) (by kernel_rfl) (fun _ _ _ h => h) (Or.inl ⟨by rfl, ?ha3⟩) hS ?ra3
  case ha3 => (intro w' hSw; (try dsimp only at hSw); go_simp; (try with_reducible rfl))
  try simp only [Act.put, List.setIfInBounds_toArray, List.set_cons_zero, List.set_cons_succ]
  refine wpAnyH_take (i := 6) (oi := ⟨some 13, _, _, _, _, _⟩) (v := ?va4) rfl (by kernel_rfl) (by kernel_rfl) (by kernel_rfl) (fun _ _ _ h => h) (Or.inl ⟨by rfl, ?ha4⟩) hS ?ra4
  case ha4 => (intro w' hSw; (try dsimp only at hSw); go_simp; (try with_reducible rfl))
  try simp only [Act.put, List.setIfInBounds_toArray, List.set_cons_zero, List.set_cons_succ]
  refine wpAnyH_ready (rs := [3]) (by kernel_rfl) (by simp) ?_
  refine AllReadyH.cons (o := ⟨some 10, _, _, _, _, _⟩) rfl (fun K' hK' => ?_) AllReadyH.nil
  go_simp
  go_at_call 63
  refine (HM1.out _ (HP1.out.below hS hgl1)).mono ?_
  rintro e w10 ⟨rfl, hx10⟩
  have hS10 : Below W1.heap.size W1 w10 := keepB hS (Nat.le_refl _) hx10
  refine hK'.out _ _ hS10 (fun _ => ?_)
  clear hK' K'
  try simp only [Act.put, List.setIfInBounds_toArray, List.set_cons_zero, List.set_cons_succ]
  refine wpAnyH_ready (rs := [7]) (by kernel_rfl) (by simp) ?_
  refine AllReadyH.cons (o := ⟨some 14, _, _, _, _, _⟩) rfl (fun K' hK' => ?_) AllReadyH.nil
  go_simp
  go_at_call 63
  refine (HM0.out _ (HP1.out.below hS10 hgl1)).mono ?_
  rintro e w14 ⟨rfl, hx14⟩
  have hS14 : Below W1.heap.size W1 w14 := keepB hS10 (Nat.le_refl _) hx14
  refine hK'.out _ _ hS14 (fun _ => ?_)
  clear hK' K'
  try simp only [Act.put, List.setIfInBounds_toArray, List.set_cons_zero, List.set_cons_succ]
  refine wpAnyH_ready (rs := [8]) (by kernel_rfl) (by simp) ?_
  refine AllReadyH.cons (o := ⟨some 15, _, _, _, _, _⟩) rfl (fun K' hK' => ?_) AllReadyH.nil
  go_simp
  go_at_call 64
  refine (HCP.out _).mono ?_
  rintro e w15 ⟨rfl, hx15⟩
  have hS15 : Below W1.heap.size W1 w15 := keepB hS14 (Nat.le_refl _) hx15
  refine hK'.out _ _ hS15 (fun _ => ?_)
  clear hK' K'
  try simp only [Act.put, List.setIfInBounds_toArray, List.set_cons_zero, List.set_cons_succ]
  refine wpAnyH_take (i := 9) (oi := ⟨some 16, _, _, _, _, _⟩) (v := ?va5) rfl (by kernel_rfl) (by kernel_rfl) (by kernel_rfl) (fun _ _ _ h => h) (Or.inl ⟨by rfl, ?ha5⟩) hS15 ?ra5
  case ha5 => (intro w' hSw; (try dsimp only at hSw); go_simp; (try with_reducible rfl))
  try simp only [Act.put, List.setIfInBounds_toArray, List.set_cons_zero, List.set_cons_succ]
  refine wpAnyH_done (by kernel_rfl) ?_ _
  have hBW : Below w.heap.size w w15 := hB1.trans (hS15.mono hB1.size)
  by_cases h : c < 0
  · go_wp2_with fail
    go_ret
    exact ⟨ret_int (by rw [HMC.out, if_pos h]; rfl), hBW⟩
  · go_wp2_with fail
    go_ret
    exact ⟨ret_int (by rw [HMC.out, if_neg (by omega)]; rfl), hBW⟩

theorem short_rule : RuleIs 55 chShort shG := fun g s f x y face T W hP hs hx hy _ hT hG => shortest_any g s f x y face _ T W hP hs hx hy hT hG
theorem short_le (T : Tab) (x y face : Nat) : chShort T x y face ≤ 1 := by unfold chShort; split <;> omega
theorem long_le (T : Tab) (x y face : Nat) : chLong T x y face ≤ 1 := by unfold chLong; split <;> omega
end Go.Proofs.Ytmiefdjbhcpnbaa

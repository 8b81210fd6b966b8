/- Several texts, one behind the other: C5zi C5zj. -/
import Derived.StillTailTactics
import Derived.Test.YtmiefdjbhcpnbaaZPPas
import Derived.Test.YtmiefdjbhcpnbaaZPPak
import Derived.Test.YtmiefdjbhcpnbaaZPPaq

namespace Go.Proofs.Ytmiefdjbhcpnbaa
open Go.RowKit

set_option maxRecDepth 100000 in
set_option maxHeartbeats 1000000 in
theorem meLess_any (a0 b0 c0 d0 : Nat) (w : World) (ha : a0 ≤ 10000000) (hb : b0 ≤ 10000000) (hc : c0 ≤ 10000000) (hd : d0 ≤ 10000000) (hb1 : 1 ≤ b0) (hd1 : 1 ≤ d0) :
    Calls Try.prog 60 #[.int .i64 a0, .int .i64 b0, .int .i64 c0, .int .i64 d0] w fun e w' => e = .returned (.bool (decide (a0 * d0 < c0 * b0))) ∧ Below w.heap.size w w' := by
  obtain ⟨v, hv⟩ : ∃ v, v = decide (a0 * d0 < c0 * b0) := ⟨_, rfl⟩
  rw [← hv]
  go_enter Try.func60, Try.ntmps60
  go_wp2
  go_loopw [0, 1, 2, 3] (fun A B C D wr => ∃ a b c d : Nat, A = .int .i64 a ∧ B = .int .i64 b ∧ C = .int .i64 c ∧ D = .int .i64 d ∧ a ≤ 10000000 ∧ b ≤ 10000000 ∧ c ≤ 10000000 ∧ d ≤ 10000000 ∧ 1 ≤ b ∧ 1 ≤ d ∧ v = decide (a * d < c * b) ∧ Below w.heap.size w wr) (fun _ B _ D _ => (intOf B + intOf D).toNat)
  case atStart => exact ⟨a0, b0, c0, d0, rfl, rfl, rfl, rfl, ha, hb, hc, hd, hb1, hd1, hv, Below.refl _ _⟩
  case round =>
    clear ha hb hc hd hb1 hd1 hv
    obtain ⟨a, b, c, d, rfl, rfl, rfl, rfl, ha, hb, hc, hd, hb1, hd1, hv, hB⟩ := hrel
    have n1 : (b : Int) ≠ 0 := by omega
    have n2 : (d : Int) ≠ 0 := by omega
    obtain ⟨u, hu⟩ : ∃ u, u = a / b := ⟨_, rfl⟩
    obtain ⟨z, hz⟩ : ∃ z, z = c / d := ⟨_, rfl⟩
    obtain ⟨r, hr⟩ : ∃ r, r = a % b := ⟨_, rfl⟩
    obtain ⟨t, ht⟩ : ∃ t, t = c % d := ⟨_, rfl⟩
    have l1 := Nat.mod_lt a hb1
    have l2 := Nat.mod_lt c hd1
    rw [← hr] at l1
    rw [← ht] at l2
    have q1 : (a : Int) / (b : Int) = (u : Int) := by rw [hu]; rfl
    have q2 : (c : Int) / (d : Int) = (z : Int) := by rw [hz]; rfl
    have r1 : (a : Int) % (b : Int) = (r : Int) := by rw [hr]; rfl
    have r2 : (c : Int) % (d : Int) = (t : Int) := by rw [ht]; rfl
    have q1' : (a : Int).tdiv (b : Int) = (u : Int) := by rw [hu]; exact Int.ofNat_tdiv a b
    have q2' : (c : Int).tdiv (d : Int) = (z : Int) := by rw [hz]; exact Int.ofNat_tdiv c d
    have r1' : (a : Int).tmod (b : Int) = (r : Int) := by rw [hr]; exact Int.ofNat_tmod a b
    have r2' : (c : Int).tmod (d : Int) = (t : Int) := by rw [ht]; exact Int.ofNat_tmod c d
    have hu7 : u ≤ 10000000 := by have := Nat.div_le_self a b; omega
    have hz7 : z ≤ 10000000 := by have := Nat.div_le_self c d; omega
    have wu : IntKind.i64.wrap (u : Int) = (u : Int) := IntWalk.i64_in _ (by omega)
    have wz : IntKind.i64.wrap (z : Int) = (z : Int) := IntWalk.i64_in _ (by omega)
    by_cases he : u = z
    · subst he
      have hv2 : v = decide (r * d < t * b) := by rw [hv, hr, ht]; simp only [less_eq hb1 hd1 (hu.symm.trans hz)]
      clear hu hz hr ht hv
      by_cases hr0 : r = 0
      · subst hr0
        have hv3 : v = decide (0 < t) := by rw [hv2]; simp only [less_left hb1]
        have HV := Lib.hid hv3
        clear hv2 hv3
        go_wp2_with fail
        go_quiet (fail)
        go_wp2_with fail
        go_ret
        exact ⟨ret_bool (by rw [HV.out]), drewB hB _⟩
      · by_cases ht0 : t = 0
        · subst ht0
          have hv3 : v = false := by rw [hv2]; simp
          subst hv3
          have hr1 : ((r : Int) == 0) = false := by simp; omega
          clear hv2
          go_wp2_with fail
          go_quiet (fail)
          go_wp2_with fail
          go_ret
          exact ⟨rfl, drewB hB _⟩
        · have hr1 : ((r : Int) == 0) = false := by simp; omega
          have ht1 : ((t : Int) == 0) = false := by simp; omega
          have HV := Lib.hid hv2
          clear hv2
          go_wp2_with fail
          go_quiet (fail)
          go_wp2_with fail
          go_roundw
          case rel => exact ⟨d, t, b, r, rfl, rfl, rfl, rfl, hd, by omega, hb, by omega, by omega, by omega, by rw [HV.out]; simp only [less_swap], drewB hB _⟩
          case measure => simp [intOf] <;> omega
    · have hne : ((u : Int) != (z : Int)) = true := by simp; omega
      have hv2 : v = decide (u < z) := by rw [hv]; simp only [less_ne hb1 hd1 (by rw [← hu, ← hz]; exact he)]; rw [hu, hz]
      have HV := Lib.hid hv2
      clear hu hz hr ht hv hv2
      go_wp2_with fail
      go_quiet (fail)
      go_wp2_with fail
      go_quiet (fail)
      go_wp2_with fail
      go_ret
      exact ⟨ret_bool (by rw [HV.out]), drewB (drewB hB _) _⟩

set_option maxRecDepth 100000 in
set_option maxHeartbeats 4000000 in
theorem oiWho_best (s x y face gt c : Nat) (T : Tab) (w : World) (hT : TabS w gt s T) (hs : s ≤ 6) (hf : face ≤ 8) (hx : x + face ≤ s) (hy : y + face ≤ s) (hG : gS T x y face) (hb : ∀ u v, (T u v).1 ≤ 10000000 ∧ (T u v).2 ≤ 10000000) :
    Calls Try.prog 51 #[.slice (some ⟨gt, 0, none⟩) ((s + 1) * (s + 1)) c, .int .i64 s, .int .i64 0, .int .i64 x, .int .i64 y, .int .i64 face] w fun e w' => e = .returned (.int .i64 (if lessB T x y face then 1 else 0)) ∧ Below w.heap.size w w' := by
  have h1 := hT.at_ (x := x + face) (y := y) hx (by omega)
  have h2 := hT.at_ (x := x) (y := y + face) (by omega) hy
  have hgl := RowJ.lt hT
  have hb1 := hb (x + face) y
  have hb2 := hb x (y + face)
  obtain ⟨hg1, hg2⟩ := hG
  obtain ⟨p, hp⟩ : ∃ p, p = T (x + face) y := ⟨_, rfl⟩
  obtain ⟨q, hq⟩ : ∃ q, q = T x (y + face) := ⟨_, rfl⟩
  rw [← hp] at h1 hb1 hg1
  rw [← hq] at h2 hb2 hg2
  obtain ⟨n, hn⟩ : ∃ n, n = (s + 1) * (s + 1) := ⟨_, rfl⟩
  have hl : lessB T x y face = decide (q.1 * p.2 < p.1 * q.2) := by unfold lessB behP; rw [hp, hq]; rfl
  rw [hl]
  have HML := Lib.hid (fun W => meLess_any q.1 q.2 p.1 p.2 W hb2.1 hb2.2 hb1.1 hb1.2 hg2 hg1)
  obtain ⟨V, hV⟩ : ∃ V, V = decide (q.1 * p.2 < p.1 * q.2) := ⟨_, rfl⟩
  rw [← hV] at HML ⊢
  obtain ⟨R, hR⟩ : ∃ R : Int, R = if V = true then 1 else 0 := ⟨_, rfl⟩
  rw [← hR]
  have HR := Lib.hid hR
  have wx : IntKind.i64.wrap ((x : Int) + (face : Int)) = ((x + face : Nat) : Int) := by rw [IntWalk.i64_in _ (by omega)]; omega
  have wy : IntKind.i64.wrap ((y : Int) + (face : Int)) = ((y + face : Nat) : Int) := by rw [IntWalk.i64_in _ (by omega)]; omega
  have ws : IntKind.i64.wrap ((s : Int) + 1) = ((s + 1 : Nat) : Int) := by rw [IntWalk.i64_in _ (by omega)]; omega
  obtain ⟨X, hX⟩ : ∃ X, X = x + face := ⟨_, rfl⟩
  obtain ⟨Y, hY⟩ : ∃ Y, Y = y + face := ⟨_, rfl⟩
  obtain ⟨S, hS⟩ : ∃ S, S = s + 1 := ⟨_, rfl⟩
  rw [← hn, ← hS, ← hX] at h1
  rw [← hn, ← hS, ← hY] at h2
  rw [← hX] at wx hx
  rw [← hY] at wy hy
  rw [← hS] at ws hn
  rw [show (s + 1) * (s + 1) = n by rw [hn, hS]]
  have hSl : S ≤ 7 := by omega
  have m1 : X * S ≤ 6 * 7 := Nat.mul_le_mul (by omega) hSl
  have m2 : x * S ≤ 6 * 7 := Nat.mul_le_mul (by omega) hSl
  have wp1 : IntKind.i64.wrap ((X : Int) * (S : Int)) = ((X * S : Nat) : Int) := by rw [← Int.natCast_mul]; exact IntWalk.i64_in _ (by omega)
  have wp2 : IntKind.i64.wrap ((x : Int) * (S : Int)) = ((x * S : Nat) : Int) := by rw [← Int.natCast_mul]; exact IntWalk.i64_in _ (by omega)
  obtain ⟨P1, hP1⟩ : ∃ P1, P1 = X * S := ⟨_, rfl⟩
  obtain ⟨P2, hP2⟩ : ∃ P2, P2 = x * S := ⟨_, rfl⟩
  rw [← hP1] at wp1 h1 m1
  rw [← hP2] at wp2 h2 m2
  have wi1 : IntKind.i64.wrap ((P1 : Int) + (y : Int)) = ((P1 + y : Nat) : Int) := by rw [IntWalk.i64_in _ (by omega)]; omega
  have wi2 : IntKind.i64.wrap ((P2 : Int) + (y : Int)) = ((P2 + y : Nat) : Int) := by rw [IntWalk.i64_in _ (by omega)]; omega
  obtain ⟨I1, hI1⟩ : ∃ I1, I1 = P1 + y := ⟨_, rfl⟩
  obtain ⟨J2, hJ2⟩ : ∃ J2, J2 = P2 + y := ⟨_, rfl⟩
  obtain ⟨I2, hI2⟩ : ∃ I2, I2 = P2 + Y := ⟨_, rfl⟩
  rw [← hI1] at wi1 h1
  rw [← hJ2] at wi2
  rw [← hI2] at h2
  have wi3 : IntKind.i64.wrap ((J2 : Int) + (face : Int)) = (I2 : Int) := by rw [IntWalk.i64_in _ (by omega)]; omega
  obtain ⟨h1a, c1, c2⟩ := h1
  obtain ⟨h2a, c3, c4⟩ := h2
  have b1 : (I1 : Int) < (n : Int) := by omega
  have b2 : (I2 : Int) < (n : Int) := by omega
  clear hn hX hY hS hP1 hP2 hI1 hJ2 hI2 hR hT hb hp hq hl hV hg1 hg2 hb1 hb2
  go_enter Try.func51, Try.ntmps51
  go_wp2_with fail
  go_region
  all_goals
    go_wp2_with fail
    refine (HML.out _).mono ?_
    rintro e w2 ⟨rfl, hx2⟩
    have hB : Below w.heap.size w w2 := (below2 _ _ _).drew.trans (hx2.mono (by simp; omega))
    cases V
    · have hv : R = 0 := by rw [HR.out]; rfl
      subst hv
      clear HR HML
      go_wp2_with fail
      go_ret
      exact ⟨rfl, hB⟩
    · have hv : R = 1 := by rw [HR.out]; rfl
      subst hv
      clear HR HML
      go_wp2_with fail
      go_ret
      exact ⟨rfl, hB⟩

set_option maxRecDepth 100000 in
set_option maxHeartbeats 4000000 in
theorem oiWho_worst (s x y face gt c : Nat) (T : Tab) (w : World) (hT : TabS w gt s T) (hs : s ≤ 6) (hf : face ≤ 8) (hx : x + face ≤ s) (hy : y + face ≤ s) (hG : gS T x y face) (hb : ∀ u v, (T u v).1 ≤ 10000000 ∧ (T u v).2 ≤ 10000000) :
    Calls Try.prog 51 #[.slice (some ⟨gt, 0, none⟩) ((s + 1) * (s + 1)) c, .int .i64 s, .int .i64 1, .int .i64 x, .int .i64 y, .int .i64 face] w fun e w' => e = .returned (.int .i64 (if moreB T x y face then 1 else 0)) ∧ Below w.heap.size w w' := by
  have h1 := hT.at_ (x := x + face) (y := y) hx (by omega)
  have h2 := hT.at_ (x := x) (y := y + face) (by omega) hy
  have hgl := RowJ.lt hT
  have hb1 := hb (x + face) y
  have hb2 := hb x (y + face)
  obtain ⟨hg1, hg2⟩ := hG
  obtain ⟨p, hp⟩ : ∃ p, p = T (x + face) y := ⟨_, rfl⟩
  obtain ⟨q, hq⟩ : ∃ q, q = T x (y + face) := ⟨_, rfl⟩
  rw [← hp] at h1 hb1 hg1
  rw [← hq] at h2 hb2 hg2
  obtain ⟨n, hn⟩ : ∃ n, n = (s + 1) * (s + 1) := ⟨_, rfl⟩
  have hl : moreB T x y face = decide (p.1 * q.2 < q.1 * p.2) := by unfold moreB behP; rw [hp, hq]; rfl
  rw [hl]
  have HML := Lib.hid (fun W => meLess_any p.1 p.2 q.1 q.2 W hb1.1 hb1.2 hb2.1 hb2.2 hg1 hg2)
  obtain ⟨V, hV⟩ : ∃ V, V = decide (p.1 * q.2 < q.1 * p.2) := ⟨_, rfl⟩
  rw [← hV] at HML ⊢
  obtain ⟨R, hR⟩ : ∃ R : Int, R = if V = true then 1 else 0 := ⟨_, rfl⟩
  rw [← hR]
  have HR := Lib.hid hR
  have wx : IntKind.i64.wrap ((x : Int) + (face : Int)) = ((x + face : Nat) : Int) := by rw [IntWalk.i64_in _ (by omega)]; omega
  have wy : IntKind.i64.wrap ((y : Int) + (face : Int)) = ((y + face : Nat) : Int) := by rw [IntWalk.i64_in _ (by omega)]; omega
  have ws : IntKind.i64.wrap ((s : Int) + 1) = ((s + 1 : Nat) : Int) := by rw [IntWalk.i64_in _ (by omega)]; omega
  obtain ⟨X, hX⟩ : ∃ X, X = x + face := ⟨_, rfl⟩
  obtain ⟨Y, hY⟩ : ∃ Y, Y = y + face := ⟨_, rfl⟩
  obtain ⟨S, hS⟩ : ∃ S, S = s + 1 := ⟨_, rfl⟩
  rw [← hn, ← hS, ← hX] at h1
  rw [← hn, ← hS, ← hY] at h2
  rw [← hX] at wx hx
  rw [← hY] at wy hy
  rw [← hS] at ws hn
  rw [show (s + 1) * (s + 1) = n by rw [hn, hS]]
  have hSl : S ≤ 7 := by omega
  have m1 : X * S ≤ 6 * 7 := Nat.mul_le_mul (by omega) hSl
  have m2 : x * S ≤ 6 * 7 := Nat.mul_le_mul (by omega) hSl
  have wp1 : IntKind.i64.wrap ((X : Int) * (S : Int)) = ((X * S : Nat) : Int) := by rw [← Int.natCast_mul]; exact IntWalk.i64_in _ (by omega)
  have wp2 : IntKind.i64.wrap ((x : Int) * (S : Int)) = ((x * S : Nat) : Int) := by rw [← Int.natCast_mul]; exact IntWalk.i64_in _ (by omega)
  obtain ⟨P1, hP1⟩ : ∃ P1, P1 = X * S := ⟨_, rfl⟩
  obtain ⟨P2, hP2⟩ : ∃ P2, P2 = x * S := ⟨_, rfl⟩
  rw [← hP1] at wp1 h1 m1
  rw [← hP2] at wp2 h2 m2
  have wi1 : IntKind.i64.wrap ((P1 : Int) + (y : Int)) = ((P1 + y : Nat) : Int) := by rw [IntWalk.i64_in _ (by omega)]; omega
  have wi2 : IntKind.i64.wrap ((P2 : Int) + (y : Int)) = ((P2 + y : Nat) : Int) := by rw [IntWalk.i64_in _ (by omega)]; omega
  obtain ⟨I1, hI1⟩ : ∃ I1, I1 = P1 + y := ⟨_, rfl⟩
  obtain ⟨J2, hJ2⟩ : ∃ J2, J2 = P2 + y := ⟨_, rfl⟩
  obtain ⟨I2, hI2⟩ : ∃ I2, I2 = P2 + Y := ⟨_, rfl⟩
  rw [← hI1] at wi1 h1
  rw [← hJ2] at wi2
  rw [← hI2] at h2
  have wi3 : IntKind.i64.wrap ((J2 : Int) + (face : Int)) = (I2 : Int) := by rw [IntWalk.i64_in _ (by omega)]; omega
  obtain ⟨h1a, c1, c2⟩ := h1
  obtain ⟨h2a, c3, c4⟩ := h2
  have b1 : (I1 : Int) < (n : Int) := by omega
  have b2 : (I2 : Int) < (n : Int) := by omega
  clear hn hX hY hS hP1 hP2 hI1 hJ2 hI2 hR hT hb hp hq hl hV hg1 hg2 hb1 hb2
  go_enter Try.func51, Try.ntmps51
  go_wp2_with fail
  go_region
  all_goals
    go_wp2_with fail
    refine (HML.out _).mono ?_
    rintro e w2 ⟨rfl, hx2⟩
    have hB : Below w.heap.size w w2 := (below2 _ _ _).drew.trans (hx2.mono (by simp; omega))
    cases V
    · have hv : R = 0 := by rw [HR.out]; rfl
      subst hv
      clear HR HML
      go_wp2_with fail
      go_ret
      exact ⟨rfl, hB⟩
    · have hv : R = 1 := by rw [HR.out]; rfl
      subst hv
      clear HR HML
      go_wp2_with fail
      go_ret
      exact ⟨rfl, hB⟩

theorem best_ruleS (s : Nat) (hs : s ≤ 6) : RuleS 0 s chShort gS := by
  intro gt x y face c T W hT hx hy h1 hf hb hG
  by_cases h : x + face ≤ s ∧ y + face ≤ s
  · refine (oiWho_best s x y face gt c T W hT hs hf h.1 h.2 (hG h.1 h.2) hb).mono fun e w' h' => ⟨?_, h'.2⟩
    rw [h'.1]
    unfold movP chShort
    rw [if_pos h.1, if_pos h.2]
    cases lessB T x y face <;> simp [whoI]
  · exact oiWho_none s x y face 0 _ _ c chShort T W hs hx hy hf h
theorem worst_ruleS (s : Nat) (hs : s ≤ 6) : RuleS 1 s chWorst gS := by
  intro gt x y face c T W hT hx hy h1 hf hb hG
  by_cases h : x + face ≤ s ∧ y + face ≤ s
  · refine (oiWho_worst s x y face gt c T W hT hs hf h.1 h.2 (hG h.1 h.2) hb).mono fun e w' h' => ⟨?_, h'.2⟩
    rw [h'.1]
    unfold movP chWorst
    rw [if_pos h.1, if_pos h.2]
    cases moreB T x y face <;> simp [whoI]
  · exact oiWho_none s x y face 1 _ _ c chWorst T W hs hx hy hf h
end Go.Proofs.Ytmiefdjbhcpnbaa

namespace Go.Proofs.Ytmiefdjbhcpnbaa

def shB (T : Tab) (x y face : Nat) : Bool := match cmpP (T x (y + face)) (T (x + face) y) with
  | some c => decide (c < 0) == decide ((T x (y + face)).1 * (T (x + face) y).2 < (T (x + face) y).1 * (T x (y + face)).2)
  | none => false
def shRow (s f : Nat) (T : Tab) (x : Nat) : Bool := (List.range (s + 1)).all fun y => (List.range f).all fun k => if x + (k + 1) ≤ s ∧ y + (k + 1) ≤ s then shB T x y (k + 1) else true
def shAll (s f : Nat) (l : Bool) : Bool := (List.range (s + 1)).all fun x => shRow s f (rowsTab s (bestTab l s f)) x
theorem sh_true_1_1 : shAll 1 1 true = true := by decide +kernel
theorem sh_true_1_2 : shAll 1 2 true = true := by decide +kernel
theorem sh_true_1_3 : shAll 1 3 true = true := by decide +kernel
theorem sh_true_1_4 : shAll 1 4 true = true := by decide +kernel
theorem sh_true_2_1 : shAll 2 1 true = true := by decide +kernel
theorem sh_true_2_2 : shAll 2 2 true = true := by decide +kernel
theorem sh_true_2_3 : shAll 2 3 true = true := by decide +kernel
theorem sh_true_2_4 : shAll 2 4 true = true := by decide +kernel
theorem sh_true_3_1 : shAll 3 1 true = true := by decide +kernel
theorem sh_true_3_2 : shAll 3 2 true = true := by decide +kernel
theorem sh_true_3_3 : shAll 3 3 true = true := by decide +kernel
theorem sh_true_3_4 : shAll 3 4 true = true := by decide +kernel
theorem sh_true_4_1 : shAll 4 1 true = true := by decide +kernel
theorem sh_true_4_2 : shAll 4 2 true = true := by decide +kernel
theorem sh_true_4_3 : shAll 4 3 true = true := by decide +kernel
theorem sh_true_4_4 : shAll 4 4 true = true := by decide +kernel
theorem sh_true_5_1 : shAll 5 1 true = true := by decide +kernel
theorem sh_true_5_2 : shAll 5 2 true = true := by decide +kernel
theorem sh_true_5_3 : shAll 5 3 true = true := by decide +kernel
theorem sh_true_5_4 : shAll 5 4 true = true := by decide +kernel
theorem sh_true_6_1 : shAll 6 1 true = true := by decide +kernel
theorem sh_true_6_2 : shAll 6 2 true = true := by decide +kernel
theorem sh_true_6_3 : shAll 6 3 true = true := by decide +kernel
theorem sh_true_6_4 : shAll 6 4 true = true := by decide +kernel
theorem sh_false_1_1 : shAll 1 1 false = true := by decide +kernel
theorem sh_false_1_2 : shAll 1 2 false = true := by decide +kernel
theorem sh_false_1_3 : shAll 1 3 false = true := by decide +kernel
theorem sh_false_1_4 : shAll 1 4 false = true := by decide +kernel
theorem sh_false_2_1 : shAll 2 1 false = true := by decide +kernel
theorem sh_false_2_2 : shAll 2 2 false = true := by decide +kernel
theorem sh_false_2_3 : shAll 2 3 false = true := by decide +kernel
theorem sh_false_2_4 : shAll 2 4 false = true := by decide +kernel
theorem sh_false_3_1 : shAll 3 1 false = true := by decide +kernel
theorem sh_false_3_2 : shAll 3 2 false = true := by decide +kernel
theorem sh_false_3_3 : shAll 3 3 false = true := by decide +kernel
theorem sh_false_3_4 : shAll 3 4 false = true := by decide +kernel
theorem sh_false_4_1 : shAll 4 1 false = true := by decide +kernel
theorem sh_false_4_2 : shAll 4 2 false = true := by decide +kernel
theorem sh_false_4_3 : shAll 4 3 false = true := by decide +kernel
theorem sh_false_4_4 : shAll 4 4 false = true := by decide +kernel
theorem sh_false_5_1 : shAll 5 1 false = true := by decide +kernel
theorem sh_false_5_2 : shAll 5 2 false = true := by decide +kernel
theorem sh_false_5_3 : shAll 5 3 false = true := by decide +kernel
theorem sh_false_5_4 : shAll 5 4 false = true := by decide +kernel
theorem sh_false_6_1 : shAll 6 1 false = true := by decide +kernel
theorem sh_false_6_2 : shAll 6 2 false = true := by decide +kernel
theorem sh_false_6_3 : shAll 6 3 false = true := by decide +kernel
theorem sh_false_6_4 : shAll 6 4 false = true := by decide +kernel
theorem sh_all (l : Bool) (s f : Nat) (hs1 : 1 ≤ s) (hs : s ≤ 6) (hf1 : 1 ≤ f) (hf : f ≤ 4) : shAll s f l = true := by
  rcases (show s = 1 ∨ s = 2 ∨ s = 3 ∨ s = 4 ∨ s = 5 ∨ s = 6 by omega) with rfl | rfl | rfl | rfl | rfl | rfl <;> rcases (show f = 1 ∨ f = 2 ∨ f = 3 ∨ f = 4 by omega) with rfl | rfl | rfl | rfl <;> cases l
  · exact sh_false_1_1
  · exact sh_true_1_1
  · exact sh_false_1_2
  · exact sh_true_1_2
  · exact sh_false_1_3
  · exact sh_true_1_3
  · exact sh_false_1_4
  · exact sh_true_1_4
  · exact sh_false_2_1
  · exact sh_true_2_1
  · exact sh_false_2_2
  · exact sh_true_2_2
  · exact sh_false_2_3
  · exact sh_true_2_3
  · exact sh_false_2_4
  · exact sh_true_2_4
  · exact sh_false_3_1
  · exact sh_true_3_1
  · exact sh_false_3_2
  · exact sh_true_3_2
  · exact sh_false_3_3
  · exact sh_true_3_3
  · exact sh_false_3_4
  · exact sh_true_3_4
  · exact sh_false_4_1
  · exact sh_true_4_1
  · exact sh_false_4_2
  · exact sh_true_4_2
  · exact sh_false_4_3
  · exact sh_true_4_3
  · exact sh_false_4_4
  · exact sh_true_4_4
  · exact sh_false_5_1
  · exact sh_true_5_1
  · exact sh_false_5_2
  · exact sh_true_5_2
  · exact sh_false_5_3
  · exact sh_true_5_3
  · exact sh_false_5_4
  · exact sh_true_5_4
  · exact sh_false_6_1
  · exact sh_true_6_1
  · exact sh_false_6_2
  · exact sh_true_6_2
  · exact sh_false_6_3
  · exact sh_true_6_3
  · exact sh_false_6_4
  · exact sh_true_6_4
theorem shB_at {s f : Nat} {l : Bool} (h : shAll s f l = true) {x y face : Nat} (h1 : 1 ≤ face) (h2 : face ≤ f) (hx : x + face ≤ s) (hy : y + face ≤ s) : shB (rowsTab s (bestTab l s f)) x y face = true := by
  have a1 := List.all_eq_true.1 h x (by simp; omega)
  have a2 := List.all_eq_true.1 a1 y (by simp; omega)
  have a3 := List.all_eq_true.1 a2 (face - 1) (by simp; omega)
  rw [show face - 1 + 1 = face by omega, if_pos ⟨hx, hy⟩] at a3
  exact a3
end Go.Proofs.Ytmiefdjbhcpnbaa

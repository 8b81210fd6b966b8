/-
  Dice: CountSome, CountGreatest on both sides.
-/
import Derived.Test.YtblpfjjnlfjloacC6t
import Derived.Test.YtblpfjjnlfjloacC6j
namespace Go.Proofs.Ytblpfjjnlfjloac
open Go.RowKit

theorem some_math (d f a : Nat) (h1 : 1 ≤ a) (h2 : a ≤ f) : W d f (fun t => is (decide (0 < t.count a))) + (f - 1) ^ d = f ^ d := by
  obtain ⟨b, rfl⟩ : ∃ b, a = b + 1 := ⟨a - 1, by omega⟩
  rw [← W_some d f b h2]
  congr 1
  exact W_same _ _ _ _ fun t _ => by congr 1; rw [Bool.eq_iff_iff]; simp
theorem greatest_math (d f a : Nat) (hd : 1 ≤ d) (h1 : 1 ≤ a) (h2 : a ≤ f) : W d f (fun t => is (gt t 0 == a)) + (a - 1) ^ d = a ^ d := by
  obtain ⟨b, rfl⟩ : ∃ b, a = b + 1 := ⟨a - 1, by omega⟩
  obtain ⟨e, rfl⟩ : ∃ e, d = e + 1 := ⟨d - 1, by omega⟩
  rw [← W_greatest e f b h2]
  congr 1
  exact W_same _ _ _ _ fun t _ => by congr 2; unfold gt; cases t <;> rfl
theorem faceB_in (f a : Int) : faceB f a = inB a 1 f := by rw [Bool.eq_iff_iff, faceB_iff, inB_iff]

set_option maxRecDepth 100000 in
theorem specCountSome_yes (d f a : Nat) (w : World) (hd1 : 1 ≤ d) (hd : d ≤ 8) (hf1 : 1 ≤ f) (hf : f ≤ 12) (ha1 : 1 ≤ a) (ha : a ≤ f) (N : Nat) (hN : N + (f - 1) ^ d = f ^ d) :
    Calls Try.prog 9 #[.int .i64 d, .int .i64 f, .int .i64 a] w fun e w' => e = .returned (.tuple #[.int .i64 N, .bool true]) ∧ Below w.heap.size w w' := by
  have hc : cupB (d : Int) (f : Int) = true := cupB_iff.2 (by omega)
  have hb : inB (a : Int) 1 (f : Int) = true := inB_iff.2 (by omega)
  have hp1 := fun w => diPower_any (f) d w (by omega) hd
  have hp2 := fun w => diPower_any (f - 1) d w (by omega) hd
  have hs := pow_small12 (show f ≤ 12 by omega) hd
  have hm : ((f : Nat) : Int) - 1 = ((f - 1 : Nat) : Int) := by omega
  obtain ⟨P, hP⟩ : ∃ P, P = f ^ d := ⟨_, rfl⟩
  obtain ⟨Q, hQ⟩ : ∃ Q, Q = (f - 1) ^ d := ⟨_, rfl⟩
  rw [← hP] at hp1 hN hs
  rw [← hQ] at hp2 hN
  have hPQ : (P : Int) - (Q : Int) = (N : Int) := by omega
  have hN9 : N ≤ 429981696 := by omega
  have HC := Lib.hid hc; have HB := Lib.hid hb; have HP1 := Lib.hid hp1; have HP2 := Lib.hid hp2
  clear hc hb hp1 hp2 hP hQ hN
  go_enter Try.func9, Try.ntmps9
  go_wp2_with fail
  refine (diAsked_any _ _ _).mono ?_
  rintro e w1 ⟨rfl, rfl⟩
  rw [HC.out]
  go_wp2_with fail
  refine (l1In_d _ _ _ _).mono ?_
  rintro e w1 ⟨rfl, rfl⟩
  rw [HB.out]
  go_wp2_with fail
  refine (HP1.out _).mono ?_
  rintro e w1 ⟨rfl, rfl⟩
  go_wp2_with fail
  refine (HP2.out _).mono ?_
  rintro e w1 ⟨rfl, rfl⟩
  go_wp2
  go_ret2
  exact ⟨rfl, Below.refl _ _⟩
set_option maxRecDepth 100000 in
theorem specCountSome_no (d f a : Int) (w : World) (h : cupB d f = false ∨ faceB f a = false) :
    Calls Try.prog 9 #[.int .i64 d, .int .i64 f, .int .i64 a] w fun e w' => e = .returned (.tuple #[.int .i64 0, .bool false]) ∧ Below w.heap.size w w' := by
  cases hc : cupB d f
  · have HC := Lib.hid hc
    clear hc h
    go_enter Try.func9, Try.ntmps9
    go_wp2_with fail
    refine (diAsked_any _ _ _).mono ?_
    rintro e w1 ⟨rfl, rfl⟩
    rw [HC.out]
    go_wp2
    go_ret2
    exact ⟨rfl, Below.refl _ _⟩
  · have hb : inB a 1 f = false := by
      rw [← faceB_in]
      rcases h with h | h
      · rw [hc] at h; cases h
      · exact h
    have HC := Lib.hid hc; have HB := Lib.hid hb
    clear hc hb h
    go_enter Try.func9, Try.ntmps9
    go_wp2_with fail
    refine (diAsked_any _ _ _).mono ?_
    rintro e w1 ⟨rfl, rfl⟩
    rw [HC.out]
    go_wp2_with fail
    refine (l1In_d _ _ _ _).mono ?_
    rintro e w1 ⟨rfl, rfl⟩
    rw [HB.out]
    go_wp2
    go_ret2
    exact ⟨rfl, Below.refl _ _⟩
theorem countSome_both (d f a : Int) : ∃ (x : Int) (ok : Bool),
    (∀ w, Calls Try.prog 9 #[.int .i64 d, .int .i64 f, .int .i64 a] w fun e w' => e = .returned (.tuple #[.int .i64 x, .bool ok]) ∧ Below w.heap.size w w') ∧
    (∀ w, Calls Try.prog 10 #[.int .i64 d, .int .i64 f, .int .i64 a] w fun e w' => e = .returned (.tuple #[.int .i64 x, .bool ok]) ∧ Below w.heap.size w w') := by
  by_cases h : cupB d f = true ∧ faceB f a = true
  · obtain ⟨hc, hs⟩ := h
    obtain ⟨m, n, rfl, rfl, h1, h2, h3, h4⟩ := cupB_nat hc
    have h5 := faceB_iff.1 hs
    obtain ⟨q, rfl⟩ : ∃ q : Nat, a = q := ⟨a.toNat, by omega⟩
    exact ⟨_, _, fun w => specCountSome_yes m n q w h1 h2 h3 h4 (by omega) (by omega) _ (some_math m n q (by omega) (by omega)), fun w => implCountSome_yes m n q w h1 h2 h3 h4 (by omega) (by omega)⟩
  · have h' : cupB d f = false ∨ faceB f a = false := by
      cases h1 : cupB d f
      · exact .inl rfl
      · cases h2 : faceB f a
        · exact .inr rfl
        · exact absurd ⟨h1, h2⟩ h
    exact ⟨0, false, fun w => specCountSome_no d f a w h', fun w => implCountSome_no d f a w h'⟩

set_option maxRecDepth 100000 in
theorem specCountGreatest_yes (d f a : Nat) (w : World) (hd1 : 1 ≤ d) (hd : d ≤ 8) (hf1 : 1 ≤ f) (hf : f ≤ 12) (ha1 : 1 ≤ a) (ha : a ≤ f) (N : Nat) (hN : N + (a - 1) ^ d = a ^ d) :
    Calls Try.prog 19 #[.int .i64 d, .int .i64 f, .int .i64 a] w fun e w' => e = .returned (.tuple #[.int .i64 N, .bool true]) ∧ Below w.heap.size w w' := by
  have hc : cupB (d : Int) (f : Int) = true := cupB_iff.2 (by omega)
  have hb : inB (a : Int) 1 (f : Int) = true := inB_iff.2 (by omega)
  have hp1 := fun w => diPower_any (a) d w (by omega) hd
  have hp2 := fun w => diPower_any (a - 1) d w (by omega) hd
  have hs := pow_small12 (show a ≤ 12 by omega) hd
  have hm : ((a : Nat) : Int) - 1 = ((a - 1 : Nat) : Int) := by omega
  obtain ⟨P, hP⟩ : ∃ P, P = a ^ d := ⟨_, rfl⟩
  obtain ⟨Q, hQ⟩ : ∃ Q, Q = (a - 1) ^ d := ⟨_, rfl⟩
  rw [← hP] at hp1 hN hs
  rw [← hQ] at hp2 hN
  have hPQ : (P : Int) - (Q : Int) = (N : Int) := by omega
  have hN9 : N ≤ 429981696 := by omega
  have HC := Lib.hid hc; have HB := Lib.hid hb; have HP1 := Lib.hid hp1; have HP2 := Lib.hid hp2
  clear hc hb hp1 hp2 hP hQ hN
  go_enter Try.func19, Try.ntmps19
  go_wp2_with fail
  refine (diAsked_any _ _ _).mono ?_
  rintro e w1 ⟨rfl, rfl⟩
  rw [HC.out]
  go_wp2_with fail
  refine (l1In_d _ _ _ _).mono ?_
  rintro e w1 ⟨rfl, rfl⟩
  rw [HB.out]
  go_wp2_with fail
  refine (HP1.out _).mono ?_
  rintro e w1 ⟨rfl, rfl⟩
  go_wp2_with fail
  refine (HP2.out _).mono ?_
  rintro e w1 ⟨rfl, rfl⟩
  go_wp2
  go_ret2
  exact ⟨rfl, Below.refl _ _⟩
set_option maxRecDepth 100000 in
theorem specCountGreatest_no (d f a : Int) (w : World) (h : cupB d f = false ∨ faceB f a = false) :
    Calls Try.prog 19 #[.int .i64 d, .int .i64 f, .int .i64 a] w fun e w' => e = .returned (.tuple #[.int .i64 0, .bool false]) ∧ Below w.heap.size w w' := by
  cases hc : cupB d f
  · have HC := Lib.hid hc
    clear hc h
    go_enter Try.func19, Try.ntmps19
    go_wp2_with fail
    refine (diAsked_any _ _ _).mono ?_
    rintro e w1 ⟨rfl, rfl⟩
    rw [HC.out]
    go_wp2
    go_ret2
    exact ⟨rfl, Below.refl _ _⟩
  · have hb : inB a 1 f = false := by
      rw [← faceB_in]
      rcases h with h | h
      · rw [hc] at h; cases h
      · exact h
    have HC := Lib.hid hc; have HB := Lib.hid hb
    clear hc hb h
    go_enter Try.func19, Try.ntmps19
    go_wp2_with fail
    refine (diAsked_any _ _ _).mono ?_
    rintro e w1 ⟨rfl, rfl⟩
    rw [HC.out]
    go_wp2_with fail
    refine (l1In_d _ _ _ _).mono ?_
    rintro e w1 ⟨rfl, rfl⟩
    rw [HB.out]
    go_wp2
    go_ret2
    exact ⟨rfl, Below.refl _ _⟩
theorem countGreatest_both (d f a : Int) : ∃ (x : Int) (ok : Bool),
    (∀ w, Calls Try.prog 19 #[.int .i64 d, .int .i64 f, .int .i64 a] w fun e w' => e = .returned (.tuple #[.int .i64 x, .bool ok]) ∧ Below w.heap.size w w') ∧
    (∀ w, Calls Try.prog 20 #[.int .i64 d, .int .i64 f, .int .i64 a] w fun e w' => e = .returned (.tuple #[.int .i64 x, .bool ok]) ∧ Below w.heap.size w w') := by
  by_cases h : cupB d f = true ∧ faceB f a = true
  · obtain ⟨hc, hs⟩ := h
    obtain ⟨m, n, rfl, rfl, h1, h2, h3, h4⟩ := cupB_nat hc
    have h5 := faceB_iff.1 hs
    obtain ⟨q, rfl⟩ : ∃ q : Nat, a = q := ⟨a.toNat, by omega⟩
    exact ⟨_, _, fun w => specCountGreatest_yes m n q w h1 h2 h3 h4 (by omega) (by omega) _ (greatest_math m n q h1 (by omega) (by omega)), fun w => implCountGreatest_yes m n q w h1 h2 h3 h4 (by omega) (by omega)⟩
  · have h' : cupB d f = false ∨ faceB f a = false := by
      cases h1 : cupB d f
      · exact .inl rfl
      · cases h2 : faceB f a
        · exact .inr rfl
        · exact absurd ⟨h1, h2⟩ h
    exact ⟨0, false, fun w => specCountGreatest_no d f a w h', fun w => implCountGreatest_no d f a w h'⟩
end Go.Proofs.Ytblpfjjnlfjloac

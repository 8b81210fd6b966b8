/-
  Texts read: the model's l1Read.
-/
import Derived.Test.YtbblmbibddjedacDoorC1cf
namespace Go.Proofs.YtbblmbibddjedacDoor
open Go.RowKit

/-- Is it a digit? -/
def isDig (x : UInt8) : Bool := decide (48 ≤ x.toNat) && decide (x.toNat ≤ 57)
/-- Digits read behind a number; -1 where one is none. -/
def readGo (a : Int) : List UInt8 → Int
  | [] => a
  | x :: t => if isDig x then readGo (10 * a + (x.toNat - 48)) t else -1
/-- What l1Read gives. -/
def readL (l : List UInt8) : Int := if (1 ≤ l.length ∧ l.length ≤ 6) ∧ ¬ (l.head? = some 48 ∧ 1 < l.length) then readGo 0 l else -1

theorem isDig_iff {x : UInt8} : isDig x = true ↔ 48 ≤ x.toNat ∧ x.toNat ≤ 57 := by simp [isDig]
theorem readGo_lt : ∀ (l : List UInt8) (a : Int), 0 ≤ a → -1 ≤ readGo a l ∧ readGo a l < (a + 1) * 10 ^ l.length
  | [], a, h => by simp [readGo]; omega
  | x :: t, a, h => by
    rw [readGo]
    split
    · rename_i hx
      have hx := isDig_iff.1 hx
      have ih := readGo_lt t (10 * a + (x.toNat - 48)) (by omega)
      refine ⟨ih.1, Int.lt_of_lt_of_le ih.2 ?_⟩
      rw [List.length_cons, Int.pow_succ, Int.mul_comm (10 ^ t.length) 10, ← Int.mul_assoc]
      exact Int.mul_le_mul_of_nonneg_right (by omega) (Int.pow_nonneg (by omega))
    · have : 0 ≤ (a + 1) * 10 ^ (x :: t).length := Int.mul_nonneg (by omega) (Int.pow_nonneg (by omega))
      omega
theorem readL_wf (l : List UInt8) : -1 ≤ readL l ∧ readL l < 1000000 := by
  unfold readL
  split
  · rename_i h
    have := readGo_lt l 0 (by omega)
    refine ⟨this.1, Int.lt_of_lt_of_le this.2 ?_⟩
    have h6 : (10 : Int) ^ l.length ≤ 10 ^ 6 := by
      have : (10 : Nat) ^ l.length ≤ 10 ^ 6 := Nat.pow_le_pow_right (by decide) h.1.2
      exact_mod_cast this
    omega
  · omega

set_option maxRecDepth 100000 in
set_option maxHeartbeats 1000000 in
theorem l1Read_any (s : List UInt8) (w : World) (hl : s.length ≤ 1048576) :
    Calls Tryd.prog 47 #[strV s] w fun e w' => e = .returned (.int .i64 (readL s)) ∧ w = w' := by
  by_cases h6 : 1 ≤ s.length ∧ s.length ≤ 6
  · have hi6 : inB (s.length : Int) 1 6 = true := inB_iff.2 (by omega)
    have h0 : 0 < s.length := h6.1
    obtain ⟨x0, hx0⟩ : ∃ x, s[0]'h0 = x := ⟨_, rfl⟩
    have hix0 : ∀ W, (Instr.index 9 (strV s) (.int .i64 0)).run Tryd.prog W = .ok (.int .u8 ((s[0]'h0).toNat : Int)) W := index_run s 0 h0
    have hz : s.head? = some x0 := by rw [List.head?_eq_getElem?, List.getElem?_eq_getElem h0, hx0]
    rw [hx0] at hix0
    clear hx0
    have hz48 : (x0.toNat : Int) = 48 → x0 = 48 := fun h => UInt8.toNat_inj.1 (by show x0.toNat = 48; omega)
    by_cases hb : (x0.toNat : Int) = 48 ∧ 1 < s.length
    · have hR : readL s = -1 := by unfold readL; rw [if_neg (fun h => h.2 ⟨by rw [hz, hz48 hb.1], hb.2⟩)]
      have h1 : ((x0.toNat : Int) == 48) = true := by simpa using hb.1
      have h2 : (1 : Int) < s.length := by omega
      clear hz hb hz48
      go_enter Tryd.func47, Tryd.ntmps47
      go_wp2_with (go_at_call 38; refine (l1In_any _ _ _ _).mono ?_; rintro e w1 ⟨rfl, rfl⟩; rw [hi6])
      go_ret
      exact ⟨by rw [hR]; rfl, rfl⟩
    · have hR : readL s = readGo 0 s := by unfold readL; rw [if_pos ⟨h6, fun h => hb ⟨by rw [hz] at h; rw [Option.some.inj h.1]; rfl, h.2⟩⟩]
      have HR := Lib.hid hR; clear hR
      have hcase : (((x0.toNat : Int) == 48) = true ∧ ¬ (1 : Int) < s.length) ∨ ((x0.toNat : Int) == 48) = false := by
        cases hc : ((x0.toNat : Int) == 48)
        · exact .inr rfl
        · exact .inl ⟨rfl, fun h2 => hb ⟨by simpa using hc, by omega⟩⟩
      clear hz48 hz hb
      have H6 := Lib.hid h6; clear h6
      rcases hcase with ⟨h1, h2⟩ | h1
      all_goals
        go_enter Tryd.func47, Tryd.ntmps47
        go_wp2_with (go_at_call 38; refine (l1In_any _ _ _ _).mono ?_; rintro e w1 ⟨rfl, rfl⟩; rw [hi6])
        have HH := Lib.hid (And.intro h1 hix0); clear h1 hix0
        try clear h2
        go_loopw [3, 4] (fun n i wr => ∃ (k : Nat) (a : Int), k ≤ s.length ∧ i = .int .i64 k ∧ n = .int .i64 a ∧ wr = w ∧ (0 ≤ a ∧ a < 10 ^ k) ∧ readGo 0 s = readGo a (s.drop k)) (fun _ i _ => s.length - (intOf i).toNat)
        case atStart => exact ⟨0, 0, Nat.zero_le _, rfl, rfl, rfl, by simp, rfl⟩
        case round =>
          obtain ⟨k, a, hk, rfl, rfl, rfl, ha, hd⟩ := hrel
          have Hd := Lib.hid hd; clear hd
          by_cases hlt : k < s.length
          · have hlt' : (k : Int) < (s.length : Int) := by omega
            have hix := index_run s k hlt
            obtain ⟨x, hx⟩ : ∃ x, s[k]'hlt = x := ⟨_, rfl⟩
            have hdr : s.drop k = x :: s.drop (k + 1) := by rw [← hx]; exact List.drop_eq_getElem_cons hlt
            rw [hx] at hix
            have HD := Lib.hid hdr; clear hdr hx
            have hk5 : (10 : Int) ^ k ≤ 10 ^ 5 := by
              have : (10 : Nat) ^ k ≤ 10 ^ 5 := Nat.pow_le_pow_right (by decide) (by have := H6.out; omega)
              exact_mod_cast this
            have hpow : (10 : Int) ^ (k + 1) = 10 ^ k * 10 := Int.pow_succ ..
            have hx255 : x.toNat < 256 := x.toNat_lt
            by_cases hdg : 48 ≤ x.toNat ∧ x.toNat ≤ 57
            · have h1 : ¬ (x.toNat : Int) < 48 := by omega
              have h2 : ¬ (57 : Int) < (x.toNat : Int) := by omega
              have hw1 : IntKind.i64.wrap (10 * a) = 10 * a := IntWalk.i64_in _ (by omega)
              have hw2 : IntKind.u8.wrap ((x.toNat : Int) - 48) = (x.toNat : Int) - 48 := by rw [IntKind.wrap_u8]; omega
              have hw3 : IntKind.i64.wrap ((x.toNat : Int) - 48) = (x.toNat : Int) - 48 := IntWalk.i64_in _ (by omega)
              have hw4 : IntKind.i64.wrap (10 * a + ((x.toNat : Int) - 48)) = 10 * a + ((x.toNat : Int) - 48) := IntWalk.i64_in _ (by omega)
              have HB := Lib.hid (show 0 ≤ 10 * a + ((x.toNat : Int) - 48) ∧ 10 * a + ((x.toNat : Int) - 48) < 10 ^ (k + 1) by omega)
              clear hk5 hpow hx255
              go_wp2_with fail
              exact ⟨⟨k + 1, _, by omega, rfl, rfl, trivial, HB.out, by rw [Hd.out, HD.out, readGo, if_pos (isDig_iff.2 hdg)]⟩, by simp [intOf]; omega⟩
            · have hN : readL s = -1 := by rw [HR.out, Hd.out, HD.out, readGo, if_neg (fun h => hdg (isDig_iff.1 h))]
              clear hk5 hpow
              by_cases h1 : (x.toNat : Int) < 48
              · clear hdg
                go_wp2_with fail
                go_ret
                exact ⟨by first | rfl | (rw [hN]; rfl), rfl⟩
              · have h2 : (57 : Int) < (x.toNat : Int) := by omega
                clear hdg
                go_wp2_with fail
                go_ret
                exact ⟨by first | rfl | (rw [hN]; rfl), rfl⟩
          · have hlt' : ¬ (k : Int) < (s.length : Int) := by omega
            obtain rfl : k = s.length := by omega
            go_wp2_with fail
            go_ret
            exact ⟨by rw [HR.out, Hd.out, List.drop_of_length_le (Nat.le_refl _)]; rfl, rfl⟩
  · have hi6 : inB (s.length : Int) 1 6 = false := by rw [← Bool.not_eq_true, inB_iff]; omega
    have hR : readL s = -1 := by unfold readL; rw [if_neg (fun h => h6 h.1)]
    go_enter Tryd.func47, Tryd.ntmps47
    go_wp2_with (go_at_call 38; refine (l1In_any _ _ _ _).mono ?_; rintro e w1 ⟨rfl, rfl⟩; rw [hi6])
    go_ret
    exact ⟨by rw [hR]; rfl, rfl⟩
end Go.Proofs.YtbblmbibddjedacDoor

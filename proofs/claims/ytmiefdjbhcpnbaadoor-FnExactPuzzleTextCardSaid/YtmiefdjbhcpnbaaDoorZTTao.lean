/- Several texts, one behind the other: C9a C9b. -/
import Derived.Test.YtmiefdjbhcpnbaaDoorChecked
import Derived.KernelRfl
import Derived.Defers
import Derived.Recover
import Derived.WalkLawsBesides
import Derived.RegionTactic
import Derived.Deep.CutRange
import Derived.Test.YtmiefdjbhcpnbaaDoorZTTac
import Derived.Test.YtmiefdjbhcpnbaaDoorZTTan

namespace Go.Proofs.YtmiefdjbhcpnbaaDoor

/-- Sizes of hidden boards. -/
def szB (q f : Int) : Bool := inB q 1 10 && inB f 1 8
/-- The kinds of clues, as a chain of tests. -/
def clB (q f k a b c : Int) : Bool :=
  if k = 0 then decide (a = 0) && decide (b = 0) && inB c 0 2
  else if k = 1 then inB a 0 q && inB b 1 f && inB c 0 q
  else if k = 2 then decide (a = 0) && decide (b = 0) && inB c 0 10
  else if k = 3 then decide (a = 0) && decide (b = 0) && inB c 0 10
  else if k = 4 then inB a 0 q && decide (b = 0) && inB c 0 1
  else if k = 5 then inB a 0 20 && inB b 1 f && inB c 0 q
  else false
/-- The least and the greatest numbers of a kind: of A, B and C. -/
def leB (k : Int) : Int := if k = 1 ∨ k = 5 then 1 else 0
def moA (q k : Int) : Int := if k = 1 ∨ k = 4 then q else if k = 5 then 20 else 0
def moB (f k : Int) : Int := if k = 1 ∨ k = 5 then f else 0
def moC (q k : Int) : Int := if k = 0 then 2 else if k = 1 ∨ k = 5 then q else if k = 4 then 1 else 10
theorem inB_zero (a : Int) : inB a 0 0 = decide (a = 0) := by
  rw [Bool.eq_iff_iff, inB_iff, decide_eq_true_eq]; omega
theorem clB_eq {q f k a b c : Int} (h0 : 0 ≤ k) (h5 : k ≤ 5) : clB q f k a b c = (inB a 0 (moA q k) && inB b (leB k) (moB f k) && inB c 0 (moC q k)) := by
  rcases (show k = 0 ∨ k = 1 ∨ k = 2 ∨ k = 3 ∨ k = 4 ∨ k = 5 by omega) with rfl | rfl | rfl | rfl | rfl | rfl <;> simp [clB, moA, moB, moC, leB, inB_zero]
theorem clB_out {q f k a b c : Int} (h : k < 0 ∨ 5 < k) : clB q f k a b c = false := by
  unfold clB
  rw [if_neg (by omega), if_neg (by omega), if_neg (by omega), if_neg (by omega), if_neg (by omega), if_neg (by omega)]
theorem clB_1 {q f a b c : Int} (h : clB q f 1 a b c = true) : (0 ≤ a ∧ a ≤ q) ∧ (1 ≤ b ∧ b ≤ f) := by
  have e : (inB a 0 q && inB b 1 f && inB c 0 q) = true := by simpa [clB] using h
  rw [Bool.and_eq_true, Bool.and_eq_true, inB_iff, inB_iff] at e
  exact e.1
theorem clB_4 {q f a b c : Int} (h : clB q f 4 a b c = true) : 0 ≤ a ∧ a ≤ q := by
  have e : (inB a 0 q && decide (b = 0) && inB c 0 1) = true := by simpa [clB] using h
  rw [Bool.and_eq_true, Bool.and_eq_true, inB_iff] at e
  exact e.1.1
theorem clB_5 {q f a b c : Int} (h : clB q f 5 a b c = true) : (0 ≤ a ∧ a ≤ 20) ∧ (1 ≤ b ∧ b ≤ f) := by
  have e : (inB a 0 20 && inB b 1 f && inB c 0 q) = true := by simpa [clB] using h
  rw [Bool.and_eq_true, Bool.and_eq_true, inB_iff, inB_iff] at e
  exact e.1
theorem clB_k {q f k a b c : Int} (h : clB q f k a b c = true) : 0 ≤ k ∧ k ≤ 5 := by
  rcases Classical.em (0 ≤ k ∧ k ≤ 5) with h1 | h1
  · exact h1
  · rw [clB_out (by omega)] at h; cases h
abbrev Cl := Int × Int × Int × Int
def clQ (q f : Int) (c : Cl) : Bool := clB q f c.1 c.2.1 c.2.2.1 c.2.2.2
/-- A puzzle. -/
def pzB (q f : Int) (L : List Cl) : Bool := szB q f && decide (L.length ≤ 6) && L.all (clQ q f)
theorem pzB_parts {q f : Int} {L : List Cl} (h : pzB q f L = true) : (1 ≤ q ∧ q ≤ 10) ∧ (1 ≤ f ∧ f ≤ 8) ∧ L.length ≤ 6 ∧ ∀ k (hk : k < L.length), clQ q f L[k] = true := by
  rw [pzB, szB, Bool.and_eq_true, Bool.and_eq_true, Bool.and_eq_true, inB_iff, inB_iff, decide_eq_true_eq, List.all_eq_true] at h
  exact ⟨h.1.1.1, h.1.1.2, h.1.2, fun k hk => h.2 _ (List.getElem_mem hk)⟩
end Go.Proofs.YtmiefdjbhcpnbaaDoor

namespace Go.Proofs.YtmiefdjbhcpnbaaDoor
open Go.RowKit

theorem l1In9_any (n lo hi : Int) (w : World) : Calls Tryd.prog 52 #[.int .i64 n, .int .i64 lo, .int .i64 hi] w fun e w' => e = .returned (.bool (inB n lo hi)) ∧ w = w' := by
  go_enter Tryd.func52, Tryd.ntmps52
  by_cases h : lo ≤ n
  · have h1 : decide (lo ≤ n) = true := by simpa using h
    go_wp2
    go_ret
    exact ⟨ret_bool (by simp [inB, h1]), rfl⟩
  · have h1 : decide (lo ≤ n) = false := by simpa using h
    go_wp2
    go_ret
    exact ⟨ret_bool (by simp [inB, h1]), rfl⟩
theorem pzSize_any (q f : Int) (w : World) : Calls Tryd.prog 66 #[.int .i64 q, .int .i64 f] w fun e w' => e = .returned (.bool (szB q f)) ∧ w = w' := by
  cases h : inB q 1 10
  all_goals
    go_enter Tryd.func66, Tryd.ntmps66
    go_wp2_with (go_at_call 52; refine (l1In9_any _ _ _ _).mono ?_; rintro e w' ⟨rfl, rfl⟩)
    go_ret
    exact ⟨ret_bool (by rw [szB, h]; rfl), rfl⟩

set_option maxRecDepth 100000 in
theorem pzClue0 (q f a b c : Int) (w : World) : Calls Tryd.prog 67 #[.int .i64 q, .int .i64 f, .agg #[.int .i64 0, .int .i64 a, .int .i64 b, .int .i64 c]] w fun e w' => e = .returned (.bool (clB q f 0 a b c)) ∧ Below w.heap.size w w' := by
  cases h1 : (a == 0)
  · go_enter Tryd.func67, Tryd.ntmps67
    go_wp2_with (go_at_call 52; refine (l1In9_any _ _ _ _).mono ?_; rintro e w' ⟨rfl, rfl⟩)
    go_ret
    exact ⟨ret_bool (by simp [clB, show ¬ a = 0 from beq_eq_false_iff_ne.1 h1]), below1 _ _⟩
  · cases h2 : (b == 0)
    · go_enter Tryd.func67, Tryd.ntmps67
      go_wp2_with (go_at_call 52; refine (l1In9_any _ _ _ _).mono ?_; rintro e w' ⟨rfl, rfl⟩)
      go_ret
      exact ⟨ret_bool (by simp [clB, show a = 0 from beq_iff_eq.1 h1, show ¬ b = 0 from beq_eq_false_iff_ne.1 h2]), below1 _ _⟩
    · go_enter Tryd.func67, Tryd.ntmps67
      go_wp2_with (go_at_call 52; refine (l1In9_any _ _ _ _).mono ?_; rintro e w' ⟨rfl, rfl⟩)
      go_ret
      exact ⟨ret_bool (by simp [clB, show a = 0 from beq_iff_eq.1 h1, show b = 0 from beq_iff_eq.1 h2]), below1 _ _⟩
set_option maxRecDepth 100000 in
theorem pzClue1 (q f a b c : Int) (w : World) : Calls Tryd.prog 67 #[.int .i64 q, .int .i64 f, .agg #[.int .i64 1, .int .i64 a, .int .i64 b, .int .i64 c]] w fun e w' => e = .returned (.bool (clB q f 1 a b c)) ∧ Below w.heap.size w w' := by
  cases h1 : (inB a 0 q)
  · go_enter Tryd.func67, Tryd.ntmps67
    go_wp2_with (go_at_call 52; refine (l1In9_any _ _ _ _).mono ?_; rintro e w' ⟨rfl, rfl⟩)
    go_ret
    exact ⟨ret_bool (by simp [clB, h1]), below1 _ _⟩
  · cases h2 : (inB b 1 f)
    · go_enter Tryd.func67, Tryd.ntmps67
      go_wp2_with (go_at_call 52; refine (l1In9_any _ _ _ _).mono ?_; rintro e w' ⟨rfl, rfl⟩)
      go_ret
      exact ⟨ret_bool (by simp [clB, h1, h2]), below1 _ _⟩
    · go_enter Tryd.func67, Tryd.ntmps67
      go_wp2_with (go_at_call 52; refine (l1In9_any _ _ _ _).mono ?_; rintro e w' ⟨rfl, rfl⟩)
      go_ret
      exact ⟨ret_bool (by simp [clB, h1, h2]), below1 _ _⟩
set_option maxRecDepth 100000 in
theorem pzClue2 (q f a b c : Int) (w : World) : Calls Tryd.prog 67 #[.int .i64 q, .int .i64 f, .agg #[.int .i64 2, .int .i64 a, .int .i64 b, .int .i64 c]] w fun e w' => e = .returned (.bool (clB q f 2 a b c)) ∧ Below w.heap.size w w' := by
  cases h1 : (a == 0)
  · go_enter Tryd.func67, Tryd.ntmps67
    go_wp2_with (go_at_call 52; refine (l1In9_any _ _ _ _).mono ?_; rintro e w' ⟨rfl, rfl⟩)
    go_ret
    exact ⟨ret_bool (by simp [clB, show ¬ a = 0 from beq_eq_false_iff_ne.1 h1]), below1 _ _⟩
  · cases h2 : (b == 0)
    · go_enter Tryd.func67, Tryd.ntmps67
      go_wp2_with (go_at_call 52; refine (l1In9_any _ _ _ _).mono ?_; rintro e w' ⟨rfl, rfl⟩)
      go_ret
      exact ⟨ret_bool (by simp [clB, show a = 0 from beq_iff_eq.1 h1, show ¬ b = 0 from beq_eq_false_iff_ne.1 h2]), below1 _ _⟩
    · go_enter Tryd.func67, Tryd.ntmps67
      go_wp2_with (go_at_call 52; refine (l1In9_any _ _ _ _).mono ?_; rintro e w' ⟨rfl, rfl⟩)
      go_ret
      exact ⟨ret_bool (by simp [clB, show a = 0 from beq_iff_eq.1 h1, show b = 0 from beq_iff_eq.1 h2]), below1 _ _⟩
set_option maxRecDepth 100000 in
theorem pzClue3 (q f a b c : Int) (w : World) : Calls Tryd.prog 67 #[.int .i64 q, .int .i64 f, .agg #[.int .i64 3, .int .i64 a, .int .i64 b, .int .i64 c]] w fun e w' => e = .returned (.bool (clB q f 3 a b c)) ∧ Below w.heap.size w w' := by
  cases h1 : (a == 0)
  · go_enter Tryd.func67, Tryd.ntmps67
    go_wp2_with (go_at_call 52; refine (l1In9_any _ _ _ _).mono ?_; rintro e w' ⟨rfl, rfl⟩)
    go_ret
    exact ⟨ret_bool (by simp [clB, show ¬ a = 0 from beq_eq_false_iff_ne.1 h1]), below1 _ _⟩
  · cases h2 : (b == 0)
    · go_enter Tryd.func67, Tryd.ntmps67
      go_wp2_with (go_at_call 52; refine (l1In9_any _ _ _ _).mono ?_; rintro e w' ⟨rfl, rfl⟩)
      go_ret
      exact ⟨ret_bool (by simp [clB, show a = 0 from beq_iff_eq.1 h1, show ¬ b = 0 from beq_eq_false_iff_ne.1 h2]), below1 _ _⟩
    · go_enter Tryd.func67, Tryd.ntmps67
      go_wp2_with (go_at_call 52; refine (l1In9_any _ _ _ _).mono ?_; rintro e w' ⟨rfl, rfl⟩)
      go_ret
      exact ⟨ret_bool (by simp [clB, show a = 0 from beq_iff_eq.1 h1, show b = 0 from beq_iff_eq.1 h2]), below1 _ _⟩
set_option maxRecDepth 100000 in
theorem pzClue4 (q f a b c : Int) (w : World) : Calls Tryd.prog 67 #[.int .i64 q, .int .i64 f, .agg #[.int .i64 4, .int .i64 a, .int .i64 b, .int .i64 c]] w fun e w' => e = .returned (.bool (clB q f 4 a b c)) ∧ Below w.heap.size w w' := by
  cases h1 : (inB a 0 q)
  · go_enter Tryd.func67, Tryd.ntmps67
    go_wp2_with (go_at_call 52; refine (l1In9_any _ _ _ _).mono ?_; rintro e w' ⟨rfl, rfl⟩)
    go_ret
    exact ⟨ret_bool (by simp [clB, h1]), below1 _ _⟩
  · cases h2 : (b == 0)
    · go_enter Tryd.func67, Tryd.ntmps67
      go_wp2_with (go_at_call 52; refine (l1In9_any _ _ _ _).mono ?_; rintro e w' ⟨rfl, rfl⟩)
      go_ret
      exact ⟨ret_bool (by simp [clB, h1, show ¬ b = 0 from beq_eq_false_iff_ne.1 h2]), below1 _ _⟩
    · go_enter Tryd.func67, Tryd.ntmps67
      go_wp2_with (go_at_call 52; refine (l1In9_any _ _ _ _).mono ?_; rintro e w' ⟨rfl, rfl⟩)
      go_ret
      exact ⟨ret_bool (by simp [clB, h1, show b = 0 from beq_iff_eq.1 h2]), below1 _ _⟩
set_option maxRecDepth 100000 in
theorem pzClue5 (q f a b c : Int) (w : World) : Calls Tryd.prog 67 #[.int .i64 q, .int .i64 f, .agg #[.int .i64 5, .int .i64 a, .int .i64 b, .int .i64 c]] w fun e w' => e = .returned (.bool (clB q f 5 a b c)) ∧ Below w.heap.size w w' := by
  cases h1 : (inB a 0 20)
  · go_enter Tryd.func67, Tryd.ntmps67
    go_wp2_with (go_at_call 52; refine (l1In9_any _ _ _ _).mono ?_; rintro e w' ⟨rfl, rfl⟩)
    go_ret
    exact ⟨ret_bool (by simp [clB, h1]), below1 _ _⟩
  · cases h2 : (inB b 1 f)
    · go_enter Tryd.func67, Tryd.ntmps67
      go_wp2_with (go_at_call 52; refine (l1In9_any _ _ _ _).mono ?_; rintro e w' ⟨rfl, rfl⟩)
      go_ret
      exact ⟨ret_bool (by simp [clB, h1, h2]), below1 _ _⟩
    · go_enter Tryd.func67, Tryd.ntmps67
      go_wp2_with (go_at_call 52; refine (l1In9_any _ _ _ _).mono ?_; rintro e w' ⟨rfl, rfl⟩)
      go_ret
      exact ⟨ret_bool (by simp [clB, h1, h2]), below1 _ _⟩
theorem pzClue_any (q f k a b c : Int) (w : World) : Calls Tryd.prog 67 #[.int .i64 q, .int .i64 f, .agg #[.int .i64 k, .int .i64 a, .int .i64 b, .int .i64 c]] w fun e w' => e = .returned (.bool (clB q f k a b c)) ∧ Below w.heap.size w w' := by
  by_cases h0 : k = 0
  · subst h0; exact pzClue0 q f a b c w
  by_cases h1 : k = 1
  · subst h1; exact pzClue1 q f a b c w
  by_cases h2 : k = 2
  · subst h2; exact pzClue2 q f a b c w
  by_cases h3 : k = 3
  · subst h3; exact pzClue3 q f a b c w
  by_cases h4 : k = 4
  · subst h4; exact pzClue4 q f a b c w
  by_cases h5 : k = 5
  · subst h5; exact pzClue5 q f a b c w
  have g0 : (k == 0) = false := beq_eq_false_iff_ne.2 h0
  have g1 : (k == 1) = false := beq_eq_false_iff_ne.2 h1
  have g2 : (k == 2) = false := beq_eq_false_iff_ne.2 h2
  have g3 : (k == 3) = false := beq_eq_false_iff_ne.2 h3
  have g4 : (k == 4) = false := beq_eq_false_iff_ne.2 h4
  have g5 : (k == 5) = false := beq_eq_false_iff_ne.2 h5
  go_enter Tryd.func67, Tryd.ntmps67
  go_wp2
  go_ret
  exact ⟨ret_bool (by simp [clB, h0, h1, h2, h3, h4, h5]), below1 _ _⟩

set_option maxRecDepth 100000 in
set_option maxHeartbeats 1000000 in
theorem pzGood_any (q f : Int) (A : Option Addr) (cp : Nat) (L : List Qd) (w : World) (hL : RQ w w.heap.size A L) :
    Calls Tryd.prog 40 #[.agg #[.int .i64 q, .int .i64 f, .slice A L.length cp]] w fun e w' => e = .returned (.bool (pzB q f L)) ∧ Below w.heap.size w w' := by
  have hl := hL.1
  have hb0 : Below (w.heap.size + 1) (w.alloc (.cells #[.int .i64 q, .int .i64 f, .slice A L.length cp] 43)) (w.alloc (.cells #[.int .i64 q, .int .i64 f, .slice A L.length cp] 43)) := Below.refl _ _
  have qq := boxcells hb0
  cases hs : szB q f
  · have hr : pzB q f L = false := by rw [pzB, hs]; rfl
    rw [hr]
    have HR := Lib.hid hr
    clear hr
    go_enter Tryd.func40, Tryd.ntmps40
    go_wp2_with (go_at_call 66; refine (pzSize_any _ _ _).mono ?_; rintro e w' ⟨rfl, rfl⟩)
    go_ret
    exact ⟨rfl, below1 _ _⟩
  · by_cases hn : L.length ≤ 6
    · have hn' : ¬ (6 : Int) < (L.length : Int) := by omega
      have hn2 : decide ((6 : Int) < (L.length : Int)) = false := decide_eq_false hn'
      obtain ⟨r, hr⟩ : ∃ r, r = pzB q f L := ⟨_, rfl⟩
      have hr2 : r = L.all (clQ q f) := by rw [hr, pzB, hs, decide_eq_true hn]; rfl
      rw [← hr]
      have HR := Lib.hid hr2
      have HS := Lib.hid hs
      clear hr hr2
      go_enter Tryd.func40, Tryd.ntmps40
      go_wp2_with (go_at_call 66; refine (pzSize_any _ _ _).mono ?_; rintro e w' ⟨rfl, rfl⟩)
      clear qq hs
      go_loopw [20, 4] (fun i _ wr => ∃ k : Nat, k ≤ L.length ∧ i = .int .i64 k ∧ Below (w.heap.size + 1) (w.alloc (.cells #[.int .i64 q, .int .i64 f, .slice A L.length cp] 43)) wr ∧ Hid (r = (L.drop k).all (clQ q f))) (fun i _ _ => L.length - (intOf i).toNat)
      case atStart => exact ⟨0, Nat.zero_le _, rfl, hb0, HR⟩
      case round =>
        clear hb0
        obtain ⟨k, hk, rfl, hB, HK⟩ := hrel
        have hbw : Below w.heap.size w wr := (below1 _ _).trans (hB.mono (by omega))
        have hsz : w.heap.size + 1 ≤ wr.heap.size := by have := hB.size; simpa using this
        by_cases hlt : k < L.length
        · obtain ⟨b, off, rfl, hbb, c0, c1, c2, c3⟩ := hL.at_ hbw hlt
          have hd := drop_step L k hlt
          obtain ⟨d, hd2⟩ : ∃ d, d = L[k] := ⟨_, rfl⟩
          rw [← hd2] at c0 c1 c2 c3 hd
          obtain ⟨k0, a0, b0, d0⟩ := d
          dsimp only at c0 c1 c2 c3
          have HD := Lib.hid hd
          clear hd hd2
          have qq := boxcells hB
          have hlw : w.heap.size < wr.heap.size := by omega
          go_wp2_with fail
          refine (pzClue_any q f k0 a0 b0 d0 _).mono ?_
          rintro e w2 ⟨rfl, hx⟩
          have hB3 := (hB.alloc (by omega) _).trans (hx.mono (by simp; omega))
          cases hcl : clB q f k0 a0 b0 d0
          · have HC := Lib.hid hcl
            go_wp2_with fail
            go_ret
            exact ⟨ret_bool (by rw [HK.out, HD.out, List.all_cons]; show false = (clB q f k0 a0 b0 d0 && _); rw [HC.out]; rfl), (below1 _ _).trans (hB3.mono (by omega))⟩
          · have HC := Lib.hid hcl
            go_wp2_with fail
            go_roundw
            case rel => exact ⟨k + 1, by omega, by go_num, hB3, Lib.hid (by rw [HK.out, HD.out, List.all_cons]; show (clB q f k0 a0 b0 d0 && _) = _; rw [HC.out]; rfl)⟩
            case measure => simp [intOf]; omega
        · obtain rfl : k = L.length := by omega
          go_wp2_with fail
          go_ret
          exact ⟨ret_bool (by rw [HK.out, List.drop_length]; rfl), hbw⟩
    · have hn' : (6 : Int) < (L.length : Int) := by omega
      have hr : pzB q f L = false := by rw [pzB, hs, decide_eq_false hn]; rfl
      rw [hr]
      clear hr
      go_enter Tryd.func40, Tryd.ntmps40
      go_wp2_with (go_at_call 66; refine (pzSize_any _ _ _).mono ?_; rintro e w' ⟨rfl, rfl⟩)
      go_ret
      exact ⟨rfl, below1 _ _⟩
end Go.Proofs.YtmiefdjbhcpnbaaDoor

namespace Go.Proofs.YtmiefdjbhcpnbaaDoor
open Go.RowKit

theorem isWithin9_any (n lo hi : Int) (w : World) : Calls Tryd.prog 87 #[.int .i64 n, .int .i64 lo, .int .i64 hi] w fun e w' => e = .returned (.bool (inB n lo hi)) ∧ w = w' := by
  go_enter Tryd.func87, Tryd.ntmps87
  by_cases h : lo ≤ n
  · have h1 : decide (lo ≤ n) = true := by simpa using h
    go_wp2
    go_ret
    exact ⟨ret_bool (by simp [inB, h1]), rfl⟩
  · have h1 : decide (lo ≤ n) = false := by simpa using h
    go_wp2
    go_ret
    exact ⟨ret_bool (by simp [inB, h1]), rfl⟩
theorem areThere_any (q f : Int) (w : World) : Calls Tryd.prog 83 #[.agg #[.int .i64 q, .int .i64 f]] w fun e w' => e = .returned (.bool (szB q f)) ∧ Below w.heap.size w w' := by
  cases h : inB q 1 10
  all_goals
    go_enter Tryd.func83, Tryd.ntmps83
    go_wp2_with (go_at_call 87; refine (isWithin9_any _ _ _ _).mono ?_; rintro e w' ⟨rfl, rfl⟩)
    go_ret
    exact ⟨ret_bool (by rw [szB, h]; rfl), below1 _ _⟩

def chainQ (k a b c : Int) : List PanicEntry := [{ v := .iface 67 (.agg #[.int .i64 k, .int .i64 a, .int .i64 b, .int .i64 c]), recovered := false }]
/-- What limits hands back. -/
def LimBack (q f k a b c : Int) (w : World) (e : Ending) (w' : World) : Prop :=
  Below w.heap.size w w' ∧ ((0 ≤ k ∧ k ≤ 5 ∧ e = .returned (.tuple #[.agg #[.int .i64 0, .int .i64 0, .int .i64 (leB k), .int .i64 0], .agg #[.int .i64 0, .int .i64 (moA q k), .int .i64 (moB f k), .int .i64 (moC q k)]])) ∨
    ((k < 0 ∨ 5 < k) ∧ e = .panicked (chainQ k a b c)))

set_option maxRecDepth 100000 in
theorem limits_out (q f k a b c : Int) (w : World) (h : k < 0 ∨ 5 < k) : Calls Tryd.prog 121 #[.agg #[.int .i64 q, .int .i64 f], .agg #[.int .i64 k, .int .i64 a, .int .i64 b, .int .i64 c]] w fun e w' => e = .panicked (chainQ k a b c) ∧ Below w.heap.size w w' := by
  have g0 : (k == 0) = false := beq_eq_false_iff_ne.2 (by omega)
  have g1 : (k == 1) = false := beq_eq_false_iff_ne.2 (by omega)
  have g2 : (k == 2) = false := beq_eq_false_iff_ne.2 (by omega)
  have g3 : (k == 3) = false := beq_eq_false_iff_ne.2 (by omega)
  have g4 : (k == 4) = false := beq_eq_false_iff_ne.2 (by omega)
  have g5 : (k == 5) = false := beq_eq_false_iff_ne.2 (by omega)
  go_enter Tryd.func121, Tryd.ntmps121
  go_wp2
  exact ⟨rfl, ⟨rfl, (below3 _ _ _ _).alloc (by simp; omega) _⟩⟩
set_option maxRecDepth 100000 in
set_option maxHeartbeats 1000000 in
theorem limits0 (q f a b c : Int) (w : World) : Calls Tryd.prog 121 #[.agg #[.int .i64 q, .int .i64 f], .agg #[.int .i64 0, .int .i64 a, .int .i64 b, .int .i64 c]] w fun e w' => e = .returned (.tuple #[.agg #[.int .i64 0, .int .i64 0, .int .i64 (leB 0), .int .i64 0], .agg #[.int .i64 0, .int .i64 (moA q 0), .int .i64 (moB f 0), .int .i64 (moC q 0)]]) ∧ Below w.heap.size w w' := by
  go_enter Tryd.func121, Tryd.ntmps121
  go_wp2
  all_goals go_region
  all_goals go_wp2
  all_goals exact bodyPost_ret (v := .tuple #[.agg #[.int .i64 0, .int .i64 0, .int .i64 (leB 0), .int .i64 0], .agg #[.int .i64 0, .int .i64 (moA q 0), .int .i64 (moB f 0), .int .i64 (moC q 0)]]) (by simp [results, Tryd.results121, go_sem, leB, moA, moB, moC]) rfl ⟨rfl, ((below3 _ _ _ _).alloc (by simp; omega) _).drew⟩
set_option maxRecDepth 100000 in
set_option maxHeartbeats 1000000 in
theorem limits1 (q f a b c : Int) (w : World) : Calls Tryd.prog 121 #[.agg #[.int .i64 q, .int .i64 f], .agg #[.int .i64 1, .int .i64 a, .int .i64 b, .int .i64 c]] w fun e w' => e = .returned (.tuple #[.agg #[.int .i64 0, .int .i64 0, .int .i64 (leB 1), .int .i64 0], .agg #[.int .i64 0, .int .i64 (moA q 1), .int .i64 (moB f 1), .int .i64 (moC q 1)]]) ∧ Below w.heap.size w w' := by
  go_enter Tryd.func121, Tryd.ntmps121
  go_wp2
  go_region
  all_goals go_wp2
  all_goals go_region
  all_goals go_wp2
  all_goals exact bodyPost_ret (v := .tuple #[.agg #[.int .i64 0, .int .i64 0, .int .i64 (leB 1), .int .i64 0], .agg #[.int .i64 0, .int .i64 (moA q 1), .int .i64 (moB f 1), .int .i64 (moC q 1)]]) (by simp [results, Tryd.results121, go_sem, leB, moA, moB, moC]) rfl ⟨rfl, ((below3 _ _ _ _).alloc (by simp; omega) _).drew.drew⟩
set_option maxRecDepth 100000 in
set_option maxHeartbeats 1000000 in
theorem limits2 (q f a b c : Int) (w : World) : Calls Tryd.prog 121 #[.agg #[.int .i64 q, .int .i64 f], .agg #[.int .i64 2, .int .i64 a, .int .i64 b, .int .i64 c]] w fun e w' => e = .returned (.tuple #[.agg #[.int .i64 0, .int .i64 0, .int .i64 (leB 2), .int .i64 0], .agg #[.int .i64 0, .int .i64 (moA q 2), .int .i64 (moB f 2), .int .i64 (moC q 2)]]) ∧ Below w.heap.size w w' := by
  go_enter Tryd.func121, Tryd.ntmps121
  go_wp2
  all_goals go_region
  all_goals go_wp2
  all_goals exact bodyPost_ret (v := .tuple #[.agg #[.int .i64 0, .int .i64 0, .int .i64 (leB 2), .int .i64 0], .agg #[.int .i64 0, .int .i64 (moA q 2), .int .i64 (moB f 2), .int .i64 (moC q 2)]]) (by simp [results, Tryd.results121, go_sem, leB, moA, moB, moC]) rfl ⟨rfl, ((below3 _ _ _ _).alloc (by simp; omega) _).drew⟩
set_option maxRecDepth 100000 in
set_option maxHeartbeats 1000000 in
theorem limits3 (q f a b c : Int) (w : World) : Calls Tryd.prog 121 #[.agg #[.int .i64 q, .int .i64 f], .agg #[.int .i64 3, .int .i64 a, .int .i64 b, .int .i64 c]] w fun e w' => e = .returned (.tuple #[.agg #[.int .i64 0, .int .i64 0, .int .i64 (leB 3), .int .i64 0], .agg #[.int .i64 0, .int .i64 (moA q 3), .int .i64 (moB f 3), .int .i64 (moC q 3)]]) ∧ Below w.heap.size w w' := by
  go_enter Tryd.func121, Tryd.ntmps121
  go_wp2
  all_goals go_region
  all_goals go_wp2
  all_goals exact bodyPost_ret (v := .tuple #[.agg #[.int .i64 0, .int .i64 0, .int .i64 (leB 3), .int .i64 0], .agg #[.int .i64 0, .int .i64 (moA q 3), .int .i64 (moB f 3), .int .i64 (moC q 3)]]) (by simp [results, Tryd.results121, go_sem, leB, moA, moB, moC]) rfl ⟨rfl, ((below3 _ _ _ _).alloc (by simp; omega) _).drew⟩
set_option maxRecDepth 100000 in
set_option maxHeartbeats 1000000 in
theorem limits4 (q f a b c : Int) (w : World) : Calls Tryd.prog 121 #[.agg #[.int .i64 q, .int .i64 f], .agg #[.int .i64 4, .int .i64 a, .int .i64 b, .int .i64 c]] w fun e w' => e = .returned (.tuple #[.agg #[.int .i64 0, .int .i64 0, .int .i64 (leB 4), .int .i64 0], .agg #[.int .i64 0, .int .i64 (moA q 4), .int .i64 (moB f 4), .int .i64 (moC q 4)]]) ∧ Below w.heap.size w w' := by
  go_enter Tryd.func121, Tryd.ntmps121
  go_wp2
  all_goals go_region
  all_goals go_wp2
  all_goals exact bodyPost_ret (v := .tuple #[.agg #[.int .i64 0, .int .i64 0, .int .i64 (leB 4), .int .i64 0], .agg #[.int .i64 0, .int .i64 (moA q 4), .int .i64 (moB f 4), .int .i64 (moC q 4)]]) (by simp [results, Tryd.results121, go_sem, leB, moA, moB, moC]) rfl ⟨rfl, ((below3 _ _ _ _).alloc (by simp; omega) _).drew⟩
set_option maxRecDepth 100000 in
set_option maxHeartbeats 1000000 in
theorem limits5 (q f a b c : Int) (w : World) : Calls Tryd.prog 121 #[.agg #[.int .i64 q, .int .i64 f], .agg #[.int .i64 5, .int .i64 a, .int .i64 b, .int .i64 c]] w fun e w' => e = .returned (.tuple #[.agg #[.int .i64 0, .int .i64 0, .int .i64 (leB 5), .int .i64 0], .agg #[.int .i64 0, .int .i64 (moA q 5), .int .i64 (moB f 5), .int .i64 (moC q 5)]]) ∧ Below w.heap.size w w' := by
  go_enter Tryd.func121, Tryd.ntmps121
  go_wp2
  go_region
  all_goals go_wp2
  all_goals go_region
  all_goals go_wp2
  all_goals exact bodyPost_ret (v := .tuple #[.agg #[.int .i64 0, .int .i64 0, .int .i64 (leB 5), .int .i64 0], .agg #[.int .i64 0, .int .i64 (moA q 5), .int .i64 (moB f 5), .int .i64 (moC q 5)]]) (by simp [results, Tryd.results121, go_sem, leB, moA, moB, moC]) rfl ⟨rfl, ((below3 _ _ _ _).alloc (by simp; omega) _).drew.drew⟩
end Go.Proofs.YtmiefdjbhcpnbaaDoor

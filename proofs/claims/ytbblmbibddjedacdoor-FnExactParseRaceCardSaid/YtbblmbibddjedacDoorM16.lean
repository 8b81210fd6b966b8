/-
  A board's text is read back by the program: plain mathematics (Cut at one sign, Atoi of a number's text, the loop over the jumps).
-/
import Derived.Test.YtbblmbibddjedacDoorM15
import Derived.Test.YtbblmbibddjedacDoorC1ci
namespace Go.Proofs.YtbblmbibddjedacDoor

theorem index1_in (m : UInt8) : ∀ (x y : List UInt8), m ∉ x → Lib.index (x ++ m :: y) [m] = x.length
  | [], y, _ => by simp [Lib.index]
  | a :: x, y, h => by
    simp only [List.mem_cons, not_or] at h
    have ih := index1_in m x y h.2
    have hne : (m == a) = false := by simpa using h.1
    rw [List.cons_append, Lib.index]
    simp only [List.isPrefixOf, hne, Bool.false_and, Bool.false_eq_true, if_false, ih]
    have h1 : (((x.length : Int)) == -1) = false := by simp
    rw [h1]
    simp
theorem index1_out (m : UInt8) : ∀ x : List UInt8, m ∉ x → Lib.index x [m] = -1
  | [], _ => by simp [Lib.index]
  | a :: x, h => by
    simp only [List.mem_cons, not_or] at h
    have ih := index1_out m x h.2
    have hne : (m == a) = false := by simpa using h.1
    rw [Lib.index]
    simp [List.isPrefixOf, hne, ih]
theorem cut_in {m : UInt8} {x : List UInt8} (h : m ∉ x) (y : List UInt8) : Lib.cut (x ++ m :: y) [m] = (x, y, true) := by
  unfold Lib.cut
  rw [index1_in m x y h, if_pos (by omega)]
  simp
theorem cut_out {m : UInt8} {x : List UInt8} (h : m ∉ x) : Lib.cut x [m] = (x, [], false) := by
  unfold Lib.cut
  rw [index1_out m x h, if_neg (by omega)]

theorem parseUint_digs : ∀ (l : List UInt8) (acc : Nat), (∀ x ∈ l, isDig x = true) → (acc + 1) * 10 ^ l.length ≤ 1000000000000000000 → Lib.parseUint10 acc l = .ok (readGo (acc : Int) l).toNat
  | [], acc, _, _ => by simp [Lib.parseUint10, readGo]
  | c :: r, acc, h, ha => by
    have hc := isDig_iff.1 (h c (by simp))
    have hp : 1 ≤ 10 ^ r.length := Nat.one_le_pow _ _ (by decide)
    rw [List.length_cons, Nat.pow_succ, Nat.mul_comm (10 ^ r.length) 10, ← Nat.mul_assoc] at ha
    have h1 : (acc + 1) * 10 ≤ (acc + 1) * 10 * 10 ^ r.length := Nat.le_mul_of_pos_right _ hp
    have h2 : (acc * 10 + (c.toNat - 48) + 1) * 10 ^ r.length ≤ (acc + 1) * 10 * 10 ^ r.length := Nat.mul_le_mul_right _ (by omega)
    rw [Lib.parseUint10, if_pos hc, if_neg (by omega), if_neg (by omega), parseUint_digs r _ (fun x hx => h x (by simp [hx])) (by omega), readGo, if_pos (h c (by simp))]
    congr 3
    omega
theorem atoiP_num (n : Int) (h0 : 0 ≤ n) (h1 : n ≤ 999) : atoiP (numL n) = some n := by
  have hl := numL_len n h1
  have hp := parseUint_digs (numL n) 0 (numL_dig n) (by
    have : 10 ^ (numL n).length ≤ 10 ^ 3 := Nat.pow_le_pow_right (by decide) hl
    omega)
  have hr : readGo ((0 : Nat) : Int) (numL n) = n := by
    unfold numL
    rw [Int.natCast_zero, readGo_dec]
    omega
  rw [hr] at hp
  have hd := numL_dig n
  have hpos : 1 ≤ (numL n).length := decDigits_pos _
  cases hn : numL n with
  | nil => rw [hn] at hpos; simp at hpos
  | cons c r =>
    have hc := isDig_iff.1 (hd c (by rw [hn]; simp))
    have e1 : ¬ (c.toNat = 43 ∨ c.toNat = 45) := by omega
    have e2 : ¬ c.toNat = 45 := by omega
    have hm : Lib.parseMag (c :: r) = .ok n.toNat := by
      unfold Lib.parseMag
      rw [if_neg (by simp), ← hn]
      exact hp
    have hA : Lib.atoiAll (c :: r) = .ok n := by
      simp only [Lib.atoiAll]
      rw [if_neg e1, hm]
      simp only [e2, not_false_eq_true, true_and, false_and, if_false]
      rw [if_neg (by omega)]
      congr 1
      omega
    unfold atoiP
    rw [hA]
theorem atoiP_wf {s : List UInt8} {v : Int} (h : atoiP s = some v) : wfi v = true := by
  have h1 : -9223372036854775808 ≤ v ∧ v ≤ 9223372036854775807 := by
    unfold atoiP at h
    split at h
    · rename_i v' hv
      obtain rfl := Option.some.inj h
      unfold Lib.atoiAll at hv
      split at hv
      · cases hv
      · simp only at hv
        split at hv
        · cases hv
        · cases hv
        · rename_i u hu
          split at hv
          · cases hv
          · split at hv
            · cases hv
            · rename_i h2 h3
              injection hv with hv
              subst hv
              split
              · rename_i hn
                simp only [hn, true_and] at h3
                omega
              · rename_i hn
                simp only [hn, not_false_eq_true, true_and] at h2
                omega
    · cases h
  exact WalkArith.wf_i64 h1

theorem aroundP_txt (m : UInt8) (hm : isDig m = false) (a b : Int) (ha : 0 ≤ a ∧ a ≤ 999) (hb : 0 ≤ b ∧ b ≤ 999) : aroundP m (numL a ++ m :: numL b) = some (a, b) := by
  unfold aroundP
  rw [cut_in (numL_not a hm)]
  simp only [atoiP_num a ha.1 ha.2, atoiP_num b hb.1 hb.2]
  rfl
theorem aroundP_wf {m : UInt8} {s : List UInt8} {j : Int × Int} (h : aroundP m s = some j) : wfi j.1 = true ∧ wfi j.2 = true := by
  unfold aroundP at h
  split at h
  · cases h1 : atoiP (Lib.cut s [m]).1 with
    | none => rw [h1] at h; cases h
    | some x =>
      cases h2 : atoiP (Lib.cut s [m]).2.1 with
      | none => rw [h1, h2] at h; cases h
      | some y =>
        rw [h1, h2] at h
        obtain rfl := Option.some.inj h
        exact ⟨atoiP_wf h1, atoiP_wf h2⟩
  · cases h

/-- The loop over the jumps: n more at most. -/
def jumpsP : Nat → List (Int × Int) → List UInt8 → Bool → Option (List (Int × Int))
  | 0, acc, _, _ => some acc
  | n + 1, acc, rest, more => if more then (aroundP 62 (Lib.cut rest [59]).1).bind fun j => jumpsP n (acc ++ [j]) (Lib.cut rest [59]).2.1 (Lib.cut rest [59]).2.2 else some acc
/-- The board that the program comes to, ahead of its last look. -/
def parseP (s : List UInt8) : Option Bd :=
  if (plainP (Lib.cut s [59]).1).2 then
    (jumpsP 20 [] (Lib.cut s [59]).2.1 (Lib.cut s [59]).2.2).map fun js => ⟨(plainP (Lib.cut s [59]).1).1.1, (plainP (Lib.cut s [59]).1).1.2.1, (plainP (Lib.cut s [59]).1).1.2.2, js⟩
  else none

theorem jumpsP_no (n : Nat) (acc : List (Int × Int)) (r : List UInt8) : jumpsP n acc r false = some acc := by cases n <;> rfl
/-- What is left of a text behind the first ';'. -/
def tailL : List (Int × Int) → List UInt8
  | [] => []
  | j :: js => (numL j.1 ++ 62 :: numL j.2) ++ jumpsL js
theorem jumpsL_cons (j : Int × Int) (js : List (Int × Int)) : jumpsL (j :: js) = 59 :: tailL (j :: js) := by simp [jumpsL, tailL]
theorem cut_jumps {x : List UInt8} (hx : (59 : UInt8) ∉ x) (js : List (Int × Int)) : Lib.cut (x ++ jumpsL js) [59] = (x, tailL js, !js.isEmpty) := by
  cases js with
  | nil =>
    simp only [jumpsL, List.flatMap_nil, List.append_nil]
    exact cut_out hx
  | cons j js =>
    rw [jumpsL_cons, cut_in hx]
    rfl
theorem jumpsP_txt : ∀ (n : Nat) (js acc : List (Int × Int)), js.length ≤ n → (∀ j ∈ js, (0 ≤ j.1 ∧ 0 ≤ j.2) ∧ j.1 ≤ 999 ∧ j.2 ≤ 999) → jumpsP n acc (tailL js) (!js.isEmpty) = some (acc ++ js)
  | n, [], acc, _, _ => by simp [jumpsP_no]
  | 0, j :: js, acc, h, _ => by simp at h
  | n + 1, j :: js, acc, h, hs => by
    have hj := hs j (by simp)
    have hx : (59 : UInt8) ∉ numL j.1 ++ 62 :: numL j.2 := by
      simp only [List.mem_append, List.mem_cons, not_or]
      exact ⟨numL_not _ (by decide), by decide, numL_not _ (by decide)⟩
    rw [jumpsP, tailL, cut_jumps hx, aroundP_txt 62 (by decide) _ _ ⟨hj.1.1, hj.2.1⟩ ⟨hj.1.2, hj.2.2⟩]
    simp only [List.isEmpty_cons, Bool.not_false, if_true, Option.bind_some]
    rw [jumpsP_txt n js _ (by simpa using h) fun x hx => hs x (by simp [hx])]
    simp
theorem parseP_txt {b : Bd} (h : good b = true) : parseP (txtL b) = some b := by
  obtain ⟨h1, h2, h3, h4, h5⟩ := good_nums h
  have hp : (59 : UInt8) ∉ numL b.sq ++ 100 :: (numL b.fa ++ 47 :: numL b.ov) := by
    simp only [List.mem_append, List.mem_cons, not_or]
    exact ⟨numL_not _ (by decide), by decide, numL_not _ (by decide), by decide, numL_not _ (by decide)⟩
  have hq : (47 : UInt8) ∉ numL b.sq ++ 100 :: numL b.fa := by
    simp only [List.mem_append, List.mem_cons, not_or]
    exact ⟨numL_not _ (by decide), by decide, numL_not _ (by decide)⟩
  have hpl : plainP (numL b.sq ++ 100 :: (numL b.fa ++ 47 :: numL b.ov)) = ((b.sq, b.fa, b.ov), true) := by
    have hz : good ⟨b.sq, b.fa, b.ov, []⟩ = true := by
      obtain ⟨s, f, o, js⟩ := b
      have hz := good_sizes h
      rw [good, Bool.and_eq_true, Bool.and_eq_true]
      exact ⟨⟨sizes_iff.2 ⟨hz.1, hz.2.1, hz.2.2.1, by simp⟩, rfl⟩, rfl⟩
    unfold plainP
    rw [show numL b.sq ++ 100 :: (numL b.fa ++ 47 :: numL b.ov) = (numL b.sq ++ 100 :: numL b.fa) ++ 47 :: numL b.ov by simp, cut_in hq]
    simp only [aroundP_txt 100 (by decide) _ _ h1 h2, atoiP_num _ h3.1 h3.2, plainR, hz, if_true]
  unfold parseP txtL
  rw [cut_jumps hp]
  simp only [hpl, if_true, jumpsP_txt 20 b.js [] h5 h4]
  rfl
end Go.Proofs.YtbblmbibddjedacDoor

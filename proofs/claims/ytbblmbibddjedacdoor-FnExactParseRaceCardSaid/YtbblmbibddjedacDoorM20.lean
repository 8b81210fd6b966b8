/-
  A race's text is read back: plain mathematics. What the model's parse gives (raceS), what the program's gives (raceP), and that both give the race that has the text.
-/
import Derived.Test.YtbblmbibddjedacDoorM16
import Derived.Test.YtbblmbibddjedacDoorC1bb
import Derived.Test.YtbblmbibddjedacDoorC4d
namespace Go.Proofs.YtbblmbibddjedacDoor

/-- Texts with a sign between them. -/
def joinL (b : UInt8) : List (List UInt8) → List UInt8
  | [] => []
  | [x] => x
  | x :: y :: t => x ++ b :: joinL b (y :: t)
theorem join_split (b : UInt8) : ∀ (l cur : List UInt8), joinL b (splitGo b cur l) = cur ++ l
  | [], cur => by simp [splitGo, joinL]
  | x :: t, cur => by
    rw [splitGo]
    split
    · rename_i h
      have ih := join_split b t []
      cases hs : splitGo b [] t with
      | nil => exact absurd hs (splitGo_ne _ _ _)
      | cons y r =>
        rw [hs] at ih
        rw [joinL, ih, h]
        simp
    · rw [join_split b t]
      simp
theorem split_two {b : UInt8} {s p q : List UInt8} (h : splitL b s = [p, q]) : s = p ++ b :: q := by
  have := join_split b s []
  rw [show splitGo b [] s = [p, q] from h] at this
  simpa [joinL] using this.symm
theorem split_three {b : UInt8} {s x y z : List UInt8} (h : splitL b s = [x, y, z]) : s = x ++ b :: (y ++ b :: z) := by
  have := join_split b s []
  rw [show splitGo b [] s = [x, y, z] from h] at this
  simpa [joinL] using this.symm

theorem readGo_digs : ∀ (l : List UInt8) (a : Int), 0 ≤ readGo a l → ∀ x ∈ l, isDig x = true
  | [], _, _ => by simp
  | y :: t, a, h => by
    rw [readGo] at h
    split at h
    · rename_i hy
      intro x hx
      rcases List.mem_cons.1 hx with rfl | hx
      · exact hy
      · exact readGo_digs t _ h x hx
    · omega
theorem readGo_pos : ∀ (l : List UInt8) (a : Int), 1 ≤ a → (∀ x ∈ l, isDig x = true) → 1 ≤ readGo a l
  | [], a, h, _ => by simpa [readGo] using h
  | y :: t, a, h, hd => by
    have hy := hd y (by simp)
    rw [readGo, if_pos hy]
    have := isDig_iff.1 hy
    exact readGo_pos t _ (by omega) fun x hx => hd x (by simp [hx])
theorem dec_read : ∀ (n : Nat) (l : List UInt8), l.length = n → 1 ≤ n → (∀ x ∈ l, isDig x = true) → ¬ (l.head? = some 48 ∧ 1 < l.length) → 0 ≤ readGo 0 l ∧ Lib.decDigits (readGo 0 l).toNat = l := by
  intro n
  induction n with
  | zero => intro l _ h; omega
  | succ n ih =>
    intro l hl _ hd hz
    rcases List.eq_nil_or_concat l with rfl | ⟨t, x, rfl⟩
    · simp at hl
    · rw [List.concat_eq_append] at hl hd hz ⊢
      have hx := hd x (by simp)
      have hx2 := isDig_iff.1 hx
      have htd : ∀ y ∈ t, isDig y = true := fun y hy => hd y (by simp [hy])
      rw [readGo_append t 0 x htd, if_pos hx]
      have htl : t.length = n := by simpa using hl
      by_cases ht : t = []
      · subst ht
        simp only [readGo, List.nil_append]
        refine ⟨by omega, ?_⟩
        rw [Lib.decDigits, dif_pos (by omega)]
        congr 1
        rw [← UInt8.toNat_inj, UInt8.toNat_ofNat_of_lt' (show 48 + (10 * 0 + ((x.toNat : Int) - 48)).toNat < 2 ^ 8 by omega)]
        omega
      · obtain ⟨c, r, rfl⟩ : ∃ c r, t = c :: r := by
          cases t with
          | nil => exact absurd rfl ht
          | cons c r => exact ⟨c, r, rfl⟩
        have hc : c ≠ 48 := fun e => hz ⟨by simp [e], by simp⟩
        have hcd := isDig_iff.1 (htd c (by simp))
        have hc49 : 49 ≤ c.toNat := by
          rcases Nat.lt_or_ge c.toNat 49 with h | h
          · exact absurd (UInt8.toNat_inj.1 (show c.toNat = (48 : UInt8).toNat by show c.toNat = 48; omega)) hc
          · exact h
        have hp : 1 ≤ readGo 0 (c :: r) := by
          rw [readGo, if_pos (htd c (by simp))]
          exact readGo_pos r _ (by omega) fun y hy => htd y (by simp [hy])
        obtain ⟨h0, h1⟩ := ih (c :: r) htl (by rw [← htl]; simp) htd (fun h => hc (by simpa using h.1))
        refine ⟨by omega, ?_⟩
        rw [Lib.decDigits, dif_neg (by omega)]
        have e1 : (10 * readGo 0 (c :: r) + ((x.toNat : Int) - 48)).toNat / 10 = (readGo 0 (c :: r)).toNat := by omega
        have e2 : (10 * readGo 0 (c :: r) + ((x.toNat : Int) - 48)).toNat % 10 = x.toNat - 48 := by omega
        rw [e1, e2, h1]
        congr 2
        rw [← UInt8.toNat_inj, UInt8.toNat_ofNat_of_lt' (show 48 + (x.toNat - 48) < 2 ^ 8 by omega)]
        omega
/-- A text that the model reads as a number is the number's text. -/
theorem numL_readL {l : List UInt8} (h : 0 ≤ readL l) : numL (readL l) = l := by
  unfold readL at h ⊢
  split at h
  · rename_i hc
    rw [if_pos hc]
    exact (dec_read l.length l rfl hc.1.1 (readGo_digs l 0 h) hc.2).2
  · omega

/-- A race: its board, Meet, First and Other. -/
structure Rc where
  b : Bd
  me : Int
  fi : Int
  ot : Int
def rcOk (r : Rc) : Bool := raceOk r.b.sq r.b.fa r.b.ov r.b.js r.me r.fi r.ot
/-- A race's text. -/
def rcL (r : Rc) : List UInt8 := txtL r.b ++ tailR r.me r.fi r.ot
theorem txtR_rc (s f o : Int) (js : List (Int × Int)) (me fi ot : Int) : txtR (brdL s f o js) me fi ot = ⟨(rcL ⟨⟨s, f, o, js⟩, me, fi, ot⟩).toArray⟩ := rfl

/-- The race that the model's parse comes to. -/
def raceS (s : List UInt8) : Option Rc := match splitL 64 s with
  | [p, q] => (boardOf p).bind fun b => (match splitL 58 q with
    | [x, y, z] => if rcOk ⟨b, readL x, readL y, readL z⟩ then some ⟨b, readL x, readL y, readL z⟩ else none
    | _ => none)
  | _ => none
/-- The numbers behind the board. -/
def placesP (s : List UInt8) : Option (Int × Int × Int) :=
  if (Lib.cut s [58]).2.2 then (atoiP (Lib.cut s [58]).1).bind fun m => (aroundP 58 (Lib.cut s [58]).2.1).map fun xy => (m, xy.1, xy.2) else none
/-- The race that the program's parse comes to. -/
def raceP (s : List UInt8) : Option Rc :=
  if (Lib.cut s [64]).2.2 then (placesP (Lib.cut s [64]).2.1).bind fun p => (boardOf (Lib.cut s [64]).1).bind fun b => if rcOk ⟨b, p.1, p.2.1, p.2.2⟩ && rcL ⟨b, p.1, p.2.1, p.2.2⟩ == s then some ⟨b, p.1, p.2.1, p.2.2⟩ else none else none

theorem rc_parts {r : Rc} (h : rcOk r = true) : good r.b = true ∧ (0 ≤ r.me ∧ r.me ≤ 999) ∧ (0 ≤ r.fi ∧ r.fi ≤ 999) ∧ (0 ≤ r.ot ∧ r.ot ≤ 999) := by
  obtain ⟨hg, _⟩ := raceOk_parts h
  obtain ⟨h1, h2, h3⟩ := raceOk_nums h
  exact ⟨hg, h1, h2, h3⟩
theorem txtL_no64 (b : Bd) : (64 : UInt8) ∉ txtL b := by
  simp only [txtL, jumpsL, List.mem_append, List.mem_cons, List.mem_flatMap, not_or, not_exists, not_and]
  refine ⟨⟨numL_not _ (by decide), by decide, numL_not _ (by decide), by decide, numL_not _ (by decide)⟩, fun j _ => ⟨by decide, numL_not _ (by decide), by decide, numL_not _ (by decide)⟩⟩
theorem boardOf_txt {b : Bd} (h : good b = true) : boardOf (txtL b) = some b := by
  unfold boardOf
  rw [parseS_txt h]
  exact parsed_ok h rfl
theorem raceS_txt {r : Rc} (h : rcOk r = true) : raceS (rcL r) = some r := by
  obtain ⟨hg, h1, h2, h3⟩ := rc_parts h
  have hq : (64 : UInt8) ∉ numL r.me ++ 58 :: (numL r.fi ++ 58 :: numL r.ot) := by
    simp only [List.mem_append, List.mem_cons, not_or]
    exact ⟨numL_not _ (by decide), by decide, numL_not _ (by decide), by decide, numL_not _ (by decide)⟩
  unfold raceS rcL tailR
  rw [splitL_in (txtL_no64 r.b), splitL_out hq]
  simp only [boardOf_txt hg, Option.bind_some]
  rw [splitL_in (numL_not _ (by decide)), splitL_in (numL_not _ (by decide)), splitL_out (numL_not _ (by decide))]
  simp only [readL_num _ h1.1 h1.2, readL_num _ h2.1 h2.2, readL_num _ h3.1 h3.2]
  rw [if_pos h]
theorem placesP_txt {a b c : Int} (h1 : 0 ≤ a ∧ a ≤ 999) (h2 : 0 ≤ b ∧ b ≤ 999) (h3 : 0 ≤ c ∧ c ≤ 999) : placesP (numL a ++ 58 :: (numL b ++ 58 :: numL c)) = some (a, b, c) := by
  unfold placesP
  rw [cut_in (numL_not _ (by decide))]
  simp only [if_true, atoiP_num _ h1.1 h1.2, aroundP_txt 58 (by decide) _ _ h2 h3]
  rfl
theorem raceP_txt {r : Rc} (h : rcOk r = true) : raceP (rcL r) = some r := by
  obtain ⟨hg, h1, h2, h3⟩ := rc_parts h
  unfold raceP
  have e : Lib.cut (rcL r) [64] = (txtL r.b, numL r.me ++ 58 :: (numL r.fi ++ 58 :: numL r.ot), true) := cut_in (txtL_no64 r.b) _
  rw [e]
  simp only [if_true, placesP_txt h1 h2 h3, Option.bind_some, boardOf_txt hg, h, beq_self_eq_true, Bool.and_self]
theorem raceS_some {s : List UInt8} {r : Rc} (h : raceS s = some r) : rcOk r = true ∧ rcL r = s := by
  unfold raceS at h
  split at h
  · rename_i p q hpq
    cases hb : boardOf p with
    | none => rw [hb] at h; cases h
    | some b =>
      rw [hb, Option.bind_some] at h
      split at h
      · rename_i x y z hxyz
        split at h
        · rename_i hok
          obtain rfl := Option.some.inj h
          refine ⟨hok, ?_⟩
          obtain ⟨hg, h1, h2, h3⟩ := rc_parts hok
          obtain ⟨_, htx⟩ := parsed_some hb
          rw [split_two hpq, split_three hxyz, ← htx]
          simp only [rcL, tailR]
          rw [numL_readL h1.1, numL_readL h2.1, numL_readL h3.1]
        · cases h
      · cases h
  · cases h
theorem raceP_some {s : List UInt8} {r : Rc} (h : raceP s = some r) : rcOk r = true ∧ rcL r = s := by
  unfold raceP at h
  split at h
  · cases hp : placesP (Lib.cut s [64]).2.1 with
    | none => rw [hp] at h; cases h
    | some p =>
      rw [hp, Option.bind_some] at h
      cases hb : boardOf (Lib.cut s [64]).1 with
      | none => rw [hb] at h; cases h
      | some b =>
        rw [hb, Option.bind_some] at h
        split at h
        · rename_i hok
          obtain rfl := Option.some.inj h
          rw [Bool.and_eq_true, beq_iff_eq] at hok
          exact hok
        · cases h
  · cases h
/-- Both parses come to one race. -/
theorem raceP_eq (s : List UInt8) : raceP s = raceS s := by
  cases h : raceS s with
  | some r =>
    obtain ⟨h1, h2⟩ := raceS_some h
    rw [← h2]
    exact raceP_txt h1
  | none =>
    cases h2 : raceP s with
    | none => rfl
    | some r =>
      obtain ⟨h1, h3⟩ := raceP_some h2
      rw [← h3, raceS_txt h1] at h
      cases h
end Go.Proofs.YtbblmbibddjedacDoor

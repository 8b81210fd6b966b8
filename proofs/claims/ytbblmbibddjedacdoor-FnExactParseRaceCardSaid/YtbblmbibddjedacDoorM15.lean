/-
  A board's text is read back: plain mathematics. What the model's parse gives (parseS), and that it gives the board of a board's text.
-/
import Derived.Test.YtbblmbibddjedacDoorC1cg
import Derived.Test.YtbblmbibddjedacDoorM1
namespace Go.Proofs.YtbblmbibddjedacDoor

theorem splitGo_in (b : UInt8) : ∀ (x cur y : List UInt8), b ∉ x → splitGo b cur (x ++ b :: y) = (cur ++ x) :: splitGo b [] y
  | [], cur, y, _ => by simp [splitGo]
  | a :: x, cur, y, h => by
    simp only [List.mem_cons, not_or] at h
    rw [List.cons_append, splitGo, if_neg (fun e => h.1 e.symm), splitGo_in b x _ y h.2]
    simp
theorem splitGo_out (b : UInt8) : ∀ (x cur : List UInt8), b ∉ x → splitGo b cur x = [cur ++ x]
  | [], cur, _ => by simp [splitGo]
  | a :: x, cur, h => by
    simp only [List.mem_cons, not_or] at h
    rw [splitGo, if_neg (fun e => h.1 e.symm), splitGo_out b x _ h.2]
    simp
theorem splitL_in {b : UInt8} {x : List UInt8} (h : b ∉ x) (y : List UInt8) : splitL b (x ++ b :: y) = x :: splitL b y := by
  unfold splitL; rw [splitGo_in b x [] y h]; rfl
theorem splitL_out {b : UInt8} {x : List UInt8} (h : b ∉ x) : splitL b x = [x] := by
  unfold splitL; rw [splitGo_out b x [] h]; rfl

theorem decDigits_dig (u : Nat) : ∀ x ∈ Lib.decDigits u, isDig x = true := by
  induction u using Nat.strongRecOn with
  | _ u ih =>
    rw [Lib.decDigits]
    split
    · rename_i h
      intro x hx
      simp only [List.mem_singleton] at hx
      subst hx
      rw [isDig_iff, UInt8.toNat_ofNat_of_lt' (show 48 + u < 2 ^ 8 by omega)]
      omega
    · intro x hx
      rw [List.mem_append, List.mem_singleton] at hx
      rcases hx with hx | rfl
      · exact ih (u / 10) (by omega) x hx
      · rw [isDig_iff, UInt8.toNat_ofNat_of_lt' (show 48 + u % 10 < 2 ^ 8 by omega)]
        omega
theorem numL_dig (n : Int) : ∀ x ∈ numL n, isDig x = true := decDigits_dig _
theorem numL_not (n : Int) {b : UInt8} (h : isDig b = false) : b ∉ numL n := fun hb => by rw [numL_dig n b hb] at h; cases h
theorem readGo_append : ∀ (l : List UInt8) (a : Int) (x : UInt8), (∀ y ∈ l, isDig y = true) → readGo a (l ++ [x]) = if isDig x then 10 * readGo a l + (x.toNat - 48) else -1
  | [], a, x, _ => by simp [readGo]
  | y :: l, a, x, h => by
    rw [List.cons_append, readGo, if_pos (h y (by simp)), readGo_append l _ x (fun z hz => h z (by simp [hz])), readGo, if_pos (h y (by simp))]
theorem readGo_dec (u : Nat) : readGo 0 (Lib.decDigits u) = u := by
  induction u using Nat.strongRecOn with
  | _ u ih =>
    rw [Lib.decDigits]
    split
    · rename_i h
      have hd : (UInt8.ofNat (48 + u)).toNat = 48 + u := UInt8.toNat_ofNat_of_lt' (show 48 + u < 2 ^ 8 by omega)
      rw [readGo, if_pos (isDig_iff.2 (by rw [hd]; omega)), readGo, hd]
      omega
    · have hd : (UInt8.ofNat (48 + u % 10)).toNat = 48 + u % 10 := UInt8.toNat_ofNat_of_lt' (show 48 + u % 10 < 2 ^ 8 by omega)
      rw [readGo_append _ _ _ (decDigits_dig _), if_pos (isDig_iff.2 (by rw [hd]; omega)), ih (u / 10) (by omega), hd]
      omega
theorem decDigits_pos (u : Nat) : 1 ≤ (Lib.decDigits u).length := by
  rw [Lib.decDigits]
  split <;> simp
/-- No number but 0 begins with a 0. -/
theorem decDigits_head (u : Nat) : (Lib.decDigits u).head? = some 48 → u = 0 := by
  induction u using Nat.strongRecOn with
  | _ u ih =>
    rw [Lib.decDigits]
    split
    · rename_i h
      intro e
      simp only [List.head?_cons, Option.some.injEq] at e
      have hd : (UInt8.ofNat (48 + u)).toNat = 48 + u := UInt8.toNat_ofNat_of_lt' (show 48 + u < 2 ^ 8 by omega)
      rw [e] at hd
      have : (48 : UInt8).toNat = 48 := rfl
      omega
    · rename_i h
      intro e
      have hp := decDigits_pos (u / 10)
      have e' : (Lib.decDigits (u / 10)).head? = some 48 := by
        cases hl : Lib.decDigits (u / 10) with
        | nil => rw [hl] at hp; simp at hp
        | cons y t => rw [hl] at e; simpa using e
      have := ih (u / 10) (by omega) e'
      omega
theorem readL_num (n : Int) (h0 : 0 ≤ n) (h1 : n ≤ 999) : readL (numL n) = n := by
  have hl := numL_len n h1
  have hp := decDigits_pos n.toNat
  have hc : ¬ ((numL n).head? = some 48 ∧ 1 < (numL n).length) := fun h => by
    have := decDigits_head n.toNat h.1
    have h2 := h.2
    unfold numL at h2
    rw [this, Lib.decDigits] at h2
    exact absurd h2 (by decide)
  unfold readL
  rw [if_pos ⟨⟨hp, by omega⟩, hc⟩]
  unfold numL
  rw [readGo_dec]
  omega
/-- A number's text tells the number. -/
theorem numL_inj {a b : Int} (ha : 0 ≤ a) (hb : 0 ≤ b) (h : numL a = numL b) : a = b := by
  have h1 := readGo_dec a.toNat
  have h2 := readGo_dec b.toNat
  unfold numL at h
  rw [h, h2] at h1
  omega

/-- A jump's text, read. -/
def jumpS (t : List UInt8) : Option (Int × Int) := match splitL 62 t with | [a, b] => some (readL a, readL b) | _ => none
/-- The board that the model's parse comes to, ahead of its last look. -/
def parseS (s : List UInt8) : Option Bd :=
  if 200 < s.length then none else
    match splitL 59 s with
    | [] => none
    | p :: ts => match splitL 100 p with
      | [a, r] => (match splitL 47 r with
        | [x, y] => (ts.mapM jumpS).map fun js => ⟨readL a, readL x, readL y, js⟩
        | _ => none)
      | _ => none
/-- A board's text, as a list. -/
def txtL (b : Bd) : List UInt8 := (numL b.sq ++ 100 :: (numL b.fa ++ 47 :: numL b.ov)) ++ jumpsL b.js
theorem txtB_txtL (b : Bd) : txtB b.sq b.fa b.ov b.js = ⟨(txtL b).toArray⟩ := rfl

theorem split_jumps (p : List UInt8) (hp : (59 : UInt8) ∉ p) : ∀ js : List (Int × Int), splitL 59 (p ++ jumpsL js) = p :: js.map (fun j => numL j.1 ++ 62 :: numL j.2)
  | [] => by
    simp only [jumpsL, List.flatMap_nil, List.append_nil, List.map_nil]
    exact splitL_out hp
  | j :: js => by
    have h : (59 : UInt8) ∉ numL j.1 ++ 62 :: numL j.2 := by
      simp only [List.mem_append, List.mem_cons, not_or]
      exact ⟨numL_not _ (by decide), by decide, numL_not _ (by decide)⟩
    rw [show p ++ jumpsL (j :: js) = p ++ 59 :: ((numL j.1 ++ 62 :: numL j.2) ++ jumpsL js) by simp [jumpsL], splitL_in hp, split_jumps _ h js, List.map_cons]
theorem jumpS_txt (j : Int × Int) (h : (0 ≤ j.1 ∧ 0 ≤ j.2) ∧ j.1 ≤ 999 ∧ j.2 ≤ 999) : jumpS (numL j.1 ++ 62 :: numL j.2) = some j := by
  unfold jumpS
  rw [splitL_in (numL_not _ (by decide)), splitL_out (numL_not _ (by decide))]
  simp only [readL_num j.1 h.1.1 h.2.1, readL_num j.2 h.1.2 h.2.2]
theorem jumpsS_txt : ∀ js : List (Int × Int), (∀ j ∈ js, (0 ≤ j.1 ∧ 0 ≤ j.2) ∧ j.1 ≤ 999 ∧ j.2 ≤ 999) → (js.map (fun j => numL j.1 ++ 62 :: numL j.2)).mapM jumpS = some js
  | [], _ => rfl
  | j :: js, h => by
    rw [List.map_cons, List.mapM_cons, jumpS_txt j (h j (by simp)), jumpsS_txt js fun x hx => h x (by simp [hx])]
    rfl
/-- A good board's numbers. -/
theorem good_nums {b : Bd} (h : good b = true) : (0 ≤ b.sq ∧ b.sq ≤ 999) ∧ (0 ≤ b.fa ∧ b.fa ≤ 999) ∧ (0 ≤ b.ov ∧ b.ov ≤ 999) ∧ (∀ j ∈ b.js, (0 ≤ j.1 ∧ 0 ≤ j.2) ∧ j.1 ≤ 999 ∧ j.2 ≤ 999) ∧ b.js.length ≤ 20 := by
  obtain ⟨s, f, o, js⟩ := b
  have hz := good_sizes h
  dsimp only
  refine ⟨⟨by omega, by omega⟩, ⟨by omega, by omega⟩, ⟨by omega, by omega⟩, fun j hj => ?_, hz.2.2.2⟩
  rw [good, Bool.and_eq_true, Bool.and_eq_true, jumpsOk_eq, Bool.and_eq_true] at h
  have := List.all_eq_true.1 h.1.2.1 j hj
  simp only [okJump, Bool.and_eq_true, inB_iff] at this
  omega
theorem txtL_len {b : Bd} (h : good b = true) : (txtL b).length ≤ 200 := by
  obtain ⟨h1, h2, h3, h4, h5⟩ := good_nums h
  have := jumpsL_len b.js fun j hj => (h4 j hj).2
  have := numL_len b.sq h1.2
  have := numL_len b.fa h2.2
  have := numL_len b.ov h3.2
  simp only [txtL, List.length_append, List.length_cons]
  omega
/-- The model's parse gives the board of a good board's text. -/
theorem parseS_txt {b : Bd} (h : good b = true) : parseS (txtL b) = some b := by
  obtain ⟨h1, h2, h3, h4, h5⟩ := good_nums h
  have hl := txtL_len h
  have hp : (59 : UInt8) ∉ numL b.sq ++ 100 :: (numL b.fa ++ 47 :: numL b.ov) := by
    simp only [List.mem_append, List.mem_cons, not_or]
    exact ⟨numL_not _ (by decide), by decide, numL_not _ (by decide), by decide, numL_not _ (by decide)⟩
  have hr : (100 : UInt8) ∉ numL b.fa ++ 47 :: numL b.ov := by
    simp only [List.mem_append, List.mem_cons, not_or]
    exact ⟨numL_not _ (by decide), by decide, numL_not _ (by decide)⟩
  unfold parseS
  rw [if_neg (by omega)]
  unfold txtL
  rw [split_jumps _ hp]
  simp only [splitL_in (numL_not b.sq (show isDig 100 = false by decide)), splitL_out hr, splitL_in (numL_not b.fa (show isDig 47 = false by decide)), splitL_out (numL_not b.ov (show isDig 47 = false by decide)), jumpsS_txt b.js h4, readL_num b.sq h1.1 h1.2, readL_num b.fa h2.1 h2.2, readL_num b.ov h3.1 h3.2]
  rfl
/-- Two good boards of one text are one. -/
theorem txtL_inj {a b : Bd} (ha : good a = true) (hb : good b = true) (h : txtL a = txtL b) : a = b := by
  have h1 := parseS_txt ha
  rw [h, parseS_txt hb] at h1
  exact (Option.some.inj h1).symm
end Go.Proofs.YtbblmbibddjedacDoor

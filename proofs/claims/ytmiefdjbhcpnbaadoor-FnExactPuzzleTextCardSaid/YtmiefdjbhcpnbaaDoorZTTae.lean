/- Several texts, one behind the other: M15 M82 C1cb C1cc. -/
import Derived.Shelf.Strconv.Itoa3
import Derived.Shelf.Lay
import Derived.Ground.NamesProg
import Derived.Lib.AppendIntMem
import Derived.Test.YtmiefdjbhcpnbaaDoorZTTad
import Derived.Test.YtmiefdjbhcpnbaaDoorZTTac
import Derived.Test.YtmiefdjbhcpnbaaDoorZTTaa

namespace Go.Proofs.YtmiefdjbhcpnbaaDoor

theorem splitGo_in (b : UInt8) : ∀ (x cur y : List UInt8), b ∉ x → splitGo b cur (x ++ b :: y) = (cur ++ x) :: splitGo b [] y
  | [], cur, y, _ => by simp [splitGo]
  | a :: x, cur, y, h => by
    simp only [List.mem_cons, not_or] at h
    rw [List.cons_append, splitGo, if_neg (fun e => h.1 e.symm), splitGo_in b x _ y h.2]
    simp
theorem splitGo_out (b : UInt8) : ∀ (x cur : List UInt8), b ∉ x → splitGo b cur x = [cur ++ x]
  | [], cur, _ => by simp [splitGo]
  | a :: x, cur, h => by
    simp only [List.mem_cons, not_or] at h
    rw [splitGo, if_neg (fun e => h.1 e.symm), splitGo_out b x _ h.2]
    simp
theorem splitL_in {b : UInt8} {x : List UInt8} (h : b ∉ x) (y : List UInt8) : splitL b (x ++ b :: y) = x :: splitL b y := by
  unfold splitL; rw [splitGo_in b x [] y h]; rfl
theorem splitL_out {b : UInt8} {x : List UInt8} (h : b ∉ x) : splitL b x = [x] := by
  unfold splitL; rw [splitGo_out b x [] h]; rfl

theorem decDigits_dig (u : Nat) : ∀ x ∈ Lib.decDigits u, isDig x = true := by
  induction u using Nat.strongRecOn with
  | _ u ih =>
    rw [Lib.decDigits]
    split
    · rename_i h
      intro x hx
      simp only [List.mem_singleton] at hx
      subst hx
      rw [isDig_iff, UInt8.toNat_ofNat_of_lt' (show 48 + u < 2 ^ 8 by omega)]
      omega
    · intro x hx
      rw [List.mem_append, List.mem_singleton] at hx
      rcases hx with hx | rfl
      · exact ih (u / 10) (by omega) x hx
      · rw [isDig_iff, UInt8.toNat_ofNat_of_lt' (show 48 + u % 10 < 2 ^ 8 by omega)]
        omega
theorem numL_dig (n : Int) : ∀ x ∈ numL n, isDig x = true := decDigits_dig _
theorem numL_not (n : Int) {b : UInt8} (h : isDig b = false) : b ∉ numL n := fun hb => by rw [numL_dig n b hb] at h; cases h
theorem readGo_append : ∀ (l : List UInt8) (a : Int) (x : UInt8), (∀ y ∈ l, isDig y = true) → readGo a (l ++ [x]) = if isDig x then 10 * readGo a l + (x.toNat - 48) else -1
  | [], a, x, _ => by simp [readGo]
  | y :: l, a, x, h => by
    rw [List.cons_append, readGo, if_pos (h y (by simp)), readGo_append l _ x (fun z hz => h z (by simp [hz])), readGo, if_pos (h y (by simp))]
theorem readGo_dec (u : Nat) : readGo 0 (Lib.decDigits u) = u := by
  induction u using Nat.strongRecOn with
  | _ u ih =>
    rw [Lib.decDigits]
    split
    · rename_i h
      have hd : (UInt8.ofNat (48 + u)).toNat = 48 + u := UInt8.toNat_ofNat_of_lt' (show 48 + u < 2 ^ 8 by omega)
      rw [readGo, if_pos (isDig_iff.2 (by rw [hd]; omega)), readGo, hd]
      omega
    · have hd : (UInt8.ofNat (48 + u % 10)).toNat = 48 + u % 10 := UInt8.toNat_ofNat_of_lt' (show 48 + u % 10 < 2 ^ 8 by omega)
      rw [readGo_append _ _ _ (decDigits_dig _), if_pos (isDig_iff.2 (by rw [hd]; omega)), ih (u / 10) (by omega), hd]
      omega
theorem decDigits_pos (u : Nat) : 1 ≤ (Lib.decDigits u).length := by
  rw [Lib.decDigits]
  split <;> simp
/-- No number but 0 begins with a 0. -/
theorem decDigits_head (u : Nat) : (Lib.decDigits u).head? = some 48 → u = 0 := by
  induction u using Nat.strongRecOn with
  | _ u ih =>
    rw [Lib.decDigits]
    split
    · rename_i h
      intro e
      simp only [List.head?_cons, Option.some.injEq] at e
      have hd : (UInt8.ofNat (48 + u)).toNat = 48 + u := UInt8.toNat_ofNat_of_lt' (show 48 + u < 2 ^ 8 by omega)
      rw [e] at hd
      have : (48 : UInt8).toNat = 48 := rfl
      omega
    · rename_i h
      intro e
      have hp := decDigits_pos (u / 10)
      have e' : (Lib.decDigits (u / 10)).head? = some 48 := by
        cases hl : Lib.decDigits (u / 10) with
        | nil => rw [hl] at hp; simp at hp
        | cons y t => rw [hl] at e; simpa using e
      have := ih (u / 10) (by omega) e'
      omega
theorem readL_num (n : Int) (h0 : 0 ≤ n) (h1 : n ≤ 999) : readL (numL n) = n := by
  have hl := numL_len n h1
  have hp := decDigits_pos n.toNat
  have hc : ¬ ((numL n).head? = some 48 ∧ 1 < (numL n).length) := fun h => by
    have := decDigits_head n.toNat h.1
    have h2 := h.2
    unfold numL at h2
    rw [this, Lib.decDigits] at h2
    exact absurd h2 (by decide)
  unfold readL
  rw [if_pos ⟨⟨hp, by omega⟩, hc⟩]
  unfold numL
  rw [readGo_dec]
  omega
/-- A number's text tells the number. -/
theorem numL_inj {a b : Int} (ha : 0 ≤ a) (hb : 0 ≤ b) (h : numL a = numL b) : a = b := by
  have h1 := readGo_dec a.toNat
  have h2 := readGo_dec b.toNat
  unfold numL at h
  rw [h, h2] at h1
  omega

/-- A jump's text, read. -/
def jumpS (t : List UInt8) : Option (Int × Int) := match splitL 62 t with | [a, b] => some (readL a, readL b) | _ => none
/-- The board that the model's parse comes to, ahead of its last look. -/
def parseS (s : List UInt8) : Option Bd :=
  if 200 < s.length then none else
    match splitL 59 s with
    | [] => none
    | p :: ts => match splitL 100 p with
      | [a, r] => (match splitL 47 r with
        | [x, y] => (ts.mapM jumpS).map fun js => ⟨readL a, readL x, readL y, js⟩
        | _ => none)
      | _ => none
/-- A board's text, as a list. -/
def txtL (b : Bd) : List UInt8 := (numL b.sq ++ 100 :: (numL b.fa ++ 47 :: numL b.ov)) ++ jumpsL b.js
theorem txtB_txtL (b : Bd) : txtB b.sq b.fa b.ov b.js = ⟨(txtL b).toArray⟩ := rfl

theorem split_jumps (p : List UInt8) (hp : (59 : UInt8) ∉ p) : ∀ js : List (Int × Int), splitL 59 (p ++ jumpsL js) = p :: js.map (fun j => numL j.1 ++ 62 :: numL j.2)
  | [] => by
    simp only [jumpsL, List.flatMap_nil, List.append_nil, List.map_nil]
    exact splitL_out hp
  | j :: js => by
    have h : (59 : UInt8) ∉ numL j.1 ++ 62 :: numL j.2 := by
      simp only [List.mem_append, List.mem_cons, not_or]
      exact ⟨numL_not _ (by decide), by decide, numL_not _ (by decide)⟩
    rw [show p ++ jumpsL (j :: js) = p ++ 59 :: ((numL j.1 ++ 62 :: numL j.2) ++ jumpsL js) by simp [jumpsL], splitL_in hp, split_jumps _ h js, List.map_cons]
theorem jumpS_txt (j : Int × Int) (h : (0 ≤ j.1 ∧ 0 ≤ j.2) ∧ j.1 ≤ 999 ∧ j.2 ≤ 999) : jumpS (numL j.1 ++ 62 :: numL j.2) = some j := by
  unfold jumpS
  rw [splitL_in (numL_not _ (by decide)), splitL_out (numL_not _ (by decide))]
  simp only [readL_num j.1 h.1.1 h.2.1, readL_num j.2 h.1.2 h.2.2]
theorem jumpsS_txt : ∀ js : List (Int × Int), (∀ j ∈ js, (0 ≤ j.1 ∧ 0 ≤ j.2) ∧ j.1 ≤ 999 ∧ j.2 ≤ 999) → (js.map (fun j => numL j.1 ++ 62 :: numL j.2)).mapM jumpS = some js
  | [], _ => rfl
  | j :: js, h => by
    rw [List.map_cons, List.mapM_cons, jumpS_txt j (h j (by simp)), jumpsS_txt js fun x hx => h x (by simp [hx])]
    rfl
/-- A good board's numbers. -/
theorem good_nums {b : Bd} (h : good b = true) : (0 ≤ b.sq ∧ b.sq ≤ 999) ∧ (0 ≤ b.fa ∧ b.fa ≤ 999) ∧ (0 ≤ b.ov ∧ b.ov ≤ 999) ∧ (∀ j ∈ b.js, (0 ≤ j.1 ∧ 0 ≤ j.2) ∧ j.1 ≤ 999 ∧ j.2 ≤ 999) ∧ b.js.length ≤ 20 := by
  obtain ⟨s, f, o, js⟩ := b
  have hz := good_sizes h
  dsimp only
  refine ⟨⟨by omega, by omega⟩, ⟨by omega, by omega⟩, ⟨by omega, by omega⟩, fun j hj => ?_, hz.2.2.2⟩
  rw [good, Bool.and_eq_true, Bool.and_eq_true, jumpsOk_eq, Bool.and_eq_true] at h
  have := List.all_eq_true.1 h.1.2.1 j hj
  simp only [okJump, Bool.and_eq_true, inB_iff] at this
  omega
theorem txtL_len {b : Bd} (h : good b = true) : (txtL b).length ≤ 200 := by
  obtain ⟨h1, h2, h3, h4, h5⟩ := good_nums h
  have := jumpsL_len b.js fun j hj => (h4 j hj).2
  have := numL_len b.sq h1.2
  have := numL_len b.fa h2.2
  have := numL_len b.ov h3.2
  simp only [txtL, List.length_append, List.length_cons]
  omega
/-- The model's parse gives the board of a good board's text. -/
theorem parseS_txt {b : Bd} (h : good b = true) : parseS (txtL b) = some b := by
  obtain ⟨h1, h2, h3, h4, h5⟩ := good_nums h
  have hl := txtL_len h
  have hp : (59 : UInt8) ∉ numL b.sq ++ 100 :: (numL b.fa ++ 47 :: numL b.ov) := by
    simp only [List.mem_append, List.mem_cons, not_or]
    exact ⟨numL_not _ (by decide), by decide, numL_not _ (by decide), by decide, numL_not _ (by decide)⟩
  have hr : (100 : UInt8) ∉ numL b.fa ++ 47 :: numL b.ov := by
    simp only [List.mem_append, List.mem_cons, not_or]
    exact ⟨numL_not _ (by decide), by decide, numL_not _ (by decide)⟩
  unfold parseS
  rw [if_neg (by omega)]
  unfold txtL
  rw [split_jumps _ hp]
  simp only [splitL_in (numL_not b.sq (show isDig 100 = false by decide)), splitL_out hr, splitL_in (numL_not b.fa (show isDig 47 = false by decide)), splitL_out (numL_not b.ov (show isDig 47 = false by decide)), jumpsS_txt b.js h4, readL_num b.sq h1.1 h1.2, readL_num b.fa h2.1 h2.2, readL_num b.ov h3.1 h3.2]
  rfl
/-- Two good boards of one text are one. -/
theorem txtL_inj {a b : Bd} (ha : good a = true) (hb : good b = true) (h : txtL a = txtL b) : a = b := by
  have h1 := parseS_txt ha
  rw [h, parseS_txt hb] at h1
  exact (Option.some.inj h1).symm
end Go.Proofs.YtmiefdjbhcpnbaaDoor

namespace Go.Proofs.YtmiefdjbhcpnbaaDoor

/-- Texts with a sign between them. -/
def joinL (b : UInt8) : List (List UInt8) → List UInt8
  | [] => []
  | [x] => x
  | x :: y :: t => x ++ b :: joinL b (y :: t)
theorem join_split (b : UInt8) : ∀ (l cur : List UInt8), joinL b (splitGo b cur l) = cur ++ l
  | [], cur => by simp [splitGo, joinL]
  | x :: t, cur => by
    rw [splitGo]
    split
    · rename_i h
      have ih := join_split b t []
      cases hs : splitGo b [] t with
      | nil => exact absurd hs (splitGo_ne _ _ _)
      | cons y r =>
        rw [hs] at ih
        rw [joinL, ih, h]
        simp
    · rw [join_split b t]
      simp
theorem split_two {b : UInt8} {s p q : List UInt8} (h : splitL b s = [p, q]) : s = p ++ b :: q := by
  have := join_split b s []
  rw [show splitGo b [] s = [p, q] from h] at this
  simpa [joinL] using this.symm
theorem split_three {b : UInt8} {s x y z : List UInt8} (h : splitL b s = [x, y, z]) : s = x ++ b :: (y ++ b :: z) := by
  have := join_split b s []
  rw [show splitGo b [] s = [x, y, z] from h] at this
  simpa [joinL] using this.symm

theorem readGo_digs : ∀ (l : List UInt8) (a : Int), 0 ≤ readGo a l → ∀ x ∈ l, isDig x = true
  | [], _, _ => by simp
  | y :: t, a, h => by
    rw [readGo] at h
    split at h
    · rename_i hy
      intro x hx
      rcases List.mem_cons.1 hx with rfl | hx
      · exact hy
      · exact readGo_digs t _ h x hx
    · omega
theorem readGo_pos : ∀ (l : List UInt8) (a : Int), 1 ≤ a → (∀ x ∈ l, isDig x = true) → 1 ≤ readGo a l
  | [], a, h, _ => by simpa [readGo] using h
  | y :: t, a, h, hd => by
    have hy := hd y (by simp)
    rw [readGo, if_pos hy]
    have := isDig_iff.1 hy
    exact readGo_pos t _ (by omega) fun x hx => hd x (by simp [hx])
theorem dec_read : ∀ (n : Nat) (l : List UInt8), l.length = n → 1 ≤ n → (∀ x ∈ l, isDig x = true) → ¬ (l.head? = some 48 ∧ 1 < l.length) → 0 ≤ readGo 0 l ∧ Lib.decDigits (readGo 0 l).toNat = l := by
  intro n
  induction n with
  | zero => intro l _ h; omega
  | succ n ih =>
    intro l hl _ hd hz
    rcases List.eq_nil_or_concat l with rfl | ⟨t, x, rfl⟩
    · simp at hl
    · rw [List.concat_eq_append] at hl hd hz ⊢
      have hx := hd x (by simp)
      have hx2 := isDig_iff.1 hx
      have htd : ∀ y ∈ t, isDig y = true := fun y hy => hd y (by simp [hy])
      rw [readGo_append t 0 x htd, if_pos hx]
      have htl : t.length = n := by simpa using hl
      by_cases ht : t = []
      · subst ht
        simp only [readGo, List.nil_append]
        refine ⟨by omega, ?_⟩
        rw [Lib.decDigits, dif_pos (by omega)]
        congr 1
        rw [← UInt8.toNat_inj, UInt8.toNat_ofNat_of_lt' (show 48 + (10 * 0 + ((x.toNat : Int) - 48)).toNat < 2 ^ 8 by omega)]
        omega
      · obtain ⟨c, r, rfl⟩ : ∃ c r, t = c :: r := by
          cases t with
          | nil => exact absurd rfl ht
          | cons c r => exact ⟨c, r, rfl⟩
        have hc : c ≠ 48 := fun e => hz ⟨by simp [e], by simp⟩
        have hcd := isDig_iff.1 (htd c (by simp))
        have hc49 : 49 ≤ c.toNat := by
          rcases Nat.lt_or_ge c.toNat 49 with h | h
          · exact absurd (UInt8.toNat_inj.1 (show c.toNat = (48 : UInt8).toNat by show c.toNat = 48; omega)) hc
          · exact h
        have hp : 1 ≤ readGo 0 (c :: r) := by
          rw [readGo, if_pos (htd c (by simp))]
          exact readGo_pos r _ (by omega) fun y hy => htd y (by simp [hy])
        obtain ⟨h0, h1⟩ := ih (c :: r) htl (by rw [← htl]; simp) htd (fun h => hc (by simpa using h.1))
        refine ⟨by omega, ?_⟩
        rw [Lib.decDigits, dif_neg (by omega)]
        have e1 : (10 * readGo 0 (c :: r) + ((x.toNat : Int) - 48)).toNat / 10 = (readGo 0 (c :: r)).toNat := by omega
        have e2 : (10 * readGo 0 (c :: r) + ((x.toNat : Int) - 48)).toNat % 10 = x.toNat - 48 := by omega
        rw [e1, e2, h1]
        congr 2
        rw [← UInt8.toNat_inj, UInt8.toNat_ofNat_of_lt' (show 48 + (x.toNat - 48) < 2 ^ 8 by omega)]
        omega
/-- A text that the model reads as a number is the number's text. -/
theorem numL_readL {l : List UInt8} (h : 0 ≤ readL l) : numL (readL l) = l := by
  unfold readL at h ⊢
  split at h
  · rename_i hc
    rw [if_pos hc]
    exact (dec_read l.length l rfl hc.1.1 (readGo_digs l 0 h) hc.2).2
  · omega
theorem joinL_snoc (b : UInt8) : ∀ (L : List (List UInt8)) (x : List UInt8), L ≠ [] → joinL b (L ++ [x]) = joinL b L ++ b :: x
  | [], _, h => absurd rfl h
  | [y], x, _ => by simp [joinL]
  | y :: z :: t, x, _ => by
    have ih := joinL_snoc b (z :: t) x (by simp)
    rw [List.cons_append, List.cons_append, joinL, ← List.cons_append, ih, joinL]
    simp
theorem joinL_len (b : UInt8) (m : Nat) : ∀ (L : List (List UInt8)), (∀ x ∈ L, x.length ≤ m) → (joinL b L).length ≤ (m + 1) * L.length
  | [], _ => by simp [joinL]
  | [y], h => by
    have := h y (by simp)
    simp [joinL]; omega
  | y :: z :: t, h => by
    have ih := joinL_len b m (z :: t) (fun x hx => h x (by simp at hx ⊢; exact .inr hx))
    have := h y (by simp)
    rw [joinL, List.length_append, List.length_cons]
    simp only [List.length_cons] at ih ⊢
    have e : (m + 1) * (t.length + 1 + 1) = (m + 1) * (t.length + 1) + (m + 1) := by rw [Nat.mul_add (m + 1) (t.length + 1) 1]; omega
    omega
/-- A text with no sign in it that is joined to others is split off again. -/
theorem splitGo_app (b : UInt8) : ∀ (x cur l : List UInt8), b ∉ x → splitGo b cur (x ++ l) = splitGo b (cur ++ x) l
  | [], cur, l, _ => by simp
  | y :: t, cur, l, h => by
    have hy : ¬ y = b := fun e => h (by simp [e])
    rw [List.cons_append, splitGo, if_neg hy, splitGo_app b t _ l (fun hb => h (by simp [hb]))]
    simp
theorem split_one {b : UInt8} {x : List UInt8} (h : b ∉ x) : splitL b x = [x] := by
  have := splitGo_app b x [] [] h
  rw [List.append_nil] at this
  unfold splitL
  rw [this]
  simp [splitGo]
theorem split_cons {b : UInt8} {x : List UInt8} (h : b ∉ x) (l : List UInt8) : splitL b (x ++ b :: l) = x :: splitL b l := by
  unfold splitL
  rw [splitGo_app b x [] _ h, List.nil_append, splitGo, if_pos rfl]
theorem split_join (b : UInt8) : ∀ (L : List (List UInt8)), L ≠ [] → (∀ x ∈ L, b ∉ x) → splitL b (joinL b L) = L
  | [], h, _ => absurd rfl h
  | [y], _, h => by rw [joinL]; exact split_one (h y (by simp))
  | y :: z :: t, _, h => by
    rw [joinL, split_cons (h y (by simp)), split_join b (z :: t) (by simp) (fun x hx => h x (by simp at hx ⊢; exact .inr hx))]
end Go.Proofs.YtmiefdjbhcpnbaaDoor

namespace Go.Proofs.YtmiefdjbhcpnbaaDoor
open Go.RowKit

/-- string([]byte{c}). -/
theorem conv_one (m : Nat) (hm : m < 256) (W : World) (g : Nat) (hc : W.cell? ⟨g, 0, none⟩ = some (.int .u8 (m : Int))) :
    (convert 101 9 (.slice (some ⟨g, 0, none⟩) 1 1)).run Tryd.prog W = .ok (.string ⟨#[UInt8.ofNat m]⟩) W := by
  have h := run_convert_bytes_back (P := Tryd.prog) W 101 9 5 ⟨g, 0, none⟩ 1 [UInt8.ofNat m] Tryd.underlying101 Tryd.underlying5 Tryd.underlying9 (fun j hj => by
    obtain rfl : j = 0 := by simpa using hj
    rw [show (⟨g, 0, none⟩ : Addr).add 0 = ⟨g, 0, none⟩ by simp [Addr.add], hc, List.getElem_cons_zero, UInt8.toNat_ofNat_of_lt' hm])
  exact h

set_option maxRecDepth 100000 in
set_option maxHeartbeats 1000000 in
theorem l1Num_any : ∀ (k : Nat) (n : Int) (w : World), 0 ≤ n → n < 10 ^ (k + 1) → n ≤ 999 → Calls Tryd.prog 57 #[.int .i64 n] w fun e w' => e = .returned (.string (numB n)) ∧ Below w.heap.size w w'
  | 0, n, w, h0, h1, h2 => by
    have hlt : n < 10 := by simpa using h1
    have hw1 : IntKind.i64.wrap (48 + n) = 48 + n := IntWalk.i64_in _ (by omega)
    have hw2 : IntKind.u8.wrap (48 + n) = 48 + n := by rw [IntKind.wrap_u8]; omega
    have hcv := conv_one (48 + n.toNat) (by omega)
    rw [show ((48 + n.toNat : Nat) : Int) = 48 + n by omega, show (⟨#[UInt8.ofNat (48 + n.toNat)]⟩ : ByteArray) = numB n by unfold numB; rw [numL_small n h0 hlt]] at hcv
    go_enter Tryd.func57, Tryd.ntmps57
    go_wp2
    go_ret
    exact ⟨rfl, (Below.refl _ _).alloc (Nat.le_refl _) _⟩
  | k + 1, n, w, h0, h1, h2 => by
    by_cases hlt : n < 10
    · exact l1Num_any 0 n w h0 (by simpa using hlt) h2
    have ih := fun w => l1Num_any k (n / 10) w (by omega) (by rw [Int.pow_succ] at h1; omega) (by omega)
    have hge : (n < 10) = False := by simpa using hlt
    have hw0 : IntKind.i64.wrap (n.tdiv 10) = n / 10 := by rw [Int.tdiv_eq_ediv_of_nonneg h0]; exact IntWalk.i64_in _ (by omega)
    have hw3 : n.tmod 10 = n % 10 := Int.tmod_eq_emod_of_nonneg h0
    have hm : n % 10 < 10 ∧ 0 ≤ n % 10 := by omega
    have hw1 : IntKind.i64.wrap (48 + n % 10) = 48 + n % 10 := IntWalk.i64_in _ (by omega)
    have hw2 : IntKind.u8.wrap (48 + n % 10) = 48 + n % 10 := by rw [IntKind.wrap_u8]; omega
    have hcv := conv_one (48 + (n % 10).toNat) (by omega)
    rw [show ((48 + (n % 10).toNat : Nat) : Int) = 48 + n % 10 by omega] at hcv
    have hadd := add_run (P := Tryd.prog) (numB (n / 10)) ⟨#[UInt8.ofNat (48 + (n % 10).toNat)]⟩ (numB n) (by unfold numB; rw [numL_big n (by omega)]; apply ByteArray.ext; simp) (by
      have := numL_len (n / 10) (by omega)
      rw [numB_size]
      show _ + 1 ≤ _
      omega)
    clear hm
    generalize n % 10 = d at *
    generalize (⟨#[UInt8.ofNat (48 + d.toNat)]⟩ : ByteArray) = D at *
    go_enter Tryd.func57, Tryd.ntmps57
    go_wp2
    go_region_with (go_at_call 57; refine (ih _).mono ?_; rintro e w1 ⟨rfl, hb⟩; try have q : w1.cell? ⟨w.heap.size, 0, none⟩ = some (.int .u8 (48 + d)) := keepcell hb (World.cell?_alloc_at _ _ _ _ rfl))
    all_goals
      go_wp2
      go_ret
    · exact ⟨rfl, ((Below.refl _ _).drew.trans hb).alloc (by have := hb.size; simpa using this) _⟩
    · exact ⟨rfl, ((Below.refl _ _).drew.alloc (Nat.le_refl _) _).trans (hb.mono (by simp))⟩
    · exact ⟨rfl, ((Below.refl _ _).drew.alloc (Nat.le_refl _) _).trans (hb.mono (by simp))⟩

/-- l1Num behind a box that was made: the box reads as before. -/
theorem l1Num_on {w0 w : World} {cs : Array Value} {t : TypeId} (n : Int) (h0 : 0 ≤ n) (h1 : n ≤ 999) (hS : Below (w0.heap.size + 1) (w0.alloc (.cells cs t)) w) :
    Calls Tryd.prog 57 #[.int .i64 n] w fun e w' => e = .returned (.string (numB n)) ∧ Below (w0.heap.size + 1) (w0.alloc (.cells cs t)) w' ∧ (∀ i, w'.cell? ⟨w0.heap.size, i, none⟩ = cs[i]?) :=
  (l1Num_any 2 n w h0 (by omega) h1).mono fun _ _ ⟨he, hx⟩ =>
    have hb := box_on hS hx (by have := hS.size; simpa using this)
    ⟨he, hb, boxcells hb⟩

end Go.Proofs.YtmiefdjbhcpnbaaDoor

namespace Go.Proofs
open Go.Shelf
set_option maxRecDepth 100000
shelf_lay LaysM.n171 Nm 171 at Tryd as Tryd.laysItoa
end Go.Proofs
namespace Go.Proofs.YtmiefdjbhcpnbaaDoor
open Go.RowKit

/-- The library's table of powers of ten lies as the program's text lays it. -/
abbrev Tens (w : World) : Prop := Lib.TabIs Tryd.prog w "internal/strconv.uint64pow10" .u64 Lib.pow10Tab
theorem Tens.on {w w' : World} (h : Tens w) (hb : Below w.heap.size w w') : Tens w' := Lib.tabBelow_of_tabIs h w' hb

theorem itoa_on {w0 w : World} {cs : Array Value} {t : TypeId} (ht : Tens w0) (n : Int) (h0 : 0 ≤ n) (h1 : n ≤ 999) (hS : Below (w0.heap.size + 1) (w0.alloc (.cells cs t)) w) :
    Calls Tryd.prog 30 #[.int .i64 n] w fun e w' => e = .returned (.string (numB n)) ∧ Below (w0.heap.size + 1) (w0.alloc (.cells cs t)) w' ∧ (∀ i, w'.cell? ⟨w0.heap.size, i, none⟩ = cs[i]?) := by
  have hw : Below w0.heap.size w0 w := (below1 _ _).trans (hS.mono (by omega))
  refine (Any.strconv_Itoa Tryd.laysItoa n (by omega) (by omega) w (ht.on hw)).mono ?_
  rintro e w' ⟨rfl, k, os, rfl⟩
  have hb := box_on hS (Lib.below_grow w.heap.size w (Nat.le_refl _) k os) (by have := hS.size; simpa using this)
  refine ⟨?_, hb, boxcells hb⟩
  unfold Lib.itoa numB numL
  rw [if_neg (by omega)]
end Go.Proofs.YtmiefdjbhcpnbaaDoor

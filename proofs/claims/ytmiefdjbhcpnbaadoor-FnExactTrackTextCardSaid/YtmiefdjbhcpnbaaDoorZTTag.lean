/- Several texts, one behind the other: M60. -/
import Derived.Test.YtmiefdjbhcpnbaaDoorZTTac

namespace Go.Proofs.YtmiefdjbhcpnbaaDoor

/-- The list has this number. -/
def hasB (xs : List Int) (x : Int) : Bool := xs.contains x
theorem hasB_nil (x : Int) : hasB [] x = false := rfl
theorem hasB_cons (y : Int) (t : List Int) (x : Int) : hasB (y :: t) x = (x == y || hasB t x) := List.contains_cons
theorem hasB_app (s t : List Int) (x : Int) : hasB (s ++ t) x = (hasB s x || hasB t x) := List.contains_append
theorem hasB_iff {xs : List Int} {x : Int} : hasB xs x = true ↔ x ∈ xs := List.contains_iff_mem
/-- All numbers are in lo..hi. -/
def allB (lo hi : Int) : List Int → Bool
  | [] => true
  | x :: t => inB x lo hi && allB lo hi t
theorem allB_cons (lo hi x : Int) (t : List Int) : allB lo hi (x :: t) = (inB x lo hi && allB lo hi t) := rfl
theorem allB_iff {lo hi : Int} : ∀ {l : List Int}, allB lo hi l = true ↔ ∀ x ∈ l, lo ≤ x ∧ x ≤ hi
  | [] => by simp [allB]
  | x :: t => by simp [allB, inB_iff, allB_iff]
/-- The squares rise, each in 0..hi; p: the one before. -/
def riseB (p hi : Int) : List Int → Bool
  | [] => true
  | x :: t => decide (p < x) && inB x 0 hi && riseB x hi t
/-- No number comes twice; seen: those before. -/
def freshB (seen : List Int) : List Int → Bool
  | [] => true
  | x :: t => !(hasB seen x) && freshB (seen ++ [x]) t
def startsB (hi : Int) (seen : List Int) : List Int → Bool
  | [] => true
  | x :: t => inB x 0 hi && !(hasB seen x) && startsB hi (seen ++ [x]) t
theorem startsB_eq (hi : Int) : ∀ (l seen : List Int), startsB hi seen l = (allB 0 hi l && freshB seen l)
  | [], _ => rfl
  | x :: t, seen => by
    rw [startsB, freshB, allB, startsB_eq hi t]
    cases inB x 0 hi <;> cases hasB seen x <;> cases allB 0 hi t <;> cases freshB (seen ++ [x]) t <;> rfl
theorem startsB_drop {hi : Int} {st : List Int} {k : Nat} (h : k < st.length) : startsB hi (st.take k) (st.drop k) = (inB st[k] 0 hi && !(hasB (st.take k) st[k]) && startsB hi (st.take (k + 1)) (st.drop (k + 1))) := by
  rw [List.drop_eq_getElem_cons h, startsB, List.take_succ_eq_append_getElem h]
theorem freshB_drop {st : List Int} {k : Nat} (h : k < st.length) : freshB (st.take k) (st.drop k) = (!(hasB (st.take k) st[k]) && freshB (st.take (k + 1)) (st.drop (k + 1))) := by
  rw [List.drop_eq_getElem_cons h, freshB, List.take_succ_eq_append_getElem h]
/-- The one before the k-th. -/
def lastI (xs : List Int) (k : Nat) : Int := if k = 0 then -1 else xs[k - 1]?.getD 0
theorem riseB_drop {hi : Int} {xs : List Int} {k : Nat} (h : k < xs.length) : riseB (lastI xs k) hi (xs.drop k) = (decide (lastI xs k < xs[k]) && inB xs[k] 0 hi && riseB (lastI xs (k + 1)) hi (xs.drop (k + 1))) := by
  rw [List.drop_eq_getElem_cons h, riseB, show lastI xs (k + 1) = xs[k] by simp [lastI, List.getElem?_eq_getElem h]]
theorem lastI_pos {xs : List Int} {k : Nat} (h0 : 0 < k) (h : k < xs.length) : lastI xs k = xs[k - 1] := by
  simp [lastI, show ¬ k = 0 by omega, List.getElem?_eq_getElem (show k - 1 < xs.length by omega)]
theorem riseB_len {hi : Int} : ∀ (xs : List Int) (p : Int), riseB p hi xs = true → p ≤ hi → (xs.length : Int) ≤ hi - p
  | [], p, _, h => by simp; omega
  | x :: t, p, h, _ => by
    simp only [riseB, Bool.and_eq_true, decide_eq_true_eq, inB_iff] at h
    have := riseB_len t x h.2 h.1.2.2
    simp
    omega
theorem riseB_all {hi : Int} : ∀ (xs : List Int) (p : Int), riseB p hi xs = true → ∀ x ∈ xs, 0 ≤ x ∧ x ≤ hi
  | [], _, _, x, hx => by simp at hx
  | y :: t, p, h, x, hx => by
    simp only [riseB, Bool.and_eq_true, decide_eq_true_eq, inB_iff] at h
    rcases List.mem_cons.1 hx with rfl | hx
    · exact h.1.2
    · exact riseB_all t y h.2 x hx

/-- The sizes of a track. -/
def trkSizes (q f k : Int) (n : Nat) : Bool := inB q 4 60 && inB f 1 8 && inB k 1 4 && inB (n : Int) 2 4
/-- There is such a track. -/
def trkOk (q f k : Int) (st sf : List Int) : Bool := trkSizes q f k st.length && startsB (q - 1) [] st && riseB (-1) (q - 1) sf
theorem trkSizes_iff {q f k : Int} {n : Nat} : trkSizes q f k n = true ↔ (4 ≤ q ∧ q ≤ 60) ∧ (1 ≤ f ∧ f ≤ 8) ∧ (1 ≤ k ∧ k ≤ 4) ∧ 2 ≤ n ∧ n ≤ 4 := by
  simp only [trkSizes, Bool.and_eq_true, inB_iff, and_assoc]; omega
theorem startsB_all {hi : Int} {l seen : List Int} (h : startsB hi seen l = true) : ∀ x ∈ l, 0 ≤ x ∧ x ≤ hi := by
  rw [startsB_eq, Bool.and_eq_true, allB_iff] at h
  exact h.1

/-- What a track that there is gives: plain numbers. -/
structure Trk (q f k : Int) (st sf : List Int) : Prop where
  q4 : 4 ≤ q
  q60 : q ≤ 60
  f1 : 1 ≤ f
  f8 : f ≤ 8
  k1 : 1 ≤ k
  k4 : k ≤ 4
  n2 : 2 ≤ st.length
  n4 : st.length ≤ 4
  st0 : ∀ p (h : p < st.length), 0 ≤ st[p] ∧ st[p] < q
  sf0 : ∀ x ∈ sf, 0 ≤ x ∧ x < q
  sfl : sf.length ≤ 60
theorem trk_of {q f k : Int} {st sf : List Int} (h : trkOk q f k st sf = true) : Trk q f k st sf := by
  simp only [trkOk, Bool.and_eq_true] at h
  obtain ⟨⟨h1, h2⟩, h3⟩ := h
  have := trkSizes_iff.1 h1
  refine ⟨this.1.1, this.1.2, this.2.1.1, this.2.1.2, this.2.2.1.1, this.2.2.1.2, this.2.2.2.1, this.2.2.2.2, fun p hp => ?_, fun x hx => ?_, ?_⟩
  · have := startsB_all h2 _ (List.getElem_mem hp); omega
  · have := riseB_all sf _ h3 x hx; omega
  · have := riseB_len sf _ h3 (by omega); omega
/-- Whether a square is safe. -/
def safeB (sf : List Int) (i : Nat) : Bool := hasB sf (i : Int)
theorem safe_step {sf : List Int} {j : Nat} (h : j < sf.length) {x : Nat} (hx : sf[j] = (x : Int)) (i : Nat) : (if i = x then true else safeB (sf.take j) i) = safeB (sf.take (j + 1)) i := by
  rw [safeB, safeB, List.take_succ_eq_append_getElem h, hx, hasB_app]
  by_cases e : i = x
  · subst e; simp [hasB_cons]
  · have e2 : ¬ (i : Int) = (x : Int) := by omega
    simp [e, hasB_cons, hasB_nil, e2]
end Go.Proofs.YtmiefdjbhcpnbaaDoor

namespace Go.Proofs.YtmiefdjbhcpnbaaDoor

/-- The square of a token of player p with x steps; -1: it is on none. -/
def sqr (q : Int) (st : List Int) (p : Nat) (x : Int) : Int := if inB x 0 (q - 1) = true then (st.getD p 0 + x) % q else -1
theorem sqr_in {q : Int} {st : List Int} {p : Nat} {x : Int} (h : inB x 0 (q - 1) = true) : sqr q st p x = (st.getD p 0 + x) % q := if_pos h
theorem sqr_out {q : Int} {st : List Int} {p : Nat} {x : Int} (h : inB x 0 (q - 1) = false) : sqr q st p x = -1 := by rw [sqr, h]; rfl
theorem sqr_lt {q : Int} {st : List Int} {p : Nat} {x : Int} (hq : 0 < q) (h : inB x 0 (q - 1) = true) : 0 ≤ sqr q st p x ∧ sqr q st p x < q := by
  rw [sqr_in h]; exact ⟨Int.emod_nonneg _ (by omega), Int.emod_lt_of_pos _ hq⟩

/-- The tokens of player p with numbers below t that are on. -/
def rowTo (on : Nat → Nat → Bool) (p : Nat) : Nat → List (Int × Int)
  | 0 => []
  | t + 1 => rowTo on p t ++ if on p t then [((p : Int), (t : Int))] else []
/-- Those of the players below p, k tokens each. -/
def pawnsTo (on : Nat → Nat → Bool) (k : Nat) : Nat → List (Int × Int)
  | 0 => []
  | p + 1 => pawnsTo on k p ++ rowTo on p k
theorem rowTo_yes {on : Nat → Nat → Bool} {p t : Nat} (h : on p t = true) : rowTo on p (t + 1) = rowTo on p t ++ [((p : Int), (t : Int))] := by rw [rowTo, h]; rfl
theorem rowTo_no {on : Nat → Nat → Bool} {p t : Nat} (h : on p t = false) : rowTo on p (t + 1) = rowTo on p t := by rw [rowTo, h]; simp
theorem rowTo_len (on : Nat → Nat → Bool) (p : Nat) : ∀ t, (rowTo on p t).length ≤ t
  | 0 => by simp [rowTo]
  | t + 1 => by
    have := rowTo_len on p t
    rw [rowTo, List.length_append]
    split <;> simp <;> omega
theorem pawnsTo_len (on : Nat → Nat → Bool) (k : Nat) : ∀ p, (pawnsTo on k p).length ≤ p * k
  | 0 => by simp [pawnsTo]
  | p + 1 => by
    have := pawnsTo_len on k p
    have h2 := rowTo_len on p k
    rw [pawnsTo, List.length_append, Nat.add_mul]
    omega
theorem rowTo_mem {on : Nat → Nat → Bool} {p : Nat} {a : Int × Int} : ∀ {t : Nat}, a ∈ rowTo on p t ↔ ∃ i, i < t ∧ on p i = true ∧ a = ((p : Int), (i : Int))
  | 0 => by simp [rowTo]
  | t + 1 => by
    rw [rowTo, List.mem_append, rowTo_mem]
    constructor
    · rintro (⟨i, hi, h⟩ | h)
      · exact ⟨i, by omega, h⟩
      · by_cases ho : on p t = true
        · rw [if_pos ho] at h
          exact ⟨t, by omega, ho, by simpa using h⟩
        · rw [if_neg ho] at h; simp at h
    · rintro ⟨i, hi, ho, e⟩
      rcases Nat.lt_or_ge i t with h | h
      · exact .inl ⟨i, h, ho, e⟩
      · obtain rfl : i = t := by omega
        exact .inr (by rw [if_pos ho]; simp [e])
theorem pawnsTo_mem {on : Nat → Nat → Bool} {k : Nat} {a : Int × Int} : ∀ {n : Nat}, a ∈ pawnsTo on k n ↔ ∃ p t, p < n ∧ t < k ∧ on p t = true ∧ a = ((p : Int), (t : Int))
  | 0 => by simp [pawnsTo]
  | n + 1 => by
    rw [pawnsTo, List.mem_append, pawnsTo_mem, rowTo_mem]
    constructor
    · rintro (⟨p, t, hp, h⟩ | ⟨t, ht, ho, e⟩)
      · exact ⟨p, t, by omega, h⟩
      · exact ⟨n, t, by omega, ht, ho, e⟩
    · rintro ⟨p, t, hp, ht, ho, e⟩
      rcases Nat.lt_or_ge p n with h | h
      · exact .inl ⟨p, t, h, ht, ho, e⟩
      · obtain rfl : p = n := by omega
        exact .inr ⟨t, ht, ho, e⟩
theorem rowTo_congr {on on' : Nat → Nat → Bool} {p : Nat} : ∀ {t : Nat}, (∀ i < t, on p i = on' p i) → rowTo on p t = rowTo on' p t
  | 0, _ => rfl
  | t + 1, h => by rw [rowTo, rowTo, rowTo_congr (fun i hi => h i (by omega)), h t (by omega)]
theorem pawnsTo_congr {on on' : Nat → Nat → Bool} {k : Nat} : ∀ {n : Nat}, (∀ p < n, ∀ t < k, on p t = on' p t) → pawnsTo on k n = pawnsTo on' k n
  | 0, _ => rfl
  | n + 1, h => by rw [pawnsTo, pawnsTo, pawnsTo_congr (fun p hp => h p (by omega)), rowTo_congr (fun t ht => h n (by omega) t ht)]

/-- Whether a token is on the square s. -/
def onS (q : Int) (st : List Int) (F : Nat → Nat → Int) (s : Int) (p t : Nat) : Bool := sqr q st p (F p t) == s
theorem onS_congr {q : Int} {st : List Int} {F G : Nat → Nat → Int} {s : Int} {p t : Nat} (h : F p t = G p t) : onS q st F s p t = onS q st G s p t := by rw [onS, onS, h]
/-- The tokens on a square, ordered. -/
def pawnsL (q k : Int) (st : List Int) (F : Nat → Nat → Int) (s : Int) : List (Int × Int) := pawnsTo (onS q st F s) k.toNat st.length
theorem pawnsL_len {q k : Int} {st : List Int} {F : Nat → Nat → Int} {s : Int} (hn : st.length ≤ 4) (hk : k ≤ 4) : (pawnsL q k st F s).length ≤ 16 := by
  have h := pawnsTo_len (onS q st F s) k.toNat st.length
  have h2 : st.length * k.toNat ≤ 4 * 4 := Nat.mul_le_mul hn (by omega)
  unfold pawnsL
  omega
theorem pawnsL_mem {q k : Int} {st : List Int} {F : Nat → Nat → Int} {s : Int} {a : Int × Int} : a ∈ pawnsL q k st F s ↔ ∃ p t, p < st.length ∧ t < k.toNat ∧ onS q st F s p t = true ∧ a = ((p : Int), (t : Int)) := pawnsTo_mem
theorem pawnsL_congr {q k : Int} {st : List Int} {F G : Nat → Nat → Int} {s : Int} (h : ∀ p < st.length, ∀ t < k.toNat, F p t = G p t) : pawnsL q k st F s = pawnsL q k st G s :=
  pawnsTo_congr fun p hp t ht => onS_congr (h p hp t ht)
/-- Those that a token of player p sends home from there. -/
def sentL (S : Bool) (P : List (Int × Int)) (p : Int) : List (Int × Int) := if S = true then [] else P.filter (fun a => !(a.1 == p))
theorem sentL_safe {P : List (Int × Int)} {p : Int} : sentL true P p = [] := rfl
theorem sentL_not {P : List (Int × Int)} {p : Int} : sentL false P p = P.filter (fun a => !(a.1 == p)) := rfl
theorem sentL_len (S : Bool) (P : List (Int × Int)) (p : Int) : (sentL S P p).length ≤ P.length := by
  cases S
  · exact List.length_filter_le _ _
  · simp [sentL]
/-- On a square are tokens of one player, or it is safe. -/
def okSq (S : Bool) (P : List (Int × Int)) : Bool := S || P.all (fun a => a.1 == (P.headD (0, 0)).1)
theorem okSq_head {S : Bool} {P : List (Int × Int)} {i : Nat} (hi : i < P.length) (hS : S = false) (h : ¬ P[i].1 = (P.headD (0, 0)).1) : okSq S P = false := by
  subst hS
  cases hb : okSq false P
  · rfl
  · simp only [okSq, Bool.false_or, List.all_eq_true] at hb
    have := hb _ (List.getElem_mem hi)
    simp at this
    exact absurd (by simpa using this) h
theorem okSq_all {S : Bool} {P : List (Int × Int)} (h : ∀ i (hi : i < P.length), P[i].1 = (P.headD (0, 0)).1 ∨ S = true) : okSq S P = true := by
  cases S
  · simp only [okSq, Bool.false_or, List.all_eq_true]
    intro a ha
    obtain ⟨i, hi, rfl⟩ := List.mem_iff_getElem.1 ha
    simpa using h i hi
  · rfl
theorem okSq_sent {S : Bool} {P : List (Int × Int)} {i : Nat} (hi : i < P.length) (h : 0 < (sentL S P P[i].1).length) : okSq S P = false := by
  cases S
  · obtain ⟨b, hb⟩ := List.exists_mem_of_length_pos h
    rw [sentL_not, List.mem_filter] at hb
    cases ho : okSq false P
    · rfl
    · simp only [okSq, Bool.false_or, List.all_eq_true] at ho
      have h1 := ho _ hb.1
      have h2 := ho _ (List.getElem_mem hi)
      simp only [beq_iff_eq] at h1 h2
      have h3 := hb.2
      rw [h1, h2] at h3
      simp at h3
  · simp [sentL] at h
theorem okSq_none {S : Bool} {P : List (Int × Int)} (h : ∀ i (hi : i < P.length), (sentL S P P[i].1).length = 0) : okSq S P = true := by
  refine okSq_all fun i hi => ?_
  cases S
  · left
    have h0 : 0 < P.length := by omega
    have hh : (P.headD (0, 0)) = P[0] := by
      match P, h0 with
      | a :: t, _ => rfl
    have h1 := List.length_eq_zero_iff.1 (h 0 h0)
    rw [sentL_not, List.filter_eq_nil_iff] at h1
    have := h1 _ (List.getElem_mem hi)
    rw [hh]
    simpa using this
  · exact .inr rfl
/-- All squares are in peace. -/
def peaceB (q k : Int) (st sf : List Int) (F : Nat → Nat → Int) : Bool := (List.range q.toNat).all (fun s => okSq (safeB sf s) (pawnsL q k st F s))
theorem peace_no {q k : Int} {st sf : List Int} {F : Nat → Nat → Int} {s : Nat} (hs : (s : Int) < q) (h : okSq (safeB sf s) (pawnsL q k st F s) = false) : peaceB q k st sf F = false := by
  cases hb : peaceB q k st sf F
  · rfl
  · simp only [peaceB, List.all_eq_true] at hb
    have := hb s (by simp; omega)
    rw [h] at this
    cases this
theorem peace_yes {q k : Int} {st sf : List Int} {F : Nat → Nat → Int} (h : ∀ s : Nat, (s : Int) < q → okSq (safeB sf s) (pawnsL q k st F s) = true) : peaceB q k st sf F = true := by
  simp only [peaceB, List.all_eq_true]
  intro s hs
  simp at hs
  exact h s (by omega)
theorem peace_congr {q k : Int} {st sf : List Int} {F G : Nat → Nat → Int} (h : ∀ p < st.length, ∀ t < k.toNat, F p t = G p t) : peaceB q k st sf F = peaceB q k st sf G := by
  unfold peaceB
  simp only [pawnsL_congr h]

/-- The rows of a state. -/
def rowsB (q k : Int) : List (List Int) → Bool
  | [] => true
  | r :: t => ((r.length : Int) == k) && allB (-1) q r && rowsB q k t
theorem rowsB_drop {q k : Int} {L : List (List Int)} {j : Nat} (h : j < L.length) : rowsB q k (L.drop j) = (((L[j].length : Int) == k) && allB (-1) q L[j] && rowsB q k (L.drop (j + 1))) := by
  rw [List.drop_eq_getElem_cons h, rowsB]
theorem rowsB_at {q k : Int} : ∀ {L : List (List Int)}, rowsB q k L = true → ∀ r ∈ L, (r.length : Int) = k ∧ ∀ x ∈ r, -1 ≤ x ∧ x ≤ q
  | [], _, r, hr => by simp at hr
  | a :: t, h, r, hr => by
    simp only [rowsB, Bool.and_eq_true, allB_iff] at h
    rcases List.mem_cons.1 hr with rfl | hr
    · exact ⟨by simpa using h.1.1, h.1.2⟩
    · exact rowsB_at h.2 r hr
/-- The steps of a state; where there is no player or token, those of a token that is done. -/
def stF (q : Int) (L : List (List Int)) (p t : Nat) : Int := if h : p < L.length then (if h2 : t < L[p].length then L[p][t] else q) else q
theorem stF_at {q : Int} {L : List (List Int)} {p t : Nat} (h : p < L.length) (h2 : t < L[p].length) : stF q L p t = L[p][t] := by simp [stF, h, h2]
/-- There is such a state. -/
def stateB (q k : Int) (st sf : List Int) (L : List (List Int)) : Bool := (L.length == st.length) && rowsB q k L && peaceB q k st sf (stF q L)
structure Sta (q k : Int) (n : Nat) (L : List (List Int)) : Prop where
  len : L.length = n
  row : ∀ p (h : p < L.length), (L[p].length : Int) = k
  val : ∀ p (h : p < L.length) t (h2 : t < L[p].length), -1 ≤ L[p][t] ∧ L[p][t] ≤ q
theorem sta_of {q k : Int} {n : Nat} {L : List (List Int)} (h1 : L.length = n) (h2 : rowsB q k L = true) : Sta q k n L :=
  ⟨h1, fun _ h => (rowsB_at h2 _ (List.getElem_mem h)).1, fun _ h _ ht => (rowsB_at h2 _ (List.getElem_mem h)).2 _ (List.getElem_mem ht)⟩
theorem stF_bd {q k : Int} {n : Nat} {L : List (List Int)} (h : Sta q k n L) (hq : -1 ≤ q) (p t : Nat) : -1 ≤ stF q L p t ∧ stF q L p t ≤ q := by
  unfold stF
  split
  · split
    · exact h.val _ _ _ _
    · omega
  · omega
end Go.Proofs.YtmiefdjbhcpnbaaDoor

namespace Go.Proofs.YtmiefdjbhcpnbaaDoor

/-- A token with x steps can go by a face. -/
def canB (q f x face : Int) : Bool := if x < 0 then face == f else decide (x < q) && decide (x + face ≤ q)
/-- Its steps then. -/
def newX (x face : Int) : Int := if x < 0 then 0 else x + face
theorem newX_ne {x face : Int} (h1 : 1 ≤ face) : newX x face ≠ x := by unfold newX; split <;> omega
theorem newX_bd {q f x face : Int} (hq : 0 ≤ q) (h1 : 1 ≤ face) (h : canB q f x face = true) : 0 ≤ newX x face ∧ newX x face ≤ q := by
  unfold newX
  unfold canB at h
  by_cases hx : x < 0
  · rw [if_pos hx]; omega
  · rw [if_neg hx] at h ⊢
    simp at h
    omega
/-- Some tokens are at home. -/
def homeF (F : Nat → Nat → Int) (P : List (Int × Int)) (a b : Nat) : Int := if P.any (fun c => c.1 == (a : Int) && c.2 == (b : Int)) = true then -1 else F a b
theorem homeF_nil (F : Nat → Nat → Int) : homeF F [] = F := rfl
theorem homeF_snoc (F : Nat → Nat → Int) (P : List (Int × Int)) (x y a b : Nat) : homeF F (P ++ [((x : Int), (y : Int))]) a b = if a = x ∧ b = y then -1 else homeF F P a b := by
  unfold homeF
  rw [List.any_append]
  by_cases e : a = x ∧ b = y
  · rw [if_pos e, e.1, e.2]; simp
  · rw [if_neg e]
    have : ([((x : Int), (y : Int))].any (fun c => c.1 == (a : Int) && c.2 == (b : Int))) = false := by
      simp; omega
    rw [this, Bool.or_false]
def updX (F : Nat → Nat → Int) (p t : Nat) (v : Int) : Nat → Nat → Int := fun a b => if a = p ∧ b = t then v else F a b
/-- The tokens that a move sends home. -/
def goL (q k : Int) (st sf : List Int) (F : Nat → Nat → Int) (p t : Nat) (face : Int) : List (Int × Int) :=
  if inB (newX (F p t) face) 0 (q - 1) = true then sentL (safeB sf (sqr q st p (newX (F p t) face)).toNat) (pawnsL q k st (updX F p t (newX (F p t) face)) (sqr q st p (newX (F p t) face))) (p : Int) else []
/-- The steps behind a move. -/
def goF (q k : Int) (st sf : List Int) (F : Nat → Nat → Int) (p t : Nat) (face : Int) : Nat → Nat → Int :=
  homeF (updX F p t (newX (F p t) face)) (goL q k st sf F p t face)
theorem goL_out {q k : Int} {st sf : List Int} {F : Nat → Nat → Int} {p t : Nat} {face : Int} (h : inB (newX (F p t) face) 0 (q - 1) = false) : goL q k st sf F p t face = [] := by rw [goL, h]; rfl
theorem goL_in {q k : Int} {st sf : List Int} {F : Nat → Nat → Int} {p t : Nat} {face : Int} (h : inB (newX (F p t) face) 0 (q - 1) = true) : goL q k st sf F p t face = sentL (safeB sf (sqr q st p (newX (F p t) face)).toNat) (pawnsL q k st (updX F p t (newX (F p t) face)) (sqr q st p (newX (F p t) face))) (p : Int) := by rw [goL, if_pos h]
theorem goL_len {q k : Int} {st sf : List Int} {F : Nat → Nat → Int} {p t : Nat} {face : Int} (hn : st.length ≤ 4) (hk : k ≤ 4) : (goL q k st sf F p t face).length ≤ 16 := by
  cases h : inB (newX (F p t) face) 0 (q - 1)
  · rw [goL_out h]; simp
  · rw [goL_in h]; exact Nat.le_trans (sentL_len _ _ _) (pawnsL_len hn hk)
theorem sentL_mem {S : Bool} {q k : Int} {st : List Int} {F : Nat → Nat → Int} {s p : Int} {a : Int × Int} (h : a ∈ sentL S (pawnsL q k st F s) p) : ∃ x y : Nat, x < st.length ∧ y < k.toNat ∧ a = ((x : Int), (y : Int)) ∧ (x : Int) ≠ p := by
  cases S
  · rw [sentL_not, List.mem_filter] at h
    obtain ⟨x, y, hx, hy, _, e⟩ := pawnsL_mem.1 h.1
    refine ⟨x, y, hx, hy, e, ?_⟩
    have := h.2
    rw [e] at this
    simpa using this
  · simp [sentL] at h
theorem goL_mem {q k : Int} {st sf : List Int} {F : Nat → Nat → Int} {p t : Nat} {face : Int} {a : Int × Int} (hm : a ∈ goL q k st sf F p t face) : ∃ x y : Nat, x < st.length ∧ y < k.toNat ∧ a = ((x : Int), (y : Int)) ∧ (x : Int) ≠ (p : Int) := by
  cases hb : inB (newX (F p t) face) 0 (q - 1)
  · rw [goL_out hb] at hm; simp at hm
  · rw [goL_in hb] at hm
    exact sentL_mem hm
theorem goL_at {q k : Int} {st sf : List Int} {F : Nat → Nat → Int} {p t : Nat} {face : Int} {i : Nat} (h : i < (goL q k st sf F p t face).length) : ∃ x y : Nat, x < st.length ∧ y < k.toNat ∧ (goL q k st sf F p t face)[i] = ((x : Int), (y : Int)) ∧ (x : Int) ≠ (p : Int) := goL_mem (List.getElem_mem h)
end Go.Proofs.YtmiefdjbhcpnbaaDoor

namespace Go.Proofs.YtmiefdjbhcpnbaaDoor

def upL (L : List (List Int)) (p t : Nat) (y : Int) : List (List Int) := L.set p ((L.getD p []).set t y)
section
variable {L : List (List Int)} {p t : Nat} {y q k : Int} {n : Nat}
theorem upL_len : (upL L p t y).length = L.length := by simp [upL]
theorem upL_at {z : Nat} (hz : z < L.length) (hz' : z < (upL L p t y).length) : (upL L p t y)[z] = if p = z then L[z].set t y else L[z] := by
  have h2 : z < (L.set p ((L.getD p []).set t y)).length := hz'
  have e0 : (upL L p t y)[z] = (L.set p ((L.getD p []).set t y))[z]'h2 := rfl
  refine e0.trans ?_
  rw [List.getElem_set]
  split
  · rename_i e
    subst e
    rw [List.getD_eq_getElem?_getD, List.getElem?_eq_getElem hz]
    rfl
  · rfl
theorem upL_row {z : Nat} (hz : z < L.length) (hz' : z < (upL L p t y).length) : (upL L p t y)[z].length = L[z].length := by
  rw [upL_at hz hz']
  split <;> simp
theorem upL_val {z b : Nat} (hz : z < L.length) (hz' : z < (upL L p t y).length) (hb : b < L[z].length) (hb' : b < (upL L p t y)[z].length) : (upL L p t y)[z][b] = if z = p ∧ b = t then y else L[z][b] := by
  have h : (upL L p t y)[z][b]? = (if p = z then L[z].set t y else L[z])[b]? := by rw [upL_at hz hz']
  rw [List.getElem?_eq_getElem hb'] at h
  by_cases e : p = z
  · rw [if_pos e, List.getElem?_set] at h
    by_cases e2 : t = b
    · rw [if_pos e2, if_pos (by omega)] at h
      rw [if_pos ⟨e.symm, e2.symm⟩]
      injection h
    · rw [if_neg e2, List.getElem?_eq_getElem hb] at h
      rw [if_neg (by omega)]
      injection h
  · rw [if_neg e, List.getElem?_eq_getElem hb] at h
    rw [if_neg (by omega)]
    injection h
theorem stF_upL (hp : p < L.length) (ht : t < L[p].length) : stF q (upL L p t y) = updX (stF q L) p t y := by
  funext a b
  unfold updX
  by_cases ha : a < L.length
  · have ha' : a < (upL L p t y).length := by rw [upL_len]; exact ha
    by_cases hb : b < L[a].length
    · have hb' : b < (upL L p t y)[a].length := by rw [upL_row ha]; exact hb
      rw [stF_at ha' hb', upL_val ha ha' hb hb', stF_at ha hb]
    · have hb' : ¬ b < (upL L p t y)[a].length := by rw [upL_row ha]; exact hb
      rw [if_neg (by rintro ⟨rfl, rfl⟩; exact hb ht)]
      simp only [stF, ha, ha', hb, hb', dif_pos, dif_neg, not_false_eq_true]
  · have ha' : ¬ a < (upL L p t y).length := by rw [upL_len]; exact ha
    rw [if_neg (by omega)]
    simp only [stF, ha, ha', dif_neg, not_false_eq_true]
theorem sta_upL (h : Sta q k n L) (hy : -1 ≤ y ∧ y ≤ q) : Sta q k n (upL L p t y) := by
  refine ⟨by rw [upL_len]; exact h.len, fun z hz => ?_, fun z hz b hb => ?_⟩
  · rw [upL_row (by rw [upL_len] at hz; exact hz)]
    exact h.row z (by rw [upL_len] at hz; exact hz)
  · have hz' : z < L.length := by rw [upL_len] at hz; exact hz
    have hb' : b < L[z].length := by rw [upL_row hz'] at hb; exact hb
    rw [upL_val hz' hz hb' hb]
    split
    · exact hy
    · exact h.val z hz' b hb'
end
/-- The first tokens of a list that are another player's. -/
def othL (P : List (Int × Int)) (p : Int) : List (Int × Int) := P.filter (fun a => !(a.1 == p))
theorem othL_yes {P : List (Int × Int)} {p : Int} {j : Nat} (h : j < P.length) (e : (P[j].1 == p) = false) : othL (P.take (j + 1)) p = othL (P.take j) p ++ [P[j]] := by
  unfold othL
  rw [List.take_succ_eq_append_getElem h, List.filter_append]
  simp [e]
theorem othL_no {P : List (Int × Int)} {p : Int} {j : Nat} (h : j < P.length) (e : (P[j].1 == p) = true) : othL (P.take (j + 1)) p = othL (P.take j) p := by
  unfold othL
  rw [List.take_succ_eq_append_getElem h, List.filter_append]
  simp [e]
end Go.Proofs.YtmiefdjbhcpnbaaDoor

/- Several texts, one behind the other: M1 WMap. -/
import Derived.Below
import Derived.Maps.Own
import Derived.Maps.OwnOps
import Derived.Maps.OwnSet
import Derived.Deep.Draws
import Derived.Test.YtnohpclaccaijabZdaa

namespace Go.Proofs.Ytnohpclaccaijab

structure Bd where
  sq : Int
  fa : Int
  ov : Int
  js : List (Int × Int)

def inB (n lo hi : Int) : Bool := decide (lo ≤ n) && decide (n ≤ hi)
theorem inB_iff {n lo hi : Int} : inB n lo hi = true ↔ lo ≤ n ∧ n ≤ hi := by simp [inB]
theorem inB_false {n lo hi : Int} : inB n lo hi = false ↔ n < lo ∨ hi < n := by simp [inB]; omega

def jumpOf (js : List (Int × Int)) (sq : Int) : Int :=
  match js with
  | [] => sq
  | j :: t => if j.1 = sq then j.2 else jumpOf t sq
theorem jumpOf_drop (js : List (Int × Int)) (sq : Int) (k : Nat) (hk : k < js.length) : jumpOf (js.drop k) sq = if js[k].1 = sq then js[k].2 else jumpOf (js.drop (k+1)) sq := by
  rw [List.drop_eq_getElem_cons hk]; rfl

/-- The sizes of a board. -/
def sizes (b : Bd) : Bool := inB b.sq 1 100 && inB b.fa 1 8 && inB b.ov 0 2 && decide (b.js.length ≤ 20)
def okJump (s : Int) (j : Int × Int) : Bool := inB j.1 1 (s - 1) && inB j.2 0 s && !(j.1 == j.2)
/-- The jumps are ordered; p: the From before. -/
def chainB (p : Int) : List (Int × Int) → Bool
  | [] => true
  | j :: t => decide (p < j.1) && chainB j.1 t
/-- All jumps have their ends on the board and are ordered; p: the From before. -/
def jumpsOk (s p : Int) : List (Int × Int) → Bool
  | [] => true
  | j :: t => inB j.1 1 (s - 1) && inB j.2 0 s && !(j.1 == j.2) && decide (p < j.1) && jumpsOk s j.1 t
def prevFrom (js : List (Int × Int)) (k : Nat) : Int := if k = 0 then 0 else (js[k - 1]?.getD (0, 0)).1
def good (b : Bd) : Bool := sizes b && jumpsOk b.sq 0 b.js && b.js.all (fun j => jumpOf b.js j.2 == j.2)

theorem jumpsOk_eq (s : Int) : ∀ (js : List (Int × Int)) (p : Int), jumpsOk s p js = (js.all (okJump s) && chainB p js)
  | [], _ => rfl
  | j :: t, p => by
    rw [jumpsOk, jumpsOk_eq s t j.1, List.all_cons, chainB, okJump]
    cases inB j.1 1 (s - 1) <;> cases inB j.2 0 s <;> cases (j.1 == j.2) <;> cases (decide (p < j.1)) <;> cases (t.all (okJump s)) <;> rfl
theorem chainB_lt : ∀ (js : List (Int × Int)) (p : Int), chainB p js = true → ∀ j ∈ js, p < j.1
  | [], _, _, j, hj => by simp at hj
  | i :: t, p, h, j, hj => by
    simp only [chainB, Bool.and_eq_true, decide_eq_true_eq] at h
    rcases List.mem_cons.1 hj with rfl | hj
    · exact h.1
    · have := chainB_lt t i.1 h.2 j hj; omega

/-- Jumps as a map from From to To, a later one before an earlier one. -/
def updF (f : Int → Option Int) (x y : Int) : Int → Option Int := fun z => if z = x then some y else f z
def jfrom (js : List (Int × Int)) : Int → Option Int := js.foldl (fun f j => updF f j.1 j.2) (fun _ => none)
theorem jfrom_snoc (js : List (Int × Int)) (k : Nat) (hk : k < js.length) : jfrom (js.take (k + 1)) = updF (jfrom (js.take k)) js[k].1 js[k].2 := by
  rw [List.take_succ_eq_append_getElem hk, jfrom, List.foldl_append]; rfl
theorem jfrom_some_aux (x : Int) : ∀ (js : List (Int × Int)) (f : Int → Option Int), ((js.foldl (fun f j => updF f j.1 j.2) f) x).isSome = ((f x).isSome || js.any (fun j => j.1 == x))
  | [], f => by simp
  | j :: t, f => by
    rw [List.foldl_cons, jfrom_some_aux x t, List.any_cons, updF]
    by_cases h : x = j.1
    · subst h; simp
    · have h' : (j.1 == x) = false := by simpa using fun e => h e.symm
      simp [h, h']
theorem jfrom_some (js : List (Int × Int)) (x : Int) : (jfrom js x).isSome = js.any (fun j => j.1 == x) := by
  rw [jfrom, jfrom_some_aux]; simp

/-- What the program asks of the jumps. -/
def implOk (s : Int) (F : Int → Option Int) (p : Int) : List (Int × Int) → Bool
  | [] => true
  | j :: t => decide (p < j.1) && decide (j.1 < s) && inB j.2 0 s && !(F j.2).isSome && implOk s F j.1 t
theorem implOk_eq (s : Int) (F : Int → Option Int) : ∀ (js : List (Int × Int)) (p : Int), implOk s F p js = (js.all (fun j => decide (j.1 < s) && inB j.2 0 s && !(F j.2).isSome) && chainB p js)
  | [], _ => rfl
  | j :: t, p => by
    rw [implOk, implOk_eq s F t j.1, List.all_cons, chainB]
    cases decide (j.1 < s) <;> cases inB j.2 0 s <;> cases (F j.2).isSome <;> cases (decide (p < j.1)) <;> cases (t.all (fun j => decide (j.1 < s) && inB j.2 0 s && !(F j.2).isSome)) <;> rfl
theorem jumpOf_none : ∀ (js : List (Int × Int)) (x : Int), (∀ j ∈ js, j.1 ≠ x) → jumpOf js x = x
  | [], _, _ => rfl
  | j :: t, x, h => by
    rw [jumpOf, if_neg (h j (by simp)), jumpOf_none t x fun i hi => h i (by simp [hi])]
theorem jumpOf_hit : ∀ (js : List (Int × Int)) (x : Int), (∃ j ∈ js, j.1 = x) → ∃ j ∈ js, j.1 = x ∧ jumpOf js x = j.2
  | [], _, h => by obtain ⟨j, hj, _⟩ := h; simp at hj
  | i :: t, x, h => by
    by_cases hi : i.1 = x
    · exact ⟨i, by simp, hi, by rw [jumpOf, if_pos hi]⟩
    · obtain ⟨j, hj, e⟩ := h
      rcases List.mem_cons.1 hj with rfl | hj
      · exact absurd e hi
      · obtain ⟨j', hj', e', r⟩ := jumpOf_hit t x ⟨j, hj, e⟩
        exact ⟨j', by simp [hj'], e', by rw [jumpOf, if_neg hi, r]⟩
theorem sizes_iff {s f o : Int} {js : List (Int × Int)} : sizes ⟨s, f, o, js⟩ = true ↔ (1 ≤ s ∧ s ≤ 100) ∧ (1 ≤ f ∧ f ≤ 8) ∧ (0 ≤ o ∧ o ≤ 2) ∧ js.length ≤ 20 := by
  simp [sizes, inB_iff, and_assoc]
theorem good_bad {s f o : Int} {js : List (Int × Int)} (h : ¬ ((1 ≤ s ∧ s ≤ 100) ∧ (1 ≤ f ∧ f ≤ 8) ∧ (0 ≤ o ∧ o ≤ 2) ∧ js.length ≤ 20)) : good ⟨s, f, o, js⟩ = false := by
  have : sizes ⟨s, f, o, js⟩ = false := by rw [← Bool.not_eq_true, sizes_iff]; exact h
  rw [good, this]; rfl
theorem good_sizes {s f o : Int} {js : List (Int × Int)} (h : good ⟨s, f, o, js⟩ = true) : (1 ≤ s ∧ s ≤ 100) ∧ (1 ≤ f ∧ f ≤ 8) ∧ (0 ≤ o ∧ o ≤ 2) ∧ js.length ≤ 20 := by
  rw [good, Bool.and_eq_true, Bool.and_eq_true] at h
  exact sizes_iff.1 h.1.1
theorem good_impl (b : Bd) : (sizes b && implOk b.sq (jfrom b.js) 0 b.js) = good b := by
  rw [good, implOk_eq, jumpsOk_eq, Bool.eq_iff_iff]
  simp only [Bool.and_eq_true, List.all_eq_true, okJump, decide_eq_true_eq, inB_iff, Bool.not_eq_true', beq_eq_false_iff_ne, ne_eq, beq_iff_eq]
  constructor
  · rintro ⟨hs, hall, hc⟩
    have hnone : ∀ j ∈ b.js, ∀ i ∈ b.js, i.1 ≠ j.2 := fun j hj i hi e => by
      have h1 := (hall j hj).2
      rw [jfrom_some, ← Bool.not_eq_true, List.any_eq_true] at h1
      exact h1 ⟨i, hi, by simpa using e⟩
    refine ⟨⟨hs, fun j hj => ?_, hc⟩, fun j hj => jumpOf_none _ _ (hnone j hj)⟩
    have h0 := chainB_lt _ _ hc j hj
    obtain ⟨⟨h1, h2⟩, _⟩ := hall j hj
    exact ⟨⟨⟨by omega, by omega⟩, h2⟩, hnone j hj j hj⟩
  · rintro ⟨⟨hs, hall, hc⟩, hto⟩
    refine ⟨hs, fun j hj => ?_, hc⟩
    obtain ⟨⟨⟨h1, h2⟩, h3⟩, h4⟩ := hall j hj
    refine ⟨⟨by omega, h3⟩, ?_⟩
    rw [jfrom_some, ← Bool.not_eq_true, List.any_eq_true]
    rintro ⟨i, hi, e⟩
    obtain ⟨i', hi', e', r⟩ := jumpOf_hit b.js j.2 ⟨i, hi, by simpa using e⟩
    exact (hall i' hi').2 (by rw [e', ← r, hto j hj])
theorem implOk_drop (s : Int) (F : Int → Option Int) (p : Int) (js : List (Int × Int)) (k : Nat) (hk : k < js.length) :
    implOk s F p (js.drop k) = (decide (p < js[k].1) && decide (js[k].1 < s) && inB js[k].2 0 s && !(F js[k].2).isSome && implOk s F js[k].1 (js.drop (k + 1))) := by
  rw [List.drop_eq_getElem_cons hk]; rfl
theorem implOk_bad {s : Int} {F : Int → Option Int} {p : Int} {js : List (Int × Int)} {k : Nat} (hk : k < js.length) (h : ¬ (p < js[k].1 ∧ js[k].1 < s ∧ 0 ≤ js[k].2 ∧ js[k].2 ≤ s) ∨ (F js[k].2).isSome = true) :
    implOk s F p (js.drop k) = false := by
  rw [implOk_drop _ _ _ _ _ hk]
  rcases h with h | h
  · by_cases h1 : p < js[k].1 <;> by_cases h2 : js[k].1 < s <;> by_cases h3 : inB js[k].2 0 s = true <;> simp [h1, h2, h3]
    exact absurd ⟨h1, h2, inB_iff.1 h3⟩ h
  · simp [h]
theorem prevFrom_succ (js : List (Int × Int)) (k : Nat) (hk : k < js.length) : prevFrom js (k + 1) = js[k].1 := by
  simp [prevFrom, List.getElem?_eq_getElem hk]
/-- A token can be on a square. -/
def onSq (s : Int) (js : List (Int × Int)) (sq : Int) : Bool := inB sq 0 s && (jumpOf js sq == sq)
/-- The square behind a throw. -/
def thrown (s o : Int) (js : List (Int × Int)) (sq face : Int) : Int :=
  if sq = s then sq else if sq + face ≤ s then jumpOf js (sq + face) else if o = 0 then sq else if o = 1 then s else if 2 * s - (sq + face) < 0 then sq else jumpOf js (2 * s - (sq + face))

def asked (s f o : Int) (js : List (Int × Int)) (sq : Int) : Bool := good ⟨s, f, o, js⟩ && onSq s js sq
theorem asked_good {s f o : Int} {js : List (Int × Int)} {sq : Int} (h : asked s f o js sq = true) : good ⟨s, f, o, js⟩ = true := by
  simp only [asked, Bool.and_eq_true] at h; exact h.1
theorem asked_on {s f o : Int} {js : List (Int × Int)} {sq : Int} (h : asked s f o js sq = true) : onSq s js sq = true := by
  simp only [asked, Bool.and_eq_true] at h; exact h.2
theorem onSq_in {s : Int} {js : List (Int × Int)} {sq : Int} (h : onSq s js sq = true) : 0 ≤ sq ∧ sq ≤ s := by
  simp only [onSq, Bool.and_eq_true] at h; exact inB_iff.1 h.1
/-- ThrowTo. -/
def throwTo (s f o : Int) (js : List (Int × Int)) (sq face : Int) : Int × Bool :=
  if asked s f o js sq && inB face 1 f then (thrown s o js sq face, true) else (0, false)
/-- Faces that lead from a square to another one, of the first n. -/
def facesTo (s o : Int) (js : List (Int × Int)) (sq to : Int) : Nat → Int
  | 0 => 0
  | n + 1 => facesTo s o js sq to n + if thrown s o js sq (n + 1) = to then 1 else 0

theorem facesTo_le (s o : Int) (js : List (Int × Int)) (sq to : Int) : ∀ n : Nat, 0 ≤ facesTo s o js sq to n ∧ facesTo s o js sq to n ≤ n
  | 0 => by simp [facesTo]
  | n + 1 => by
    have := facesTo_le s o js sq to n
    rw [facesTo]
    split <;> omega
def facesToR (s f o : Int) (js : List (Int × Int)) (sq to : Int) : Int × Bool :=
  if asked s f o js sq && onSq s js to then (facesTo s o js sq to f.toNat, true) else (0, false)

/-- PlainBoard: squares, faces, Over, and whether there is one. -/
def plainR (s f o : Int) : (Int × Int × Int) × Bool := if good ⟨s, f, o, []⟩ then ((s, f, o), true) else ((0, 0, 0), false)

/-- The squares behind the first n faces. -/
def landings (s o : Int) (js : List (Int × Int)) (sq : Int) (n : Nat) : List Int := (List.range n).map (fun (k : Nat) => thrown s o js sq ((k : Int) + 1))
theorem landings_succ (s o : Int) (js : List (Int × Int)) (sq : Int) (n : Nat) : landings s o js sq (n + 1) = landings s o js sq n ++ [thrown s o js sq ((n : Int) + 1)] := by
  simp [landings, List.range_succ]
theorem landings_len (s o : Int) (js : List (Int × Int)) (sq : Int) (n : Nat) : (landings s o js sq n).length = n := by simp [landings]
def landingsR (s f o : Int) (js : List (Int × Int)) (sq : Int) : List Int × Bool := if asked s f o js sq then (landings s o js sq f.toNat, true) else ([], false)
theorem landingsR_len {s f o : Int} {js : List (Int × Int)} {sq : Int} : (landingsR s f o js sq).1.length ≤ 1048576 := by
  unfold landingsR
  by_cases h : asked s f o js sq = true
  · have := good_sizes (asked_good h)
    rw [if_pos h]
    simp only [landings_len]
    omega
  · rw [if_neg h]; simp

/-- A ladder, or a snake, as the model asks. -/
def isLad (lad : Bool) (j : Int × Int) : Bool := decide (j.1 < j.2) == lad
def isSnake (j : Int × Int) : Bool := decide (j.2 < j.1)
def isLadder (j : Int × Int) : Bool := decide (j.1 < j.2)
theorem filter_snoc {α : Type} (p : α → Bool) (l : List α) (k : Nat) (hk : k < l.length) : (l.take (k + 1)).filter p = (l.take k).filter p ++ if p l[k] then [l[k]] else [] := by
  rw [List.take_succ_eq_append_getElem hk, List.filter_append]
  cases h : p l[k] <;> simp [h]
theorem good_ne {s f o : Int} {js : List (Int × Int)} (h : good ⟨s, f, o, js⟩ = true) : ∀ j ∈ js, j.1 ≠ j.2 := by
  rw [good, Bool.and_eq_true, Bool.and_eq_true, jumpsOk_eq, Bool.and_eq_true] at h
  intro j hj
  have := List.all_eq_true.1 h.1.2.1 j hj
  simp only [okJump, Bool.and_eq_true, Bool.not_eq_true', beq_eq_false_iff_ne] at this
  exact this.2
theorem snakes_eq {s f o : Int} {js : List (Int × Int)} (h : good ⟨s, f, o, js⟩ = true) : js.filter isSnake = js.filter (isLad false) := by
  refine List.filter_congr fun j hj => ?_
  have := good_ne h j hj
  simp only [isSnake, isLad]
  rcases Int.lt_trichotomy j.1 j.2 with h1 | h1 | h1
  · simp [h1, show ¬ j.2 < j.1 by omega]
  · exact absurd h1 this
  · simp [h1, show ¬ j.1 < j.2 by omega]
theorem ladders_eq {js : List (Int × Int)} : js.filter isLadder = js.filter (isLad true) := by
  refine List.filter_congr fun j _ => ?_
  simp [isLadder, isLad]
def ladsR (lad : Bool) (s f o : Int) (js : List (Int × Int)) : List (Int × Int) × Bool := if good ⟨s, f, o, js⟩ then (js.filter (isLad lad), true) else ([], false)
theorem ladsR_len {lad : Bool} {s f o : Int} {js : List (Int × Int)} : (ladsR lad s f o js).1.length ≤ 1048576 := by
  unfold ladsR
  by_cases h : good ⟨s, f, o, js⟩ = true
  · have := good_sizes h
    have := List.length_filter_le (isLad lad) js
    rw [if_pos h]
    simp only
    omega
  · rw [if_neg h]; simp

theorem ladsR_sub {lad : Bool} {s f o : Int} {js : List (Int × Int)} : ∀ j ∈ (ladsR lad s f o js).1, j ∈ js := by
  unfold ladsR
  intro j hj
  split at hj
  · exact (List.mem_filter.1 hj).1
  · simp at hj

theorem jfrom_eq_aux (x : Int) : ∀ (js : List (Int × Int)) (p : Int) (f : Int → Option Int), chainB p js = true → (js.foldl (fun f j => updF f j.1 j.2) f) x = if js.any (fun j => j.1 == x) then some (jumpOf js x) else f x
  | [], _, f, _ => by simp
  | j :: t, p, f, h => by
    simp only [chainB, Bool.and_eq_true, decide_eq_true_eq] at h
    rw [List.foldl_cons, jfrom_eq_aux x t j.1 _ h.2, List.any_cons]
    by_cases hx : j.1 = x
    · have ht : t.any (fun j => j.1 == x) = false := by
        rw [← Bool.not_eq_true, List.any_eq_true]
        rintro ⟨i, hi, e⟩
        have := chainB_lt t j.1 h.2 i hi
        have : i.1 = x := by simpa using e
        omega
      simp [ht, updF, hx, jumpOf]
    · have hx' : ¬ x = j.1 := fun e => hx e.symm
      have hb : (j.1 == x) = false := by simpa using hx
      rw [hb, Bool.false_or, jumpOf, if_neg hx, updF, if_neg hx']
theorem jfrom_eq {s f o : Int} {js : List (Int × Int)} (h : good ⟨s, f, o, js⟩ = true) (x : Int) : jfrom js x = if (jfrom js x).isSome then some (jumpOf js x) else none := by
  rw [good, Bool.and_eq_true, Bool.and_eq_true, jumpsOk_eq, Bool.and_eq_true] at h
  have := jfrom_eq_aux x js 0 (fun _ => none) h.1.2.2
  rw [jfrom_some]
  exact this
theorem jfrom_hit {s f o : Int} {js : List (Int × Int)} (h : good ⟨s, f, o, js⟩ = true) {x : Int} (hx : (jfrom js x).isSome = true) : jfrom js x = some (jumpOf js x) := by
  rw [jfrom_eq h, if_pos hx]
theorem jfrom_miss {js : List (Int × Int)} {x : Int} (hx : (jfrom js x).isSome = false) : jumpOf js x = x := by
  rw [jfrom_some, ← Bool.not_eq_true, List.any_eq_true] at hx
  exact jumpOf_none js x fun j hj e => hx ⟨j, hj, by simpa using e⟩
/-- No jump begins at the end. -/
theorem good_end {s f o : Int} {js : List (Int × Int)} (h : good ⟨s, f, o, js⟩ = true) : jumpOf js s = s := by
  rw [good, Bool.and_eq_true, Bool.and_eq_true, jumpsOk_eq, Bool.and_eq_true] at h
  refine jumpOf_none js s fun j hj e => ?_
  have := List.all_eq_true.1 h.1.2.1 j hj
  simp only [okJump, Bool.and_eq_true, inB_iff] at this
  omega
/-- No jump begins where one ends. -/
theorem good_fix {s f o : Int} {js : List (Int × Int)} (h : good ⟨s, f, o, js⟩ = true) (x : Int) : jumpOf js (jumpOf js x) = jumpOf js x := by
  rw [good, Bool.and_eq_true, Bool.and_eq_true] at h
  by_cases hx : ∃ j ∈ js, j.1 = x
  · obtain ⟨j, hj, _, e⟩ := jumpOf_hit js x hx
    rw [e]
    simpa using List.all_eq_true.1 h.2 j hj
  · rw [jumpOf_none js x fun j hj e => hx ⟨j, hj, e⟩, jumpOf_none js x fun j hj e => hx ⟨j, hj, e⟩]
theorem onSq_fix {s : Int} {js : List (Int × Int)} {sq : Int} (h : onSq s js sq = true) : jumpOf js sq = sq := by
  simp only [onSq, Bool.and_eq_true] at h; simpa using h.2
/-- The square that a throw brings a token to, ahead of a jump. -/
def landed (s o sq face : Int) : Int :=
  if sq = s then sq else if sq + face ≤ s then sq + face else if o = 0 then sq else if o = 1 then s else if 2 * s - (sq + face) < 0 then sq else 2 * s - (sq + face)
theorem landed_in {s o sq face : Int} (h0 : 0 ≤ sq) (h1 : sq ≤ s) (hf : 1 ≤ face) : 0 ≤ landed s o sq face ∧ landed s o sq face ≤ s := by
  unfold landed
  split
  · omega
  · split
    · omega
    · split
      · omega
      · split
        · omega
        · split <;> omega
theorem landed_jump {s o : Int} {js : List (Int × Int)} {sq face : Int} (he : jumpOf js s = s) (hq : jumpOf js sq = sq) : jumpOf js (landed s o sq face) = thrown s o js sq face := by
  unfold landed thrown
  split
  · exact hq
  · split
    · rfl
    · split
      · exact hq
      · split
        · exact he
        · split
          · exact hq
          · rfl
theorem thrown_fix {s f o : Int} {js : List (Int × Int)} (h : good ⟨s, f, o, js⟩ = true) {sq face : Int} (hq : jumpOf js sq = sq) : jumpOf js (thrown s o js sq face) = thrown s o js sq face := by
  rw [← landed_jump (o := o) (face := face) (good_end h) hq]
  exact good_fix h _
theorem jumpOf_in {s f o : Int} {js : List (Int × Int)} (h : good ⟨s, f, o, js⟩ = true) {x : Int} (h0 : 0 ≤ x) (h1 : x ≤ s) : 0 ≤ jumpOf js x ∧ jumpOf js x ≤ s := by
  rw [good, Bool.and_eq_true, Bool.and_eq_true, jumpsOk_eq, Bool.and_eq_true] at h
  by_cases hx : ∃ j ∈ js, j.1 = x
  · obtain ⟨j, hj, _, e⟩ := jumpOf_hit js x hx
    have := List.all_eq_true.1 h.1.2.1 j hj
    simp only [okJump, Bool.and_eq_true] at this
    rw [e]
    exact inB_iff.1 this.1.2
  · rw [jumpOf_none js x fun j hj e => hx ⟨j, hj, e⟩]
    exact ⟨h0, h1⟩
theorem thrown_in {s f o : Int} {js : List (Int × Int)} (h : good ⟨s, f, o, js⟩ = true) {sq face : Int} (h0 : 0 ≤ sq) (h1 : sq ≤ s) (hf : 1 ≤ face) : 0 ≤ thrown s o js sq face ∧ thrown s o js sq face ≤ s := by
  have hz := good_sizes h
  unfold thrown
  split
  · exact ⟨h0, h1⟩
  · split
    · exact jumpOf_in h (by omega) (by omega)
    · split
      · exact ⟨h0, h1⟩
      · split
        · omega
        · split
          · exact ⟨h0, h1⟩
          · exact jumpOf_in h (by omega) (by omega)
end Go.Proofs.Ytnohpclaccaijab

namespace Go.Proofs.Ytnohpclaccaijab
open Go.RowKit Go.Maps



/-- Block b is a map of at most n entries that reads as f. -/
def IM (P : Program) (K E : TypeId) (w : World) (b n : Nat) (f : Int → Option Int) : Prop :=
  ∃ D : DataW Unit, w.ownsMap P K (plainElem P E) b n D ∧ IsMap D ∧ ∀ x, wfi x = true → Maps.has D (.int .i64 x) = (f x).isSome ∧ ∀ y, f x = some y → D.atKey (.int .i64 x) (.lit (.int .i64 0)) = .lit (.int .i64 y)

section
variable {P : Program} {K E : TypeId} {w w' : World} {b n : Nat} {f : Int → Option Int}
theorem IM.made (P : Program) (K E : TypeId) (w : World) : IM P K E (w.alloc (.map #[] 0)) w.heap.size 0 (fun _ => none) :=
  ⟨.map [], World.ownsMap_made _ _ _ _, isMap_empty, fun x _ => ⟨rfl, fun y h => by cases h⟩⟩
theorem IM.lt (h : IM P K E w b n f) : b < w.heap.size := by obtain ⟨D, h, _⟩ := h; exact h.lt
theorem IM.kept {row : Option Nat} (h : IM P K E w b n f) (hg : w.grownBy w' row) (hne : some b ≠ row) : IM P K E w' b n f := by
  obtain ⟨D, h, r⟩ := h; exact ⟨D, h.kept hg hne, r⟩
theorem IM.alloc (h : IM P K E w b n f) (o : Obj) : IM P K E (w.alloc o) b n f := by
  obtain ⟨D, h, r⟩ := h; exact ⟨D, h.alloc o, r⟩
theorem IM.drew (h : IM P K E w b n f) : IM P K E w.drew b n f := h
theorem IM.drewN (h : IM P K E w b n f) (m : Nat) : IM P K E (w.drewN m) b n f := h
theorem IM.below {B : Nat} (h : IM P K E w b n f) (hb : Below B w w') (hB : b < B) : IM P K E w' b n f := by
  obtain ⟨D, ⟨es, clock, hh, r⟩, r'⟩ := h
  exact ⟨D, ⟨es, clock, (hb.block b hB).trans hh, r⟩, r'⟩
theorem IM.setCell (h : IM P K E w b n f) (p : Addr) (u : Value) (hp : b ≠ p.block) : IM P K E (w.setCell p u) b n f := by
  obtain ⟨D, ⟨es, clock, hh, r⟩, r'⟩ := h
  exact ⟨D, ⟨es, clock, (Below.heap_setCell w p u b hp).trans hh, r⟩, r'⟩

variable {ops : Array Oper} {rest : List Oper} {o : Oper} {a : Act} {Q : Exit → Act → World → Prop}
/-- v, ok := m[k] -/
theorem IM.look (hg : o.guard = none) (m x : Operand) (t : TypeId) (hop : o.op = Op.lookup t m x true)
    (ht : P.underlying t = some (.map K E)) (hK : P.underlying K = some (.int .i64)) (hE : P.underlying E = some (.int .i64)) (hz : (zeroValue E).run P w = .ok (.int .i64 0) w)
    (h : IM P K E w b n f) (v : Int) (hm : a.eval m = .map (some b)) (hx : a.eval x = .int .i64 v) (hv : wfi v = true)
    (hk : wpList P ops Q rest (a.put o.dst (.tuple #[.int .i64 ((f v).getD 0), .bool (f v).isSome])) w) : wpList P ops Q (o :: rest) a w := by
  obtain ⟨D, hown, hD, hf⟩ := h
  refine wpList_lookup_own_ok_int _ hg m x t hop K E .i64 (int_keyed hK) ht hE hz b n D hm hown _ _ hx (keyOf_int_mk hK hv) ?_
  intro c hat hwc
  obtain ⟨h1, h2⟩ := hf v hv
  rw [h1]
  have hc : c = (f v).getD 0 := by
    cases hfv : f v with
    | none =>
      rw [hfv] at h1
      rw [atKey_of_not_has h1] at hat
      injection hat with hat; injection hat with _ hat; exact hat.symm
    | some y =>
      rw [h2 y hfv] at hat
      injection hat with hat; injection hat with _ hat; exact hat.symm
  rw [hc]
  exact hk
/-- m[k] = v -/
theorem IM.store (hg : o.guard = none) (m x v : Operand) (t : TypeId) (hop : o.op = Op.mapUpdate t m x v)
    (ht : P.underlying t = some (.map K E)) (hK : P.underlying K = some (.int .i64)) (hE : P.underlying E = some (.int .i64))
    (h : IM P K E w b n f) (hn : n < maxLen) (kx vx : Int) (hm : a.eval m = .map (some b)) (hx : a.eval x = .int .i64 kx) (hv : a.eval v = .int .i64 vx) (hwk : wfi kx = true) (hwv : wfi vx = true)
    (hk : ∀ w', IM P K E w' b (n + 1) (updF f kx vx) → w.grownBy w' (some b) → wpList P ops Q rest (a.put o.dst undef) w') : wpList P ops Q (o :: rest) a w := by
  obtain ⟨D, hown, hD, hf⟩ := h
  refine wpList_mapUpdate_own _ hg m x v t hop K E (int_keyed hK) ht _ b n D hm hown hn _ _ _ hx hv (keyOf_int_mk hK hwk) _ [] (plainElem_int hE hwv) ?_
  intro w1 hown1 hgrow1
  refine hk w1 ⟨_, hown1, hD.put _ _, fun z hz => ?_⟩ hgrow1
  by_cases he : z = kx
  · subst he
    refine ⟨by rw [has_put_same hD (show WideAt.IsKeyLit (Lit.int .i64 z) from trivial)]; simp [updF], fun y hy => ?_⟩
    simp [updF] at hy
    subst hy
    exact atKey_put_same hD (show WideAt.IsKeyLit (Lit.int .i64 z) from trivial) _ _
  · have hne : Lit.int .i64 z ≠ .int .i64 kx := fun h => he (by injection h)
    rw [has_put_other hne]
    simp only [updF, he, if_false]
    refine ⟨(hf z hz).1, fun y hy => ?_⟩
    rw [atKey_put_other hne]
    exact (hf z hz).2 y hy
end
end Go.Proofs.Ytnohpclaccaijab

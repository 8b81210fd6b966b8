/- Several texts, one behind the other: M40. -/
import Derived.RowKit

namespace Go.Proofs.Ytnohpclaccaijab

/-- all lists of d faces up to f that do not increase, in order -/
def ups : Nat → Nat → List (List Nat)
  | 0, _ => [[]]
  | d + 1, f => (List.range f).flatMap fun a => (ups d (a + 1)).map ((a + 1) :: ·)

theorem ups_zero (f : Nat) : ups 0 f = [[]] := rfl
theorem ups_none (d : Nat) : ups (d + 1) 0 = [] := rfl
theorem ups_succ (d f : Nat) : ups (d + 1) (f + 1) = ups (d + 1) f ++ (ups d (f + 1)).map ((f + 1) :: ·) := by
  show (List.range (f + 1)).flatMap _ = (List.range f).flatMap _ ++ _
  rw [List.range_succ, List.flatMap_append]
  simp

/-- the list behind one, heads up to b -/
def nxl : Nat → List Nat → Option (List Nat)
  | _, [] => none
  | b, a :: r => match nxl a r with
    | some r' => some (a :: r')
    | none => if a < b then some ((a + 1) :: List.replicate r.length 1) else none

theorem nxl_more (b c : Nat) (h : b ≤ c) (x y : List Nat) (hn : nxl b x = some y) : nxl c x = some y := by
  cases x with
  | nil => simp [nxl] at hn
  | cons a r =>
    unfold nxl at hn ⊢
    cases hr : nxl a r with
    | some r' => rw [hr] at hn; exact hn
    | none =>
      rw [hr] at hn
      simp only at hn ⊢
      by_cases hab : a < b
      · rw [if_pos hab] at hn; rw [if_pos (by omega)]; exact hn
      · rw [if_neg hab] at hn; simp at hn
theorem nxl_cons (b a : Nat) (r r' : List Nat) (h : nxl a r = some r') : nxl b (a :: r) = some (a :: r') := by
  unfold nxl; rw [h]
theorem nxl_last (d b : Nat) : nxl b (List.replicate d b) = none := by
  induction d with
  | zero => rfl
  | succ d ih =>
    rw [List.replicate_succ]
    unfold nxl
    rw [ih]
    simp

def Linked (b : Nat) : List (List Nat) → Prop
  | [] => True
  | [_] => True
  | x :: y :: r => nxl b x = some y ∧ Linked b (y :: r)
theorem Linked.more {b c : Nat} (h : b ≤ c) : ∀ l : List (List Nat), Linked b l → Linked c l
  | [], _ => trivial
  | [_], _ => trivial
  | _ :: y :: r, hl => ⟨nxl_more b c h _ _ hl.1, Linked.more h (y :: r) hl.2⟩
theorem Linked.map {a b : Nat} : ∀ l : List (List Nat), Linked a l → Linked b (l.map (a :: ·))
  | [], _ => trivial
  | [_], _ => trivial
  | _ :: y :: r, hl => ⟨nxl_cons b a _ _ hl.1, Linked.map (y :: r) hl.2⟩
theorem Linked.app {b : Nat} : ∀ (l m : List (List Nat)) (x y : List Nat), Linked b l → Linked b m → l.getLast? = some x → m.head? = some y → nxl b x = some y → Linked b (l ++ m)
  | [], _, _, _, _, _, h, _, _ => by simp at h
  | [u], [], _, _, _, _, _, h, _ => by simp at h
  | [u], v :: m, x, y, _, hm, h1, h2, hn => by
    simp at h1 h2; subst h1; subst h2; exact ⟨hn, hm⟩
  | u :: v :: l, m, x, y, hl, hm, h1, h2, hn => by
    refine ⟨hl.1, ?_⟩
    exact Linked.app (v :: l) m x y hl.2 hm (by simpa using h1) h2 hn
theorem Linked.at_ {b : Nat} : ∀ (l m : List (List Nat)) (x y : List Nat), Linked b (l ++ x :: y :: m) → nxl b x = some y
  | [], _, _, _, h => h.1
  | [_], _, _, _, h => h.2.1
  | _ :: v :: l, m, x, y, h => Linked.at_ (v :: l) m x y h.2

theorem ups_ends (d : Nat) : ∀ b : Nat, 1 ≤ b → (ups d b).head? = some (List.replicate d 1) ∧ (ups d b).getLast? = some (List.replicate d b) ∧ Linked b (ups d b) := by
  induction d with
  | zero => intro b _; exact ⟨rfl, rfl, trivial⟩
  | succ d ih =>
    intro b hb
    induction b with
    | zero => omega
    | succ b ihb =>
      obtain ⟨h1, h2, h3⟩ := ih (b + 1) (by omega)
      rw [ups_succ]
      by_cases h0 : b = 0
      · subst h0
        rw [ups_none, List.nil_append]
        refine ⟨by rw [List.head?_map, h1]; rfl, by rw [List.getLast?_map, h2]; rfl, Linked.map _ h3⟩
      · obtain ⟨g1, g2, g3⟩ := ihb (by omega)
        refine ⟨?_, ?_, ?_⟩
        · rw [List.head?_append, g1]; rfl
        · rw [List.getLast?_append, List.getLast?_map, h2]; rfl
        · refine Linked.app _ _ _ _ (Linked.more (by omega) _ g3) (Linked.map _ h3) g2 (by rw [List.head?_map, h1]; rfl) ?_
          rw [List.replicate_succ]
          unfold nxl
          rw [nxl_last]
          simp

theorem ups_pre (d b : Nat) (hb : 1 ≤ b) : ∃ post, ups d b = List.replicate d 1 :: post := by
  obtain ⟨h, _, _⟩ := ups_ends d b hb
  cases hu : ups d b with
  | nil => rw [hu] at h; simp at h
  | cons x l => rw [hu] at h; simp at h; exact ⟨l, by rw [h]⟩

/-- what stands behind one of the lists -/
theorem ups_next (d b : Nat) (hb : 1 ≤ b) (pre post : List (List Nat)) (t : List Nat) (h : ups d b = pre ++ t :: post) :
    (t = List.replicate d b ∧ post = []) ∨ (t ≠ List.replicate d b ∧ ∃ y post', post = y :: post' ∧ nxl b t = some y) := by
  obtain ⟨_, h2, h3⟩ := ups_ends d b hb
  cases post with
  | nil => left; rw [h] at h2; simp at h2; exact ⟨h2, rfl⟩
  | cons y post' =>
    right
    have hn : nxl b t = some y := by rw [h] at h3; exact Linked.at_ pre post' t y h3
    refine ⟨?_, y, post', rfl, hn⟩
    rintro rfl
    rw [nxl_last] at hn
    simp at hn

theorem ups_len (d : Nat) : ∀ (f : Nat) (t : List Nat), t ∈ ups d f → t.length = d := by
  induction d with
  | zero => intro f t h; simp [ups] at h; simp [h]
  | succ d ih =>
    intro f t h
    simp only [ups, List.mem_flatMap, List.mem_map] at h
    obtain ⟨a, _, r, hr, rfl⟩ := h
    simp [ih _ _ hr]
theorem ups_in (d : Nat) : ∀ (f : Nat) (t : List Nat), t ∈ ups d f → ∀ x ∈ t, 1 ≤ x ∧ x ≤ f := by
  induction d with
  | zero => intro f t h; simp [ups] at h; simp [h]
  | succ d ih =>
    intro f t h
    simp only [ups, List.mem_flatMap, List.mem_map, List.mem_range] at h
    obtain ⟨a, ha, r, hr, rfl⟩ := h
    intro x hx
    rcases List.mem_cons.1 hx with rfl | hx
    · omega
    · have := ih _ _ hr x hx; omega
theorem ups_down (d : Nat) : ∀ (f : Nat) (t : List Nat), t ∈ ups d f → t.Pairwise (· ≥ ·) := by
  induction d with
  | zero => intro f t h; simp [ups] at h; simp [h]
  | succ d ih =>
    intro f t h
    simp only [ups, List.mem_flatMap, List.mem_map, List.mem_range] at h
    obtain ⟨a, ha, r, hr, rfl⟩ := h
    exact List.pairwise_cons.2 ⟨fun x hx => (ups_in d _ _ hr x hx).2, ih _ _ hr⟩
theorem ups_mem (d : Nat) : ∀ (f : Nat) (t : List Nat), t.length = d → (∀ x ∈ t, 1 ≤ x ∧ x ≤ f) → t.Pairwise (· ≥ ·) → t ∈ ups d f := by
  induction d with
  | zero => intro f t h _ _; simp [ups, List.length_eq_zero_iff.1 h]
  | succ d ih =>
    intro f t h hx hp
    cases t with
    | nil => simp at h
    | cons a r =>
      rw [List.pairwise_cons] at hp
      have ha := hx a (by simp)
      simp only [ups, List.mem_flatMap, List.mem_map, List.mem_range]
      refine ⟨a - 1, by omega, r, ih _ _ (by simpa using h) ?_ hp.2, by congr 1; omega⟩
      intro x hx'
      have := hx x (by simp [hx']); have := hp.1 x hx'; omega
theorem ups_take (d f : Nat) (t : List Nat) (h : t ∈ ups d f) (i : Nat) (hi : i ≤ d) : t.take i ∈ ups i f := by
  refine ups_mem i f _ ?_ ?_ ?_
  · rw [List.length_take, ups_len d f t h]; omega
  · intro x hx; exact ups_in d f t h x (List.mem_of_mem_take hx)
  · exact (ups_down d f t h).sublist (List.take_sublist _ _)

/-! numbers of orders -/
def fac : Nat → Nat
  | 0 => 1
  | n + 1 => (n + 1) * fac n
theorem fac_pos (n : Nat) : 0 < fac n := by
  induction n with
  | zero => decide
  | succ n ih => exact Nat.mul_pos (by omega) ih
def bin : Nat → Nat → Nat
  | _, 0 => 1
  | 0, _ + 1 => 0
  | n + 1, k + 1 => bin n k + bin n (k + 1)
theorem bin_zero (n : Nat) : bin n 0 = 1 := by cases n <;> rfl
theorem bin_over (n : Nat) : ∀ k, n < k → bin n k = 0 := by
  induction n with
  | zero => intro k h; cases k with
    | zero => omega
    | succ k => rfl
  | succ n ih => intro k h; cases k with
    | zero => omega
    | succ k => show bin n k + bin n (k + 1) = 0; rw [ih k (by omega), ih (k + 1) (by omega)]
theorem bin_self (n : Nat) : bin n n = 1 := by
  induction n with
  | zero => rfl
  | succ n ih => show bin n n + bin n (n + 1) = 1; rw [ih, bin_over n (n + 1) (by omega)]
theorem bin_up (n : Nat) : ∀ k, bin (n + 1) (k + 1) * (k + 1) = bin n k * (n + 1) := by
  induction n with
  | zero => intro k; cases k with
    | zero => decide
    | succ k => rw [bin_over 1 (k + 2) (by omega), bin_over 0 (k + 1) (by omega)]; simp
  | succ n ih =>
    intro k
    show (bin (n + 1) k + bin (n + 1) (k + 1)) * (k + 1) = bin (n + 1) k * (n + 2)
    cases k with
    | zero =>
      have h0 := ih 0
      simp only [bin_zero, Nat.zero_add, Nat.mul_one, Nat.one_mul] at h0 ⊢
      omega
    | succ k =>
      have h1 := ih k
      have h2 := ih (k + 1)
      have h3 : bin (n + 1) (k + 1) = bin n k + bin n (k + 1) := rfl
      have e1 : (bin (n + 1) (k + 1) + bin (n + 1) (k + 1 + 1)) * (k + 1 + 1) = bin (n + 1) (k + 1) * (k + 1) + bin (n + 1) (k + 1) + bin (n + 1) (k + 1 + 1) * (k + 1 + 1) := by
        rw [Nat.add_mul, Nat.mul_add _ (k + 1) 1, Nat.mul_one]
      rw [e1, h1, h2]
      have e2 : bin (n + 1) (k + 1) * (n + 2) = bin (n + 1) (k + 1) * (n + 1) + bin (n + 1) (k + 1) := by
        rw [show n + 2 = (n + 1) + 1 from rfl, Nat.mul_add, Nat.mul_one]
      rw [e2, h3, Nat.add_mul (bin n k)]
      omega
theorem bin_fac (n : Nat) : ∀ k, k ≤ n → bin n k * (fac k * fac (n - k)) = fac n := by
  induction n with
  | zero => intro k h; obtain rfl : k = 0 := by omega
            rfl
  | succ n ih =>
    intro k h
    cases k with
    | zero => rw [bin_zero]; show 1 * (1 * fac (n + 1)) = _; simp
    | succ k =>
      have h1 := ih k (by omega)
      have h2 := bin_up n k
      show bin (n + 1) (k + 1) * ((k + 1) * fac k * fac (n + 1 - (k + 1))) = (n + 1) * fac n
      rw [show n + 1 - (k + 1) = n - k by omega, Nat.mul_assoc (k + 1), ← Nat.mul_assoc, h2, ← h1, Nat.mul_comm (bin n k) (n + 1), Nat.mul_assoc]

def pf : List Nat → Nat
  | [] => 1
  | a :: r => (r.count a + 1) * pf r
theorem pf_pos : ∀ t : List Nat, 0 < pf t
  | [] => by decide
  | _ :: r => Nat.mul_pos (by omega) (pf_pos r)
theorem pf_snoc (a : Nat) : ∀ l : List Nat, pf (l ++ [a]) = pf l * (l.count a + 1)
  | [] => by simp [pf]
  | b :: l => by
    have ih := pf_snoc a l
    show ((l ++ [a]).count b + 1) * pf (l ++ [a]) = (l.count b + 1) * pf l * ((b :: l).count a + 1)
    rw [ih, List.count_append]
    by_cases h : b = a
    · subst h
      simp only [List.count_cons_self, List.count_nil, Nat.zero_add]
      rw [Nat.mul_comm (l.count b + 1) (pf l), Nat.mul_comm (l.count b + 1 + 1), Nat.mul_assoc]
    · rw [List.count_cons_of_ne (by exact fun e => h e.symm), List.count_cons_of_ne (by exact h), List.count_nil, Nat.add_zero, Nat.mul_assoc]
theorem pf_peel (a : Nat) (t : List Nat) (h : a ∉ t) : ∀ k, pf (List.replicate k a ++ t) = fac k * pf t
  | 0 => by simp [fac]
  | k + 1 => by
    rw [List.replicate_succ, List.cons_append]
    show ((List.replicate k a ++ t).count a + 1) * pf (List.replicate k a ++ t) = _
    rw [pf_peel a t h k, List.count_append, List.count_replicate_self, List.count_eq_zero_of_not_mem h]
    show _ = (k + 1) * fac k * pf t
    rw [Nat.add_zero, Nat.mul_assoc]

theorem ups_split (f : Nat) : ∀ (d : Nat) (t : List Nat), t ∈ ups d (f + 1) → ∃ k t', k ≤ d ∧ t = List.replicate k (f + 1) ++ t' ∧ t' ∈ ups (d - k) f := by
  intro d
  induction d with
  | zero => intro t h; exact ⟨0, t, by omega, rfl, by simpa [ups] using h⟩
  | succ d ih =>
    intro t h
    rw [ups_succ, List.mem_append] at h
    rcases h with h | h
    · exact ⟨0, t, by omega, rfl, h⟩
    · rw [List.mem_map] at h
      obtain ⟨r, hr, rfl⟩ := h
      obtain ⟨k, t', hk, rfl, ht⟩ := ih r hr
      exact ⟨k + 1, t', by omega, rfl, by rw [show d + 1 - (k + 1) = d - k by omega]; exact ht⟩

theorem pf_dvd : ∀ (f d : Nat) (t : List Nat), t ∈ ups d f → pf t ∣ fac d := by
  intro f
  induction f with
  | zero =>
    intro d t h
    cases d with
    | zero => simp [ups] at h; subst h; exact ⟨1, rfl⟩
    | succ d => simp [ups] at h
  | succ f ih =>
    intro d t h
    obtain ⟨k, t', hk, rfl, ht⟩ := ups_split f d t h
    have hn : f + 1 ∉ t' := fun hx => by have := (ups_in _ _ _ ht _ hx).2; omega
    rw [pf_peel _ _ hn]
    obtain ⟨c, hc⟩ := ih _ _ ht
    exact ⟨bin d k * c, by rw [← bin_fac d k hk, hc, ← Nat.mul_assoc (fac k), Nat.mul_left_comm]⟩

/-- how many throws of different dice -/
def ordN (t : List Nat) : Nat := fac t.length / pf t
theorem ordN_nil : ordN [] = 1 := rfl
theorem ordN_mul (f d : Nat) (t : List Nat) (h : t ∈ ups d f) : ordN t * pf t = fac d := by
  unfold ordN
  rw [ups_len d f t h, Nat.div_mul_cancel (pf_dvd f d t h)]
theorem ordN_le (f d : Nat) (t : List Nat) (h : t ∈ ups d f) : ordN t ≤ fac d := by
  rw [← ordN_mul f d t h]
  exact Nat.le_mul_of_pos_right _ (pf_pos t)
theorem ordN_snoc (f d : Nat) (l : List Nat) (a : Nat) (h : l ++ [a] ∈ ups (d + 1) f) (hl : l ∈ ups d f) : ordN l * (d + 1) / (l.count a + 1) = ordN (l ++ [a]) := by
  have h1 := ordN_mul f d l hl
  have h2 := ordN_mul f (d + 1) _ h
  rw [pf_snoc] at h2
  have h3 : ordN l * (d + 1) = ordN (l ++ [a]) * (l.count a + 1) := by
    refine Nat.eq_of_mul_eq_mul_right (pf_pos l) ?_
    rw [Nat.mul_right_comm, h1, Nat.mul_assoc, Nat.mul_comm (l.count a + 1), h2]
    show fac d * (d + 1) = (d + 1) * fac d
    exact Nat.mul_comm _ _
  rw [h3, Nat.mul_div_cancel _ (by omega)]
theorem ordN_peel (f d k : Nat) (t : List Nat) (hk : k ≤ d) (h : t ∈ ups (d - k) f) : ordN (List.replicate k (f + 1) ++ t) = bin d k * ordN t := by
  have hn : f + 1 ∉ t := fun hx => by have := (ups_in _ _ _ h _ hx).2; omega
  have hlen : (List.replicate k (f + 1) ++ t).length = d := by simp [ups_len _ _ _ h]; omega
  have h1 := ordN_mul f (d - k) t h
  have h2 : ordN (List.replicate k (f + 1) ++ t) = fac d / (fac k * pf t) := by unfold ordN; rw [hlen, pf_peel _ _ hn]
  rw [h2, ← bin_fac d k hk, ← h1]
  rw [show bin d k * (fac k * (ordN t * pf t)) = (bin d k * ordN t) * (fac k * pf t) by
    rw [Nat.mul_left_comm (fac k), ← Nat.mul_assoc]]
  exact Nat.mul_div_cancel _ (Nat.mul_pos (fac_pos k) (pf_pos t))

/-! sums over all lists -/
def tot (G : List Nat → Nat) : List (List Nat) → Nat
  | [] => 0
  | t :: l => G t + tot G l
theorem tot_app (G : List Nat → Nat) : ∀ l m, tot G (l ++ m) = tot G l + tot G m
  | [], m => by simp [tot]
  | t :: l, m => by show G t + tot G (l ++ m) = G t + tot G l + tot G m; rw [tot_app G l m]; omega
theorem tot_map (G : List Nat → Nat) (h : List Nat → List Nat) : ∀ l, tot G (l.map h) = tot (fun t => G (h t)) l
  | [] => rfl
  | t :: l => by show G (h t) + tot G (l.map h) = G (h t) + tot _ l; rw [tot_map G h l]
theorem tot_same (G H : List Nat → Nat) : ∀ l, (∀ t ∈ l, G t = H t) → tot G l = tot H l
  | [], _ => rfl
  | t :: l, h => by show G t + tot G l = H t + tot H l; rw [h t (by simp), tot_same G H l (fun x hx => h x (by simp [hx]))]
theorem tot_mul (c : Nat) (G : List Nat → Nat) : ∀ l, tot (fun t => c * G t) l = c * tot G l
  | [] => rfl
  | t :: l => by show c * G t + tot _ l = c * (G t + tot G l); rw [tot_mul c G l, Nat.mul_add]
theorem tot_add (G H : List Nat → Nat) : ∀ l, tot (fun t => G t + H t) l = tot G l + tot H l
  | [] => rfl
  | t :: l => by show G t + H t + tot _ l = G t + tot G l + (H t + tot H l); rw [tot_add G H l]; omega
theorem tot_le (G H : List Nat → Nat) : ∀ l, (∀ t ∈ l, G t ≤ H t) → tot G l ≤ tot H l
  | [], _ => Nat.le_refl _
  | t :: l, h => Nat.add_le_add (h t (by simp)) (tot_le G H l (fun x hx => h x (by simp [hx])))

def sumD (h : Nat → Nat) : Nat → Nat
  | 0 => 0
  | n + 1 => sumD h n + h n
theorem sumD_same (g h : Nat → Nat) : ∀ n, (∀ i, i < n → g i = h i) → sumD g n = sumD h n
  | 0, _ => rfl
  | n + 1, hs => by show sumD g n + g n = _; rw [sumD_same g h n (fun i hi => hs i (by omega)), hs n (by omega)]; rfl
theorem sumD_head (h : Nat → Nat) : ∀ n, sumD h (n + 1) = h 0 + sumD (fun i => h (i + 1)) n
  | 0 => by simp [sumD]
  | n + 1 => by show sumD h (n + 1) + h (n + 1) = h 0 + (sumD (fun i => h (i + 1)) n + h (n + 1)); rw [sumD_head h n]; omega

theorem tot_peel (f : Nat) : ∀ (d : Nat) (G : List Nat → Nat), tot G (ups d (f + 1)) = sumD (fun k => tot (fun t => G (List.replicate k (f + 1) ++ t)) (ups (d - k) f)) (d + 1)
  | 0, G => by simp [sumD, ups, tot]
  | d + 1, G => by
    rw [sumD_head, ups_succ, tot_app, tot_map, tot_peel f d]
    simp only [List.replicate_zero, List.nil_append, Nat.sub_zero]
    congr 1
    refine sumD_same _ _ _ fun i hi => ?_
    rw [show d + 1 - (i + 1) = d - i by omega]
    rfl

/-- all throws of d dice with faces up to f, weighed -/
def W (d f : Nat) (g : List Nat → Nat) : Nat := tot (fun t => ordN t * g t) (ups d f)
theorem W_zero (f : Nat) (g : List Nat → Nat) : W 0 f g = g [] := by simp [W, ups, tot, ordN_nil]
theorem W_none (d : Nat) (g : List Nat → Nat) : W (d + 1) 0 g = 0 := rfl
theorem W_same (d f : Nat) (g h : List Nat → Nat) (hs : ∀ t ∈ ups d f, g t = h t) : W d f g = W d f h :=
  tot_same _ _ _ fun t ht => by rw [hs t ht]
theorem W_peel (d f : Nat) (g : List Nat → Nat) : W d (f + 1) g = sumD (fun k => bin d k * W (d - k) f (fun t => g (List.replicate k (f + 1) ++ t))) (d + 1) := by
  unfold W
  rw [tot_peel]
  refine sumD_same _ _ _ fun k hk => ?_
  rw [← tot_mul]
  refine tot_same _ _ _ fun t ht => ?_
  rw [ordN_peel f d k t (by omega) ht, Nat.mul_assoc]
theorem W_le (d f : Nat) (g h : List Nat → Nat) (hs : ∀ t ∈ ups d f, g t ≤ h t) : W d f g ≤ W d f h :=
  tot_le _ _ _ fun t ht => Nat.mul_le_mul_left _ (hs t ht)
theorem W_add (d f : Nat) (g h : List Nat → Nat) : W d f (fun t => g t + h t) = W d f g + W d f h := by
  unfold W; rw [← tot_add]; exact tot_same _ _ _ fun t _ => Nat.mul_add _ _ _

end Go.Proofs.Ytnohpclaccaijab

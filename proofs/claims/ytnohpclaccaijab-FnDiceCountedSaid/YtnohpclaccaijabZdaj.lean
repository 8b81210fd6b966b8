/- Several texts, one behind the other: C6q M46. -/
import Derived.Test.YtnohpclaccaijabZdai
import Derived.Test.YtnohpclaccaijabZdad

namespace Go.Proofs.Ytnohpclaccaijab
open Go.RowKit

/-- A function tells of each throw whether it is wanted; what it has captured is held by I. -/
def Wants (F : FuncId) (caps : Array Value) (d f : Nat) (p : List Nat → Bool) (I : World → Prop) : Prop :=
  ∀ t W, t ∈ ups d f → I W → Calls Try.prog F (#[.agg (thC (gt t))] ++ caps) W fun e W' => e = .returned (.bool (p t)) ∧ Below W.heap.size W W'
def StableI (B : Nat) (I : World → Prop) : Prop := ∀ W W', I W → (∀ k, k < B → W'.heap[k]? = W.heap[k]?) → I W'
def cntP (p : List Nat → Bool) (L : List (List Nat)) : Nat := tot (fun t => ordN t * is (p t)) L
theorem cntP_snoc (p : List Nat → Bool) (L : List (List Nat)) (t : List Nat) : cntP p (L ++ [t]) = if p t then cntP p L + ordN t else cntP p L := by
  unfold cntP
  rw [tot_app]
  show _ + (ordN t * is (p t) + 0) = _
  cases h : p t <;> simp [is]
theorem pow_12c {d f : Nat} (hd : d ≤ 8) (hf : f ≤ 12) (hf1 : 1 ≤ f) : f ^ d ≤ 429981696 := by
  calc f ^ d ≤ f ^ 8 := Nat.pow_le_pow_right (by omega) hd
    _ ≤ 12 ^ 8 := Nat.pow_le_pow_left hf 8
    _ = 429981696 := by decide
theorem cntP_le {d f : Nat} {p : List Nat → Bool} {pre post : List (List Nat)} (h : ups d f = pre ++ post) (hd : d ≤ 8) (hf : f ≤ 12) (hf1 : 1 ≤ f) : cntP p pre ≤ 429981696 := by
  have h1 : cntP p (ups d f) ≤ f ^ d := W_is_le d f p
  have h2 : cntP p (pre ++ post) = cntP p pre + cntP p post := tot_app _ _ _
  rw [h, h2] at h1
  have := pow_12c hd hf hf1
  omega
theorem cell_keptC {w w' : World} {g : Nat} (h : w'.heap[g]? = w.heap[g]?) (i : Nat) : w'.cell? ⟨g, i, none⟩ = w.cell? ⟨g, i, none⟩ := by simp [World.cell?, h]
theorem grown_setCellC {w w' : World} {R : Nat} (hB : Below w.heap.size w w') (u : Value) : w.grownBy (w'.setCell ⟨R, 0, none⟩ u) (some R) := grown_setCell (below_grown hB _) _ _ rfl

set_option maxRecDepth 100000 in
set_option maxHeartbeats 1000000 in
theorem countTell_any (gw gn o n : Nat) (b : Bool) (F : FuncId) (caps : Array Value) (t : List Nat) (w : World) (hE : EntersT F) (hW : ∀ W, Below w.heap.size w W → Calls Try.prog F (#[.agg (thC (gt t))] ++ caps) W fun e W' => e = .returned (.bool b) ∧ Below W.heap.size W W')
    (ho : o ≤ 40320) (hn : n ≤ 429981696) (cw : w.cell? ⟨gw, 0, none⟩ = some (.func (.func F) #[] caps)) (cn : w.heap[gn]? = some (.cells #[.int .i64 n] 3 (0, 0))) (N : Nat) (hN : (b = true ∧ N = n + o) ∨ (b = false ∧ N = n)) :
    Calls Try.prog 89 #[.agg (thC (gt t)), .int .i64 o, .pointer (some ⟨gw, 0, none⟩), .pointer (some ⟨gn, 0, none⟩)] w fun e w' =>
      e = .returned (.tuple #[]) ∧ w'.heap[gn]? = some (.cells #[.int .i64 N] 3 (0, 0)) ∧ w.grownBy w' (some gn) := by
  have HE := hE
  unfold EntersT at HE
  have lw := cell_lt cw
  have ln := heap_lt cn
  have hB1 := below1 w (.cells (thC (gt t)) 67)
  have kb : TA (w.alloc (.cells (thC (gt t)) 67)) w.heap.size 67 (gt t) := heap_alloc_at _ _ _ rfl
  have c1 : (w.alloc (.cells (thC (gt t)) 67)).cell? ⟨gw, 0, none⟩ = some (.func (.func F) #[] caps) := (bcell hB1 lw).trans cw
  have n1 := (hB1.block gn ln).trans cn
  have HW := Lib.hid hW
  clear hE hW
  rcases hN with ⟨rfl, hN⟩ | ⟨rfl, rfl⟩
  · have hno : (n : Int) + (o : Int) = (N : Int) := by omega
    have hN9 : N ≤ 500000000 := by omega
    clear hN
    go_enter Try.func89, Try.ntmps89
    go_wp2_with (refine wpList_load_row rfl 67 (.tmp 4) rfl w.heap.size rfl _ _ _ _ kb Try.underlying67 rfl ?_ ?_; (rw [thC_size]; exact sizeThr))
    refine (HW.out _ hB1).mono ?_
    rintro e w2 ⟨rfl, hx2⟩
    have hB2 := hB1.trans (hx2.mono (by simp))
    have n2 := (hx2.block gn (by simp; omega)).trans n1
    have q2 := fun i => cell_of_row w2 gn i _ _ _ n2
    have f2 := fun i => frozen_row (i := i) n2
    have hlt : gn < w2.heap.size := heap_lt n2
    have hst := heap_set w2 gn 0 _ _ (.int .i64 (N : Int)) n2
    have HST := Lib.hid hst
    clear hst
    go_wp2
    go_end0
    exact ⟨rfl, HST.out, grown_setCell (below_grown hB2 _) _ _ rfl⟩
  · go_enter Try.func89, Try.ntmps89
    go_wp2_with (refine wpList_load_row rfl 67 (.tmp 4) rfl w.heap.size rfl _ _ _ _ kb Try.underlying67 rfl ?_ ?_; (rw [thC_size]; exact sizeThr))
    refine (HW.out _ hB1).mono ?_
    rintro e w2 ⟨rfl, hx2⟩
    have hB2 := hB1.trans (hx2.mono (by simp))
    have n2 := (hx2.block gn (by simp; omega)).trans n1
    go_wp2
    go_end0
    exact ⟨rfl, n2, below_grown hB2 _⟩

def CountJ (gw gn : Nat) (F : FuncId) (caps : Array Value) (p : List Nat → Bool) (I : World → Prop) (L : List (List Nat)) (W : World) : Prop :=
  W.cell? ⟨gw, 0, none⟩ = some (.func (.func F) #[] caps) ∧ W.heap[gn]? = some (.cells #[.int .i64 (cntP p L : Nat)] 3 (0, 0)) ∧ I W
theorem countJ_stable (gw gn B B0 : Nat) (F : FuncId) (caps : Array Value) (p : List Nat → Bool) (I : World → Prop) (hI : StableI B0 I) (h1 : gw < B) (h2 : gn < B) (h3 : B0 ≤ B) : Stable B (CountJ gw gn F caps p I) := by
  intro L W W' ⟨c1, c2, c3⟩ h
  exact ⟨(cell_keptC (h _ h1) 0).trans c1, (h _ h2).trans c2, hI W W' c3 (fun k hk => h k (by omega))⟩
theorem countJ_tells (gw gn d f B0 : Nat) (F : FuncId) (caps : Array Value) (p : List Nat → Bool) (I : World → Prop) (hE : EntersT F) (hI : StableI B0 I) (hW : Wants F caps d f p I) (hd : d ≤ 8) (hf : f ≤ 12) (hf1 : 1 ≤ f) (h1 : gw ≠ gn) (h2 : B0 ≤ gn) :
    Tells 89 #[.pointer (some ⟨gw, 0, none⟩), .pointer (some ⟨gn, 0, none⟩)] gn d f (CountJ gw gn F caps p I) := by
  intro pre t post W hsplit ⟨c1, c2, c3⟩ hR
  have ht : t ∈ ups d f := by rw [hsplit]; simp
  have hN : (p t = true ∧ cntP p (pre ++ [t]) = cntP p pre + ordN t) ∨ (p t = false ∧ cntP p (pre ++ [t]) = cntP p pre) := by
    rw [cntP_snoc]
    cases h : p t <;> simp
  refine (countTell_any gw gn (ordN t) (cntP p pre) (p t) F caps t W hE (fun W1 hx => hW t W1 ht (hI W W1 c3 fun k hk => hx.block k (by omega))) (ord_le8 ht hd) (cntP_le hsplit hd hf hf1) c1 c2 _ hN).mono ?_
  rintro e W' ⟨rfl, hn, hg⟩
  exact ⟨rfl, ⟨(cell_keptC (hg.block _ (cell_lt c1) (by simp; exact h1)) 0).trans c1, hn, hI W W' c3 fun k hk => hg.block k (by omega) (by simp; omega)⟩, hg⟩
theorem countTell_enters : EntersT 89 := fun _ _ => Try.call89 _ _

set_option maxRecDepth 100000 in
set_option maxHeartbeats 1000000 in
theorem count_any (d f : Nat) (F : FuncId) (caps : Array Value) (p : List Nat → Bool) (I : World → Prop) (w : World) (hd1 : 1 ≤ d) (hd : d ≤ 8) (hf1 : 1 ≤ f) (hf : f ≤ 12) (hE : EntersT F) (hI : StableI w.heap.size I) (hW : Wants F caps d f p I) (h0 : I w) :
    Calls Try.prog 60 #[.agg #[.int .i64 d, .int .i64 f], .func (.func F) #[] caps] w fun e w' => e = .returned (.int .i64 (W d f (fun t => is (p t)) : Nat)) ∧ Below w.heap.size w w' := by
  obtain ⟨W3, hW3⟩ : ∃ W3, W3 = ((w.alloc (.cells #[.int .i64 d, .int .i64 f] 61)).alloc (.cells #[.func (.func F) #[] caps] 68)).alloc (.cells #[.int .i64 0] 3) := ⟨_, rfl⟩
  have hB3 : Below w.heap.size w W3 := by rw [hW3]; exact below3 _ _ _ _
  have k0 : W3.heap[w.heap.size]? = some (.cells #[.int .i64 d, .int .i64 f] 61 (0, 0)) := by rw [hW3]; exact (Below.heap_alloc _ _ _ (by simp; omega)).trans ((Below.heap_alloc _ _ _ (by simp)).trans (heap_alloc_at _ _ _ rfl))
  have k1 : W3.heap[w.heap.size + 1]? = some (.cells #[.func (.func F) #[] caps] 68 (0, 0)) := by rw [hW3]; exact (Below.heap_alloc _ _ _ (by simp)).trans (heap_alloc_at _ _ _ (by simp))
  have k2 : W3.heap[w.heap.size + 2]? = some (.cells #[.int .i64 0] 3 (0, 0)) := by rw [hW3]; exact heap_alloc_at _ _ _ (by simp)
  have q0 := fun i => cell_of_row W3 w.heap.size i _ _ _ k0
  have c1 : W3.cell? ⟨w.heap.size + 1, 0, none⟩ = some (.func (.func F) #[] caps) := (cell_of_row _ _ _ _ _ _ k1).trans rfl
  have hs3 : W3.heap.size = w.heap.size + 3 := by rw [hW3]; simp
  have hI3 : I W3 := hI w W3 h0 (fun k hk => hB3.block k hk)
  have HW3 := Lib.hid hW3; have HS3 := Lib.hid hs3; have HI := Lib.hid hI; have HWT := Lib.hid hW
  clear hW3 hI hW hs3
  go_enter Try.func60, Try.ntmps60
  go_wp2_with fail
  rw [← HW3.out]
  have hs3 := HS3.out
  refine (each_any d f 89 _ (w.heap.size + 2) (CountJ (w.heap.size + 1) (w.heap.size + 2) F caps p I) _ hd1 hd hf1 hf countTell_enters (countJ_stable _ _ _ w.heap.size F caps p I HI.out (by omega) (by omega) (by omega)) (countJ_tells _ _ d f w.heap.size F caps p I hE HI.out HWT.out hd hf hf1 (by omega) (by omega)) (by omega) ⟨c1, k2, hI3⟩).mono ?_
  rintro e w4 ⟨rfl, ⟨_, n4, _⟩, hg⟩
  have hB4 : Below w.heap.size w w4 := hB3.grown hg hB3.size (fun k h => by cases h; omega)
  have q4 := fun i => cell_of_row w4 (w.heap.size + 2) i _ _ _ n4
  have hv : cntP p (ups d f) = W d f (fun t => is (p t)) := rfl
  rw [hv] at q4
  clear hs3 k0 k1 k2 q0 c1 n4 hg hv
  go_wp2
  go_ret
  exact ⟨rfl, hB4⟩
end Go.Proofs.Ytnohpclaccaijab

namespace Go.Proofs.Ytnohpclaccaijab

theorem count_peel (k a x : Nat) (t : List Nat) (h : x ≠ a) : (List.replicate k a ++ t).count x = t.count x := by
  rw [List.count_append, List.count_replicate, if_neg (by simpa using fun e : a = x => h e.symm)]; omega
theorem count_peel_self {d f : Nat} {t : List Nat} (k : Nat) (h : t ∈ ups d f) : (List.replicate k (f + 1) ++ t).count (f + 1) = k := by
  rw [List.count_append, List.count_replicate_self, List.count_eq_zero_of_not_mem (fun hx => by have := (ups_in _ _ _ h _ hx).2; omega)]; omega

def mostN (t : List Nat) : Nat → Nat
  | 0 => 0
  | n + 1 => max (mostN t n) (t.count (n + 1))
theorem mostN_le (t : List Nat) : ∀ n, mostN t n ≤ t.length
  | 0 => Nat.zero_le _
  | n + 1 => Nat.max_le.2 ⟨mostN_le t n, List.count_le_length⟩
theorem mostN_peel (k a : Nat) (t : List Nat) : ∀ n, n < a → mostN (List.replicate k a ++ t) n = mostN t n
  | 0, _ => rfl
  | n + 1, h => by show max _ _ = max _ _; rw [mostN_peel k a t n (by omega), count_peel k a (n + 1) t (by omega)]
/-- all throws with no face more often than that -/
def mq (d f m : Nat) : Nat := W d f (fun t => is (decide (mostN t f ≤ m)))
theorem mq_le (d f m : Nat) : mq d f m ≤ f ^ d := W_is_le d f _
theorem mq_zero (d m : Nat) : mq d 0 m = if d = 0 then 1 else 0 := by
  unfold mq
  cases d with
  | zero => rw [W_zero]; simp [mostN, is]
  | succ d => rw [W_none]; simp
theorem mq_peel (d f m : Nat) : mq d (f + 1) m = sumD (fun k => if k ≤ m then bin d k * mq (d - k) f m else 0) (d + 1) := by
  unfold mq
  rw [W_peel]
  refine sumD_same _ _ _ fun k _ => ?_
  by_cases h : k ≤ m
  · rw [if_pos h]
    congr 1
    refine W_same _ _ _ _ fun t ht => ?_
    congr 1
    show decide (max (mostN (List.replicate k (f + 1) ++ t) f) ((List.replicate k (f + 1) ++ t).count (f + 1)) ≤ m) = _
    rw [mostN_peel k (f + 1) t f (by omega), count_peel_self k ht, Bool.eq_iff_iff]
    simp only [decide_eq_true_eq]
    omega
  · rw [if_neg h]
    have : W (d - k) f (fun t => is (decide (mostN (List.replicate k (f + 1) ++ t) (f + 1) ≤ m))) = 0 := by
      rw [← W_null (d - k) f]
      refine W_same _ _ _ _ fun t ht => ?_
      have : decide (mostN (List.replicate k (f + 1) ++ t) (f + 1) ≤ m) = false := by
        show decide (max (mostN (List.replicate k (f + 1) ++ t) f) ((List.replicate k (f + 1) ++ t).count (f + 1)) ≤ m) = _
        rw [count_peel_self k ht, decide_eq_false_iff_not]
        omega
      rw [this]; rfl
    rw [this]; rfl
theorem mq_same (d f s : Nat) : W d f (fun t => is (mostN t f == s + 1)) + mq d f s = mq d f (s + 1) := by
  unfold mq
  rw [← W_add]
  refine W_same _ _ _ _ fun t _ => ?_
  by_cases h : mostN t f = s + 1
  · have h1 : (mostN t f == s + 1) = true := by simpa using h
    have h2 : decide (mostN t f ≤ s) = false := decide_eq_false (by omega)
    have h3 : decide (mostN t f ≤ s + 1) = true := decide_eq_true (by omega)
    rw [h1, h2, h3]; rfl
  · have h1 : (mostN t f == s + 1) = false := beq_eq_false_iff_ne.2 h
    have h3 : decide (mostN t f ≤ s + 1) = decide (mostN t f ≤ s) := by rw [Bool.eq_iff_iff]; simp only [decide_eq_true_eq]; omega
    rw [h1, h3]; simp [is]

/-! faces one behind the other -/
/-- the run that ends at a face, and the longest one -/
def runN (t : List Nat) : Nat → Nat
  | 0 => 0
  | n + 1 => if t.count (n + 1) = 0 then 0 else runN t n + 1
def lonN (t : List Nat) : Nat → Nat
  | 0 => 0
  | n + 1 => max (lonN t n) (runN t (n + 1))
theorem runN_le (t : List Nat) : ∀ n, runN t n ≤ n
  | 0 => Nat.le_refl _
  | n + 1 => by
    have h := runN_le t n
    unfold runN
    by_cases e : t.count (n + 1) = 0
    · rw [if_pos e]; omega
    · rw [if_neg e]; omega
theorem lonN_le (t : List Nat) : ∀ n, lonN t n ≤ n
  | 0 => Nat.le_refl _
  | n + 1 => Nat.max_le.2 ⟨Nat.le_succ_of_le (lonN_le t n), runN_le t (n + 1)⟩
/-- so many faces end at one -/
def topR (t : List Nat) (r n : Nat) : Prop := r ≤ n ∧ ∀ i, i < r → 0 < t.count (n - i)
theorem topR_succ (t : List Nat) (r n : Nat) : topR t (r + 1) (n + 1) ↔ 0 < t.count (n + 1) ∧ topR t r n := by
  constructor
  · intro ⟨h1, h2⟩
    refine ⟨h2 0 (by omega), by omega, fun i hi => ?_⟩
    have := h2 (i + 1) (by omega)
    rwa [show n + 1 - (i + 1) = n - i by omega] at this
  · intro ⟨h0, h1, h2⟩
    refine ⟨by omega, fun i hi => ?_⟩
    cases i with
    | zero => exact h0
    | succ i => rw [show n + 1 - (i + 1) = n - i by omega]; exact h2 i (by omega)
theorem runN_top (t : List Nat) : ∀ n r, r ≤ runN t n ↔ topR t r n
  | 0, r => by
    constructor
    · intro h; have h : r ≤ 0 := h; exact ⟨by omega, fun i hi => by omega⟩
    · intro h; exact h.1
  | n + 1, 0 => ⟨fun _ => ⟨Nat.zero_le _, fun i hi => by omega⟩, fun _ => Nat.zero_le _⟩
  | n + 1, r + 1 => by
    rw [topR_succ, ← runN_top t n r]
    show r + 1 ≤ (if t.count (n + 1) = 0 then 0 else runN t n + 1) ↔ _
    by_cases h : t.count (n + 1) = 0
    · rw [if_pos h]; omega
    · rw [if_neg h]; omega
def winR (t : List Nat) (r n : Nat) : Prop := ∃ m, m ≤ n ∧ topR t r m
theorem winR_succ (t : List Nat) (r n : Nat) : winR t r (n + 1) ↔ winR t r n ∨ topR t r (n + 1) := by
  constructor
  · intro ⟨m, hm, h⟩
    by_cases e : m = n + 1
    · subst e; exact .inr h
    · exact .inl ⟨m, by omega, h⟩
  · rintro (⟨m, hm, h⟩ | h)
    · exact ⟨m, by omega, h⟩
    · exact ⟨n + 1, Nat.le_refl _, h⟩
theorem lonN_win (t : List Nat) (r : Nat) (hr : 1 ≤ r) : ∀ n, r ≤ lonN t n ↔ winR t r n
  | 0 => by
    constructor
    · intro h; have h : r ≤ 0 := h; omega
    · intro ⟨m, hm, h⟩; have := h.1; omega
  | n + 1 => by
    rw [winR_succ, ← lonN_win t r hr n, ← runN_top t (n + 1) r]
    show r ≤ max _ _ ↔ _
    omega

/-- from the greatest face down, so many of those just before being there -/
def rnB (t : List Nat) (run : Nat) : Nat → Nat → Bool
  | 0, b => b == run
  | f + 1, b => if b = run then true else if 0 < t.count (f + 1) then rnB t run f (b + 1) else rnB t run f 0
theorem rnB_yes (t : List Nat) (run : Nat) : ∀ f, rnB t run f run = true
  | 0 => by simp [rnB]
  | f + 1 => by simp [rnB]
theorem rnB_iff (t : List Nat) (run : Nat) (hr : 1 ≤ run) : ∀ f b, b < run → (rnB t run f b = true ↔ topR t (run - b) f ∨ winR t run f)
  | 0, b, hb => by
    constructor
    · intro h; have h : b = run := by simpa [rnB] using h
      omega
    · rintro (h | ⟨m, hm, h⟩)
      · have := h.1; omega
      · have := h.1; omega
  | f + 1, b, hb => by
    unfold rnB
    rw [if_neg (by omega)]
    obtain ⟨j, hj⟩ : ∃ j, run - b = j + 1 := ⟨run - b - 1, by omega⟩
    rw [hj, topR_succ, winR_succ]
    by_cases hc : 0 < t.count (f + 1)
    · rw [if_pos hc]
      by_cases hb2 : b + 1 = run
      · rw [hb2, rnB_yes]
        have : j = 0 := by omega
        subst this
        exact ⟨fun _ => .inl ⟨hc, Nat.zero_le _, fun i hi => by omega⟩, fun _ => rfl⟩
      · rw [rnB_iff t run hr f (b + 1) (by omega), show run - (b + 1) = j by omega]
        constructor
        · rintro (h | h)
          · exact .inl ⟨hc, h⟩
          · exact .inr (.inl h)
        · rintro (⟨_, h⟩ | h | h)
          · exact .inl h
          · exact .inr h
          · left
            have h1 := h.1
            refine ⟨by omega, fun i hi => ?_⟩
            have := h.2 (i + 1) (by omega)
            rwa [show f + 1 - (i + 1) = f - i by omega] at this
    · rw [if_neg hc, rnB_iff t run hr f 0 (by omega), Nat.sub_zero]
      constructor
      · rintro (h | h)
        · exact .inr (.inl ⟨f, Nat.le_refl _, h⟩)
        · exact .inr (.inl h)
      · rintro (⟨h, _⟩ | h | h)
        · exact absurd h hc
        · exact .inr h
        · exact absurd (h.2 0 (by omega)) (by simpa using hc)
theorem rnB_lon (t : List Nat) (run f : Nat) (hr : 1 ≤ run) : rnB t run f 0 = decide (run ≤ lonN t f) := by
  rw [Bool.eq_iff_iff, rnB_iff t run hr f 0 (by omega), decide_eq_true_eq, lonN_win t run hr f, Nat.sub_zero]
  constructor
  · rintro (h | h)
    · exact ⟨f, Nat.le_refl _, h⟩
    · exact h
  · exact .inr
theorem rnB_peel (k a : Nat) (t : List Nat) (run : Nat) : ∀ f b, f < a → rnB (List.replicate k a ++ t) run f b = rnB t run f b
  | 0, _, _ => rfl
  | f + 1, b, h => by
    unfold rnB
    rw [count_peel k a (f + 1) t (by omega), rnB_peel k a t run f (b + 1) (by omega), rnB_peel k a t run f 0 (by omega)]
def rq (d f b run : Nat) : Nat := W d f (fun t => is (rnB t run f b))
theorem rq_le (d f b run : Nat) : rq d f b run ≤ f ^ d := W_is_le d f _
theorem rq_done (d f run : Nat) : rq d f run run = f ^ d := by
  unfold rq
  rw [← W_all]
  exact W_same _ _ _ _ fun t _ => by rw [rnB_yes]; rfl
theorem rq_zero (d b run : Nat) (h : b ≠ run) : rq d 0 b run = 0 := by
  unfold rq
  cases d with
  | zero => rw [W_zero]; simp [rnB, is, h]
  | succ d => rfl
theorem rq_peel (d f b run : Nat) (h : b ≠ run) : rq d (f + 1) b run = rq d f 0 run + sumD (fun k => bin d (k + 1) * rq (d - (k + 1)) f (b + 1) run) d := by
  unfold rq
  rw [W_peel, sumD_head]
  congr 1
  · rw [bin_zero, Nat.one_mul]
    refine W_same _ _ _ _ fun t ht => ?_
    have h0 := count_peel_self 0 ht
    show is (rnB (List.replicate 0 (f + 1) ++ t) run (f + 1) b) = _
    rw [show rnB (List.replicate 0 (f + 1) ++ t) run (f + 1) b = rnB t run f 0 by
      conv => lhs; unfold rnB
      rw [if_neg h, h0, if_neg (by omega)]; rfl]
  · refine sumD_same _ _ _ fun k _ => ?_
    congr 1
    refine W_same _ _ _ _ fun t ht => ?_
    have h0 := count_peel_self (k + 1) ht
    rw [show rnB (List.replicate (k + 1) (f + 1) ++ t) run (f + 1) b = rnB t run f (b + 1) by
      conv => lhs; unfold rnB
      rw [if_neg h, h0, if_pos (by omega), rnB_peel (k + 1) (f + 1) t run f (b + 1) (by omega)]]

/-! each face -/
/-- all throws with each face -/
def sj : Nat → Nat → Nat
  | 0, d => if d = 0 then 1 else 0
  | f + 1, d => sumD (fun k => bin d (k + 1) * sj f (d - (k + 1))) d
/-- the same by numbers of throws without some faces -/
def ieT (d f k : Nat) : Int := (bin f k * (f - k) ^ d : Nat)
def ieS (d f : Nat) : Nat → Int
  | 0 => 0
  | k + 1 => if k % 2 = 0 then ieS d f k + ieT d f k else ieS d f k - ieT d f k
theorem sj_ie : ∀ d, d ≤ 8 → ∀ f, f ≤ 12 → ieS d f (f + 1) = (sj f d : Int) := by decide +kernel
theorem topR_all (t : List Nat) (n : Nat) : topR t n n ↔ ∀ a, 1 ≤ a → a ≤ n → 0 < t.count a := by
  constructor
  · intro h a h1 h2
    have := h.2 (n - a) (by omega)
    rwa [show n - (n - a) = a by omega] at this
  · intro h
    exact ⟨Nat.le_refl _, fun i hi => h (n - i) (by omega) (by omega)⟩
def eachB (t : List Nat) : Nat → Bool
  | 0 => true
  | n + 1 => decide (0 < t.count (n + 1)) && eachB t n
theorem eachB_iff (t : List Nat) : ∀ n, eachB t n = true ↔ ∀ a, 1 ≤ a → a ≤ n → 0 < t.count a
  | 0 => ⟨fun _ a h1 h2 => by omega, fun _ => rfl⟩
  | n + 1 => by
    unfold eachB
    rw [Bool.and_eq_true, decide_eq_true_eq, eachB_iff t n]
    constructor
    · intro ⟨h1, h2⟩ a ha hb
      by_cases e : a = n + 1
      · subst e; exact h1
      · exact h2 a ha (by omega)
    · intro h
      exact ⟨h (n + 1) (by omega) (Nat.le_refl _), fun a ha hb => h a ha (by omega)⟩
theorem eachB_peel (k a : Nat) (t : List Nat) : ∀ n, n < a → eachB (List.replicate k a ++ t) n = eachB t n
  | 0, _ => rfl
  | n + 1, h => by unfold eachB; rw [count_peel k a (n + 1) t (by omega), eachB_peel k a t n (by omega)]
theorem sj_W : ∀ f d, W d f (fun t => is (eachB t f)) = sj f d
  | 0, 0 => by rw [W_zero]; rfl
  | 0, d + 1 => rfl
  | f + 1, d => by
    rw [W_peel, sumD_head]
    have h0 : W (d - 0) f (fun t => is (eachB (List.replicate 0 (f + 1) ++ t) (f + 1))) = 0 := by
      refine Eq.trans (W_same _ _ _ _ fun t ht => ?_) (W_null (d - 0) f)
      have := count_peel_self 0 ht
      have e : eachB (List.replicate 0 (f + 1) ++ t) (f + 1) = false := by
        unfold eachB
        rw [this]; simp
      rw [e]; rfl
    rw [h0, Nat.mul_zero, Nat.zero_add]
    show _ = sumD (fun k => bin d (k + 1) * sj f (d - (k + 1))) d
    refine sumD_same _ _ _ fun k _ => ?_
    rw [← sj_W f (d - (k + 1))]
    congr 1
    refine W_same _ _ _ _ fun t ht => ?_
    have := count_peel_self (k + 1) ht
    have e : eachB (List.replicate (k + 1) (f + 1) ++ t) (f + 1) = eachB t f := by
      conv => lhs; unfold eachB
      rw [this, eachB_peel (k + 1) (f + 1) t f (by omega)]; simp
    rw [e]
/-- CountEachFace -/
theorem each_lon (t : List Nat) (f : Nat) (hf : 1 ≤ f) : decide (f ≤ lonN t f) = eachB t f := by
  rw [Bool.eq_iff_iff, decide_eq_true_eq, lonN_win t f hf f, eachB_iff, ← topR_all]
  constructor
  · intro ⟨m, hm, h⟩
    have := h.1
    obtain rfl : m = f := by omega
    exact h
  · intro h; exact ⟨f, Nat.le_refl _, h⟩
end Go.Proofs.Ytnohpclaccaijab

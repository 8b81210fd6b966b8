/-
  Pairs: putBehind.
-/
import Derived.Test.YtknclgfjoajldabC5d
import Derived.BigRegion
namespace Go.Proofs.Ytknclgfjoajldab
open Go.RowKit

theorem cell_kept {w w' : World} {g : Nat} (h : w'.heap[g]? = w.heap[g]?) (i : Nat) : w'.cell? ⟨g, i, none⟩ = w.cell? ⟨g, i, none⟩ := by simp [World.cell?, h]
theorem CV.kept {w w' : World} {g : Nat} {s f o : Int} {G : Nat → Int} (h : CV w g s f o G) (hb : w'.heap[g]? = w.heap[g]?) : CV w' g s f o G :=
  ⟨(cell_kept hb _).trans h.sq, (cell_kept hb _).trans h.fa, (cell_kept hb _).trans h.ov, fun hi => (cell_kept hb _).trans (h.at_ hi)⟩
/-- What tokens add to a set that move by a face. -/
def addS (S : Nat → Nat → Bool) (x y face : Nat) (l : List Int) : Nat → Nat → Bool :=
  fun u v => S u v || l.any (fun t => if t = 0 then u == x + face && v == y else u == x && v == y + face)
theorem addS_nil (S : Nat → Nat → Bool) (x y face : Nat) : addS S x y face [] = S := by funext u v; simp [addS]
theorem addS_zero (S : Nat → Nat → Bool) (x y face : Nat) (l : List Int) : addS S x y face (l ++ [0]) = updS (addS S x y face l) (x + face) y true := by
  funext u v
  simp only [addS, updS, List.any_append, List.any_cons, List.any_nil, Bool.or_false, if_true]
  by_cases h : u = x + face ∧ v = y
  · obtain ⟨rfl, rfl⟩ := h; simp
  · have : (u == x + face && v == y) = false := by
      cases hc : (u == x + face && v == y)
      · rfl
      · exact absurd (by simpa using hc) h
    rw [if_neg h, this, Bool.or_false]
theorem addS_one (S : Nat → Nat → Bool) (x y face : Nat) (l : List Int) : addS S x y face (l ++ [1]) = updS (addS S x y face l) x (y + face) true := by
  funext u v
  simp only [addS, updS, List.any_append, List.any_cons, List.any_nil, Bool.or_false, show ¬ (1 : Int) = 0 by decide, if_false]
  by_cases h : u = x ∧ v = y + face
  · obtain ⟨rfl, rfl⟩ := h; simp
  · have : (u == x && v == y + face) = false := by
      cases hc : (u == x && v == y + face)
      · rfl
      · exact absurd (by simpa using hc) h
    rw [if_neg h, this, Bool.or_false]
def putS (s : Nat) (S : Nat → Nat → Bool) (x y face : Nat) : Nat → Nat → Bool := fun u v => S u v || leads s x y face u v
theorem addS_all {s x y face : Nat} (S : Nat → Nat → Bool) (h : x + face ≤ s ∨ y + face ≤ s) : addS S x y face (movK s x y face 2) = putS s S x y face := by
  funext u v
  have e1 : ((x : Int) + (face : Int) ≤ (s : Int)) ↔ x + face ≤ s := by omega
  have e2 : ((y : Int) + (face : Int) ≤ (s : Int)) ↔ y + face ≤ s := by omega
  simp only [addS, putS, leads, movK, e1, e2, if_pos h]
  by_cases h1 : x + face ≤ s <;> by_cases h2 : y + face ≤ s <;> simp [h1, h2]
theorem mov_get {s x y face : Nat} {k : Nat} (hk : k < (movK s x y face 2).length) : ((movK s x y face 2).getD k 0 = 0 ∧ x + face ≤ s) ∨ ((movK s x y face 2).getD k 0 = 1 ∧ y + face ≤ s) := by
  have e1 : ((x : Int) + (face : Int) ≤ (s : Int)) ↔ x + face ≤ s := by omega
  have e2 : ((y : Int) + (face : Int) ≤ (s : Int)) ↔ y + face ≤ s := by omega
  simp only [movK, e1, e2] at hk ⊢
  by_cases h1 : x + face ≤ s <;> by_cases h2 : y + face ≤ s <;> simp [h1, h2] at hk ⊢
  · rcases (show k = 0 ∨ k = 1 by omega) with rfl | rfl <;> simp
  · subst hk; simp
  · subst hk; simp
theorem mov_none {s x y face : Nat} (h : (movK s x y face 2).length = 0) : ¬ (x + face ≤ s ∨ y + face ≤ s) := by
  have e1 : ((x : Int) + (face : Int) ≤ (s : Int)) ↔ x + face ≤ s := by omega
  have e2 : ((y : Int) + (face : Int) ≤ (s : Int)) ↔ y + face ≤ s := by omega
  simp only [movK, e1, e2] at h
  by_cases h1 : x + face ≤ s <;> by_cases h2 : y + face ≤ s <;> simp [h1, h2] at h ⊢
theorem grown_drewP {w w' : World} {row : Option Nat} (h : w.grownBy w' row) : w.grownBy w'.drew row := ⟨h.os, h.tape, h.output, h.size, h.block⟩
theorem take_getD {l : List Int} {k : Nat} (hk : k < l.length) : l.take (k + 1) = l.take k ++ [l.getD k 0] := by
  rw [List.take_succ_eq_append_getElem hk, List.getD_eq_getElem?_getD, List.getElem?_eq_getElem hk]; rfl

set_option maxRecDepth 100000 in
set_option maxHeartbeats 2000000 in
theorem putBehind_any (g gs s x y face : Nat) (f o : Int) (G : Nat → Int) (S : Nat → Nat → Bool) (w : World) (hC : CV w g s f o G) (hS : SA w gs 69 S) (hs : s ≤ 6) (hx : x ≤ s) (hy : y ≤ s) (hf1 : 1 ≤ face) (hf : face ≤ 8) :
    Calls Try.prog 43 #[.pointer (some ⟨g, 0, none⟩), .pointer (some ⟨gs, 0, none⟩), .agg #[.int .i64 x, .int .i64 y], .int .i64 face] w fun e w' =>
      e = .returned (.tuple #[]) ∧ SA w' gs 69 (putS s S x y face) ∧ w.grownBy w' (some gs) := by
  have hgl : g < w.heap.size := cell_lt hC.sq
  have hsl := hS.lt
  obtain ⟨L, hL⟩ : ∃ L, L = movK (s : Int) x y face 2 := ⟨_, rfl⟩
  have hget : ∀ k, k < L.length → (L.getD k 0 = 0 ∧ x + face ≤ s) ∨ (L.getD k 0 = 1 ∧ y + face ≤ s) := fun k hk => by rw [hL] at hk ⊢; exact mov_get hk
  have hlen : L.length ≤ 2 := by rw [hL]; exact movK_len _ _ _ _ _
  go_enter Try.func43, Try.ntmps43
  go_wp2_with fail
  refine (movers_any g s f o G x y face _ (hC.below (below1 _ _) hgl) (by omega) (by omega) (by omega) (by omega) (by omega) (by omega)).mono ?_
  rintro e w1 ⟨A, c, rfl, ho, hx1⟩
  rw [← hL] at ho ⊢
  have hb1 : Below w.heap.size w w1 := (below1 _ _).trans (hx1.mono (by simp))
  have kb1 : w1.heap[w.heap.size]? = some (.cells #[.int .i64 (x : Int), .int .i64 (y : Int)] 63 (0, 0)) := (hx1.block _ (by simp)).trans (heap_alloc_at _ _ _ rfl)
  have S1 := hS.below hb1 hsl
  simp only [World.size_alloc] at ho
  have z1 : w.heap.size + 1 ≤ w1.heap.size := by have := hx1.size; simpa using this
  have q1 := fun i => cell_of_row w1 w.heap.size i _ _ _ kb1
  by_cases h0 : L.length = 0
  · have hno : ¬ (x + face ≤ s ∨ y + face ≤ s) := mov_none (by rw [← hL]; exact h0)
    have he : ((L.length : Int) == 0) = true := by simp [h0]
    have c0 := S1.at_ (show x < 7 by omega) (show y < 7 by omega)
    have f0 := S1.free (x * 7 + y)
    have hxi : (x : Int) < 7 := by omega
    have hyi : (y : Int) < 7 := by omega
    have hfin : SA ((w1.setCell ⟨gs, x * 7 + y, none⟩ (.bool true)).drew) gs 69 (putS s S x y face) := by
      refine SA.congr (S1.set (show x < 7 by omega) (show y < 7 by omega) true) (fun u _ v _ => ?_)
      simp only [updS, putS, leads, if_neg hno]
      by_cases h1 : u = x <;> by_cases h2 : v = y <;> simp [h1, h2]
    have HF := Lib.hid hfin
    have hgr : w.grownBy ((w1.setCell ⟨gs, x * 7 + y, none⟩ (.bool true)).drew) (some gs) := grown_drewP (grown_setCell (below_grown hb1 _) _ _ rfl)
    have HGR := Lib.hid hgr
    have hl0 : ¬ (0 : Int) < (L.length : Int) := by omega
    clear hfin hget hL hno hgr
    go_wp2_with fail
    go_region
    all_goals
      obtain ⟨W, hW⟩ : ∃ W, W = (w1.setCell ⟨gs, x * 7 + y, none⟩ (.bool true)).drew := ⟨_, rfl⟩
      rw [← hW]
      have HF' := HF.out; have HGR' := HGR.out
      rw [← hW] at HF' HGR'
      clear hW HF HGR
      go_wp2_with fail
      go_loopw [10, 11, 29] (fun _ _ i wr => i = .int .i64 0 ∧ wr = W) (fun _ _ i _ => 0)
      case atStart => exact ⟨rfl, rfl⟩
      case round =>
        obtain ⟨rfl, rfl⟩ := hrel
        go_wp2
        go_end0
        exact ⟨rfl, HF', HGR'⟩
  · have he : ((L.length : Int) == 0) = false := beq_eq_false_iff_ne.2 (by omega)
    have hyes : x + face ≤ s ∨ y + face ≤ s := by
      rcases hget 0 (by omega) with h | h
      · exact .inl h.2
      · exact .inr h.2
    have hall := addS_all S hyes
    rw [← hL] at hall
    have HALL := Lib.hid hall; have HGET := Lib.hid hget
    clear hget hL hyes hall
    go_wp2_with fail
    go_loopw [10, 11, 29] (fun _ _ i wr => ∃ k : Nat, k ≤ L.length ∧ i = .int .i64 (k : Int) ∧ SA wr gs 69 (addS S x y face (L.take k)) ∧ w.grownBy wr (some gs) ∧ wr.heap[w.heap.size]? = some (.cells #[.int .i64 (x : Int), .int .i64 (y : Int)] 63 (0, 0)) ∧ OI wr (w.heap.size + 1) 3 A L.length (fun k => L.getD k 0)) (fun _ _ i _ => L.length - (intOf i).toNat)
    case atStart => exact ⟨0, Nat.zero_le _, rfl, by rw [List.take_zero, addS_nil]; exact S1, below_grown hb1 _, kb1, ho⟩
    case round =>
      clear S1 hb1 kb1 ho z1 q1 hx1
      obtain ⟨k, hk, rfl, S1, hgr, kb1, ho⟩ := hrel
      have q1 := fun i => cell_of_row wr w.heap.size i _ _ _ kb1
      have hzw := heap_lt kb1
      have hsl' := S1.lt
      by_cases hlt : k < L.length
      · obtain ⟨gt, rfl, hlo, hr⟩ := ho.get hlt
        have ct := hr.cell hlt
        obtain ⟨tok, htok⟩ : ∃ tok, L.getD k 0 = tok := ⟨_, rfl⟩
        have hgk := HGET.out k hlt
        rw [htok] at ct hgk
        have HTK := Lib.hid htok
        clear htok
        rcases hgk with ⟨rfl, hin⟩ | ⟨rfl, hin⟩
        · obtain ⟨X, hX⟩ : ∃ X, X = x + face := ⟨_, rfl⟩
          go_wp2_with fail
          refine (moved0_any x y face _ (by omega) hf).mono ?_
          rintro e w2 ⟨rfl, hx2⟩
          rw [← hX]
          have HX := Lib.hid hX; have hXl : X ≤ 6 := by omega
          clear hX
          have S2 := (S1.below hx2 hsl').alloc (.cells #[.int .i64 (X : Int), .int .i64 (y : Int)] 63)
          have hgr2 := grown_trans (grown_trans hgr (below_grown hx2 _)) (World.grownBy_alloc w2 (.cells #[.int .i64 (X : Int), .int .i64 (y : Int)] 63) (some gs))
          have kb2 := (Below.heap_alloc w2 (.cells #[.int .i64 (X : Int), .int .i64 (y : Int)] 63) _ (heap_lt ((hx2.block _ hzw).trans kb1))).trans ((hx2.block _ hzw).trans kb1)
          have ho2 := (ho.below hx2 (Nat.le_refl _)).below (below1 w2 (.cells #[.int .i64 (X : Int), .int .i64 (y : Int)] 63)) (Nat.le_refl _)
          have kn2 : (w2.alloc (.cells #[.int .i64 (X : Int), .int .i64 (y : Int)] 63)).heap[w2.heap.size]? = some (.cells #[.int .i64 (X : Int), .int .i64 (y : Int)] 63 (0, 0)) := heap_alloc_at _ _ _ rfl
          have hnb : gs ≠ w2.heap.size := by have := hx2.size; omega
          go_wp2_with fail
          obtain ⟨W, hW⟩ : ∃ W, W = w2.alloc (.cells #[.int .i64 (X : Int), .int .i64 (y : Int)] 63) := ⟨_, rfl⟩
          rw [← hW]
          rw [← hW] at S2 hgr2 kb2 ho2 kn2
          have qn := fun i => cell_of_row W w2.heap.size i _ _ _ kn2
          have c0 := S2.at_ (show X < 7 by omega) (show y < 7 by omega)
          have f0 := S2.free (X * 7 + y)
          have b1 : (X : Int) < 7 := by omega
          have b2 : (y : Int) < 7 := by omega
          clear hW q1 ct S1 hx2 ho kb1 hr
          go_region
          all_goals
            go_wp2
            go_roundw
            case rel =>
              refine ⟨k + 1, by omega, by go_num, ?_, grown_drewP (grown_setCell hgr2 ⟨gs, _, none⟩ _ rfl), (Below.heap_setCell _ _ _ _ (by simp; omega)).trans kb2, ?_⟩
              · rw [take_getD hlt, HTK.out, addS_zero, ← HX.out]
                exact S2.set (by omega) (by omega) true
              · exact OI.grown ho2 (row := some gs) (grown_drewP (grown_setCell (grown_refl _ _) ⟨gs, _, none⟩ _ rfl)) (fun g h => by cases h; omega)
            case measure => simp [intOf]; omega
        · obtain ⟨X, hX⟩ : ∃ X, X = y + face := ⟨_, rfl⟩
          go_wp2_with fail
          refine (moved1_any x y face _ (by omega) hf).mono ?_
          rintro e w2 ⟨rfl, hx2⟩
          rw [← hX]
          have HX := Lib.hid hX; have hXl : X ≤ 6 := by omega
          clear hX
          have S2 := (S1.below hx2 hsl').alloc (.cells #[.int .i64 (x : Int), .int .i64 (X : Int)] 63)
          have hgr2 := grown_trans (grown_trans hgr (below_grown hx2 _)) (World.grownBy_alloc w2 (.cells #[.int .i64 (x : Int), .int .i64 (X : Int)] 63) (some gs))
          have kb2 := (Below.heap_alloc w2 (.cells #[.int .i64 (x : Int), .int .i64 (X : Int)] 63) _ (heap_lt ((hx2.block _ hzw).trans kb1))).trans ((hx2.block _ hzw).trans kb1)
          have ho2 := (ho.below hx2 (Nat.le_refl _)).below (below1 w2 (.cells #[.int .i64 (x : Int), .int .i64 (X : Int)] 63)) (Nat.le_refl _)
          have kn2 : (w2.alloc (.cells #[.int .i64 (x : Int), .int .i64 (X : Int)] 63)).heap[w2.heap.size]? = some (.cells #[.int .i64 (x : Int), .int .i64 (X : Int)] 63 (0, 0)) := heap_alloc_at _ _ _ rfl
          have hnb : gs ≠ w2.heap.size := by have := hx2.size; omega
          go_wp2_with fail
          obtain ⟨W, hW⟩ : ∃ W, W = w2.alloc (.cells #[.int .i64 (x : Int), .int .i64 (X : Int)] 63) := ⟨_, rfl⟩
          rw [← hW]
          rw [← hW] at S2 hgr2 kb2 ho2 kn2
          have qn := fun i => cell_of_row W w2.heap.size i _ _ _ kn2
          have c0 := S2.at_ (show x < 7 by omega) (show X < 7 by omega)
          have f0 := S2.free (x * 7 + X)
          have b1 : (x : Int) < 7 := by omega
          have b2 : (X : Int) < 7 := by omega
          clear hW q1 ct S1 hx2 ho kb1 hr
          go_region
          all_goals
            go_wp2
            go_roundw
            case rel =>
              refine ⟨k + 1, by omega, by go_num, ?_, grown_drewP (grown_setCell hgr2 ⟨gs, _, none⟩ _ rfl), (Below.heap_setCell _ _ _ _ (by simp; omega)).trans kb2, ?_⟩
              · rw [take_getD hlt, HTK.out, addS_one, ← HX.out]
                exact S2.set (by omega) (by omega) true
              · exact OI.grown ho2 (row := some gs) (grown_drewP (grown_setCell (grown_refl _ _) ⟨gs, _, none⟩ _ rfl)) (fun g h => by cases h; omega)
            case measure => simp [intOf]; omega
      · obtain rfl : k = L.length := by omega
        go_wp2
        go_end0
        refine ⟨rfl, ?_, hgr⟩
        rw [← HALL.out]
        simpa using S1
end Go.Proofs.Ytknclgfjoajldab

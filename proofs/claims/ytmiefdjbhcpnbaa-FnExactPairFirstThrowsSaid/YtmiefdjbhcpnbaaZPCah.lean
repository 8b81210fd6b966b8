/- Several texts, one behind the other: C5n WSet C5d C5e. -/
import Derived.BigRegion
import Derived.Test.YtmiefdjbhcpnbaaZPCag
import Derived.Test.YtmiefdjbhcpnbaaZPCaf

namespace Go.Proofs.Ytmiefdjbhcpnbaa
open Go.RowKit

set_option maxRecDepth 100000 in
theorem moved0_any (x y face : Nat) (w : World) (hx : x ≤ 100) (hf : face ≤ 8) :
    Calls Try.prog 58 #[.agg #[.int .i64 x, .int .i64 y], .int .i64 0, .int .i64 face] w fun e w' => e = .returned (.agg #[.int .i64 (x + face : Nat), .int .i64 y]) ∧ Below w.heap.size w w' := by
  have w0 : IntKind.i64.wrap ((x : Int) + (face : Int)) = (x : Int) + (face : Int) := IntWalk.i64_in _ (by omega)
  have he : (x : Int) + (face : Int) = ((x + face : Nat) : Int) := by omega
  have HE := Lib.hid he; clear he
  go_enter Try.func58, Try.ntmps58
  go_wp2
  exact bodyPost_ret (v := .agg #[.int .i64 ((x : Int) + (face : Int)), .int .i64 y]) (by simp [results, Try.results58, go_sem]) rfl ⟨by rw [HE.out], below2 _ _ _⟩
set_option maxRecDepth 100000 in
theorem moved1_any (x y face : Nat) (w : World) (hx : y ≤ 100) (hf : face ≤ 8) :
    Calls Try.prog 58 #[.agg #[.int .i64 x, .int .i64 y], .int .i64 1, .int .i64 face] w fun e w' => e = .returned (.agg #[.int .i64 x, .int .i64 (y + face : Nat)]) ∧ Below w.heap.size w w' := by
  have w0 : IntKind.i64.wrap ((y : Int) + (face : Int)) = (y : Int) + (face : Int) := IntWalk.i64_in _ (by omega)
  have he : (y : Int) + (face : Int) = ((y + face : Nat) : Int) := by omega
  have HE := Lib.hid he; clear he
  go_enter Try.func58, Try.ntmps58
  go_wp2
  exact bodyPost_ret (v := .agg #[.int .i64 x, .int .i64 ((y : Int) + (face : Int))]) (by simp [results, Try.results58, go_sem]) rfl ⟨by rw [HE.out], below2 _ _ _⟩
end Go.Proofs.Ytmiefdjbhcpnbaa

namespace Go.Proofs.Ytmiefdjbhcpnbaa
open Go.RowKit

def setC (S : Nat → Nat → Bool) : Array Value := ((List.range 49).map (fun i => Value.bool (S (i / 7) (i % 7)))).toArray
def rowS (S : Nat → Nat → Bool) (x : Nat) : Array Value := ((List.range 7).map (fun y => Value.bool (S x y))).toArray
def updPS (S : Nat → Nat → Bool) (a b : Nat) (v : Bool) : Nat → Nat → Bool := fun x y => if x = a ∧ y = b then v else S x y
section
variable {S T : Nat → Nat → Bool}
theorem setC_size (S : Nat → Nat → Bool) : (setC S).size = 49 := by simp [setC]
theorem setC_idx (S : Nat → Nat → Bool) {i : Nat} (hi : i < 49) : (setC S)[i]? = some (.bool (S (i / 7) (i % 7))) := by simp [setC, hi]
theorem setC_at (S : Nat → Nat → Bool) {x y : Nat} (hx : x < 7) (hy : y < 7) : (setC S)[x * 7 + y]? = some (.bool (S x y)) := by
  rw [setC_idx S (by omega), show (x * 7 + y) / 7 = x by omega, show (x * 7 + y) % 7 = y by omega]
theorem setC_one (S : Nat → Nat → Bool) : ∀ u ∈ (setC S).toList, u.oneCell' = true := by
  intro u hu
  simp only [setC, List.mem_map] at hu
  obtain ⟨i, _, rfl⟩ := hu
  rfl
theorem setC_congr (h : ∀ x < 7, ∀ y < 7, S x y = T x y) : setC S = setC T := by
  apply Array.ext_getElem?
  intro i
  by_cases hi : i < 49
  · rw [setC_idx S hi, setC_idx T hi, h _ (by omega) _ (by omega)]
  · rw [Array.getElem?_eq_none (by rw [setC_size]; omega), Array.getElem?_eq_none (by rw [setC_size]; omega)]
theorem setC_set (S : Nat → Nat → Bool) {x y : Nat} (hx : x < 7) (hy : y < 7) (v : Bool) : (setC S).setIfInBounds (x * 7 + y) (.bool v) = setC (updPS S x y v) := by
  apply Array.ext_getElem?
  intro i
  rw [Array.getElem?_setIfInBounds, setC_size]
  by_cases hi : x * 7 + y = i
  · subst hi
    rw [if_pos rfl, if_pos (by omega), setC_at _ hx hy]
    simp [updPS]
  · rw [if_neg hi]
    by_cases hj : i < 49
    · rw [setC_idx _ hj, setC_idx _ hj]
      have : ¬ (i / 7 = x ∧ i % 7 = y) := by omega
      simp [updPS, this]
    · rw [Array.getElem?_eq_none (by rw [setC_size]; omega), Array.getElem?_eq_none (by rw [setC_size]; omega)]
end
/-- Block g is a set. -/
def SA (w : World) (g : Nat) (t : TypeId) (S : Nat → Nat → Bool) : Prop := w.heap[g]? = some (.cells (setC S) t (0, 0))
section
variable {w w' : World} {g B : Nat} {t : TypeId} {S T : Nat → Nat → Bool}
theorem SA.lt (h : SA w g t S) : g < w.heap.size := heap_lt h
theorem SA.at_ (h : SA w g t S) {x y : Nat} (hx : x < 7) (hy : y < 7) : w.cell? ⟨g, x * 7 + y, none⟩ = some (.bool (S x y)) := (cell_of_row _ _ _ _ _ _ h).trans (setC_at S hx hy)
theorem SA.free (h : SA w g t S) (i : Nat) : w.frozen? ⟨g, i, none⟩ = false := frozen_row h
theorem SA.below (h : SA w g t S) (hb : Below B w w') (hg : g < B) : SA w' g t S := (hb.block g hg).trans h
theorem SA.grown {row : Option Nat} (h : SA w g t S) (hg : w.grownBy w' row) (hne : some g ≠ row) : SA w' g t S := (hg.block g h.lt hne).trans h
theorem SA.alloc (h : SA w g t S) (o : Obj) : SA (w.alloc o) g t S := (Below.heap_alloc w o g h.lt).trans h
theorem SA.set (h : SA w g t S) {x y : Nat} (hx : x < 7) (hy : y < 7) (v : Bool) : SA (w.setCell ⟨g, x * 7 + y, none⟩ (.bool v)) g t (updPS S x y v) := by
  have := heap_set w g (x * 7 + y) _ _ (.bool v) h
  rw [setC_set S hx hy] at this
  exact this
theorem SA.congr (h : SA w g t S) (he : ∀ x < 7, ∀ y < 7, S x y = T x y) : SA w g t T := by
  have h' := h
  unfold SA at h' ⊢
  rw [h', setC_congr he]
end
end Go.Proofs.Ytmiefdjbhcpnbaa

namespace Go.Proofs.Ytmiefdjbhcpnbaa
open Go.RowKit

set_option maxRecDepth 100000 in
theorem zeroSet : (#[.bool false, .bool false, .bool false, .bool false, .bool false, .bool false, .bool false, .bool false, .bool false, .bool false, .bool false, .bool false, .bool false, .bool false, .bool false, .bool false, .bool false, .bool false, .bool false, .bool false, .bool false, .bool false, .bool false, .bool false, .bool false, .bool false, .bool false, .bool false, .bool false, .bool false, .bool false, .bool false, .bool false, .bool false, .bool false, .bool false, .bool false, .bool false, .bool false, .bool false, .bool false, .bool false, .bool false, .bool false, .bool false, .bool false, .bool false, .bool false, .bool false] : Array Value) = setC (fun _ _ => false) := by kernel_rfl
theorem sizeSet : (Try.prog.info? 49).map (·.size) = some 49 := by kernel_rfl

set_option maxRecDepth 100000 in
theorem setOf_any (a b : Nat) (w : World) (ha : a < 7) (hb : b < 7) :
    Calls Try.prog 26 #[.int .i64 a, .int .i64 b] w fun e w' => e = .returned (.agg (setC (oneS a b))) ∧ Below w.heap.size w w' := by
  have hz := zeroSet
  have hset := setC_set (fun _ _ => false) ha hb true
  have hU : setC (updPS (fun _ _ => false) a b true) = setC (oneS a b) := setC_congr fun x _ y _ => by simp only [updPS, oneS]; by_cases h1 : x = a <;> by_cases h2 : y = b <;> simp [h1, h2]
  rw [hU] at hset
  have hS : SA ((w.alloc (.cells (setC (fun _ _ => false)) 49)).alloc (.cells (setC (fun _ _ => false)) 49)) (w.heap.size + 1) 49 (fun _ _ => false) := heap_alloc_at _ _ _ (by simp)
  have hR : SA ((w.alloc (.cells (setC (fun _ _ => false)) 49)).alloc (.cells (setC (oneS a b)) 49)) (w.heap.size + 1) 49 (oneS a b) := heap_alloc_at _ _ _ (by simp)
  have hR0 : SA ((w.alloc (.cells (setC (fun _ _ => false)) 49)).alloc (.cells (setC (oneS a b)) 49)) w.heap.size 49 (fun _ _ => false) := (Below.heap_alloc _ _ _ (by simp)).trans (heap_alloc_at _ _ _ rfl)
  have c0 := hS.at_ ha hb
  have f0 := hS.free (a * 7 + b)
  clear hU hS
  go_enter Try.func26, Try.ntmps26
  go_wp2_with (first | (refine wpList_load_row rfl 49 (.tmp 5) rfl (w.heap.size + 1) rfl _ _ _ _ hR Try.underlying49 rfl ?_ ?_; (rw [setC_size]; exact sizeSet)) | (refine wpList_store_row rfl 49 (.tmp 4) (.tmp 10) rfl w.heap.size rfl _ _ _ rfl hR0 ?_ ?_ (setC_one _) ?_; (rw [setC_size, setC_size]); (rw [setC_size]; exact sizeSet); intro w4 hC4 hg4 hs4))
  exact bodyPost_ret (v := .agg (setC (oneS a b))) (results_cell1k Try.results26 _ _ _ _ _ _ _ rfl hC4 Try.underlying49 rfl (by rw [setC_size]; exact sizeSet)) rfl
    ⟨rfl, (below2 _ _ _).grown hg4 (by simp; omega) (fun k h => by cases h; omega)⟩
end Go.Proofs.Ytmiefdjbhcpnbaa

namespace Go.Proofs.Ytmiefdjbhcpnbaa
open Go.RowKit

theorem cell_kept {w w' : World} {g : Nat} (h : w'.heap[g]? = w.heap[g]?) (i : Nat) : w'.cell? ⟨g, i, none⟩ = w.cell? ⟨g, i, none⟩ := by simp [World.cell?, h]
theorem CV.kept {w w' : World} {g : Nat} {s f o : Int} {G : Nat → Int} (h : CV w g s f o G) (hb : w'.heap[g]? = w.heap[g]?) : CV w' g s f o G :=
  ⟨(cell_kept hb _).trans h.sq, (cell_kept hb _).trans h.fa, (cell_kept hb _).trans h.ov, fun hi => (cell_kept hb _).trans (h.at_ hi)⟩
/-- What tokens add to a set that move by a face. -/
def addS (S : Nat → Nat → Bool) (x y face : Nat) (l : List Int) : Nat → Nat → Bool :=
  fun u v => S u v || l.any (fun t => if t = 0 then u == x + face && v == y else u == x && v == y + face)
theorem addS_nil (S : Nat → Nat → Bool) (x y face : Nat) : addS S x y face [] = S := by funext u v; simp [addS]
theorem addS_zero (S : Nat → Nat → Bool) (x y face : Nat) (l : List Int) : addS S x y face (l ++ [0]) = updPS (addS S x y face l) (x + face) y true := by
  funext u v
  simp only [addS, updPS, List.any_append, List.any_cons, List.any_nil, Bool.or_false, if_true]
  by_cases h : u = x + face ∧ v = y
  · obtain ⟨rfl, rfl⟩ := h; simp
  · have : (u == x + face && v == y) = false := by
      cases hc : (u == x + face && v == y)
      · rfl
      · exact absurd (by simpa using hc) h
    rw [if_neg h, this, Bool.or_false]
theorem addS_one (S : Nat → Nat → Bool) (x y face : Nat) (l : List Int) : addS S x y face (l ++ [1]) = updPS (addS S x y face l) x (y + face) true := by
  funext u v
  simp only [addS, updPS, List.any_append, List.any_cons, List.any_nil, Bool.or_false, show ¬ (1 : Int) = 0 by decide, if_false]
  by_cases h : u = x ∧ v = y + face
  · obtain ⟨rfl, rfl⟩ := h; simp
  · have : (u == x && v == y + face) = false := by
      cases hc : (u == x && v == y + face)
      · rfl
      · exact absurd (by simpa using hc) h
    rw [if_neg h, this, Bool.or_false]
def putS (s : Nat) (S : Nat → Nat → Bool) (x y face : Nat) : Nat → Nat → Bool := fun u v => S u v || leads s x y face u v
theorem addS_all {s x y face : Nat} (S : Nat → Nat → Bool) (h : x + face ≤ s ∨ y + face ≤ s) : addS S x y face (movK s x y face 2) = putS s S x y face := by
  funext u v
  have e1 : ((x : Int) + (face : Int) ≤ (s : Int)) ↔ x + face ≤ s := by omega
  have e2 : ((y : Int) + (face : Int) ≤ (s : Int)) ↔ y + face ≤ s := by omega
  simp only [addS, putS, leads, movK, e1, e2, if_pos h]
  by_cases h1 : x + face ≤ s <;> by_cases h2 : y + face ≤ s <;> simp [h1, h2]
theorem mov_get {s x y face : Nat} {k : Nat} (hk : k < (movK s x y face 2).length) : ((movK s x y face 2).getD k 0 = 0 ∧ x + face ≤ s) ∨ ((movK s x y face 2).getD k 0 = 1 ∧ y + face ≤ s) := by
  have e1 : ((x : Int) + (face : Int) ≤ (s : Int)) ↔ x + face ≤ s := by omega
  have e2 : ((y : Int) + (face : Int) ≤ (s : Int)) ↔ y + face ≤ s := by omega
  simp only [movK, e1, e2] at hk ⊢
  by_cases h1 : x + face ≤ s <;> by_cases h2 : y + face ≤ s <;> simp [h1, h2] at hk ⊢
  · rcases (show k = 0 ∨ k = 1 by omega) with rfl | rfl <;> simp
  · subst hk; simp
  · subst hk; simp
theorem mov_none {s x y face : Nat} (h : (movK s x y face 2).length = 0) : ¬ (x + face ≤ s ∨ y + face ≤ s) := by
  have e1 : ((x : Int) + (face : Int) ≤ (s : Int)) ↔ x + face ≤ s := by omega
  have e2 : ((y : Int) + (face : Int) ≤ (s : Int)) ↔ y + face ≤ s := by omega
  simp only [movK, e1, e2] at h
  by_cases h1 : x + face ≤ s <;> by_cases h2 : y + face ≤ s <;> simp [h1, h2] at h ⊢
theorem grown_drewP {w w' : World} {row : Option Nat} (h : w.grownBy w' row) : w.grownBy w'.drew row := ⟨h.os, h.tape, h.output, h.size, h.block⟩
theorem take_getD {l : List Int} {k : Nat} (hk : k < l.length) : l.take (k + 1) = l.take k ++ [l.getD k 0] := by
  rw [List.take_succ_eq_append_getElem hk, List.getD_eq_getElem?_getD, List.getElem?_eq_getElem hk]; rfl

set_option maxRecDepth 100000 in
set_option maxHeartbeats 2000000 in
theorem putBehind_any (g gs s x y face : Nat) (f o : Int) (G : Nat → Int) (S : Nat → Nat → Bool) (w : World) (hC : CV w g s f o G) (hS : SA w gs 49 S) (hs : s ≤ 6) (hx : x ≤ s) (hy : y ≤ s) (hf1 : 1 ≤ face) (hf : face ≤ 8) :
    Calls Try.prog 46 #[.pointer (some ⟨g, 0, none⟩), .pointer (some ⟨gs, 0, none⟩), .agg #[.int .i64 x, .int .i64 y], .int .i64 face] w fun e w' =>
      e = .returned (.tuple #[]) ∧ SA w' gs 49 (putS s S x y face) ∧ w.grownBy w' (some gs) := by
  have hgl : g < w.heap.size := cell_lt hC.sq
  have hsl := hS.lt
  obtain ⟨L, hL⟩ : ∃ L, L = movK (s : Int) x y face 2 := ⟨_, rfl⟩
  have hget : ∀ k, k < L.length → (L.getD k 0 = 0 ∧ x + face ≤ s) ∨ (L.getD k 0 = 1 ∧ y + face ≤ s) := fun k hk => by rw [hL] at hk ⊢; exact mov_get hk
  have hlen : L.length ≤ 2 := by rw [hL]; exact movK_len _ _ _ _ _
  go_enter Try.func46, Try.ntmps46
  go_wp2_with fail
  refine (movers_any g s f o G x y face _ (hC.below (below1 _ _) hgl) (by omega) (by omega) (by omega) (by omega) (by omega) (by omega)).mono ?_
  rintro e w1 ⟨A, c, rfl, ho, hx1⟩
  rw [← hL] at ho ⊢
  have hb1 : Below w.heap.size w w1 := (below1 _ _).trans (hx1.mono (by simp))
  have kb1 : w1.heap[w.heap.size]? = some (.cells #[.int .i64 (x : Int), .int .i64 (y : Int)] 56 (0, 0)) := (hx1.block _ (by simp)).trans (heap_alloc_at _ _ _ rfl)
  have S1 := hS.below hb1 hsl
  simp only [World.size_alloc] at ho
  have z1 : w.heap.size + 1 ≤ w1.heap.size := by have := hx1.size; simpa using this
  have q1 := fun i => cell_of_row w1 w.heap.size i _ _ _ kb1
  by_cases h0 : L.length = 0
  · have hno : ¬ (x + face ≤ s ∨ y + face ≤ s) := mov_none (by rw [← hL]; exact h0)
    have he : ((L.length : Int) == 0) = true := by simp [h0]
    have c0 := S1.at_ (show x < 7 by omega) (show y < 7 by omega)
    have f0 := S1.free (x * 7 + y)
    have hxi : (x : Int) < 7 := by omega
    have hyi : (y : Int) < 7 := by omega
    have hfin : SA ((w1.setCell ⟨gs, x * 7 + y, none⟩ (.bool true)).drew) gs 49 (putS s S x y face) := by
      refine SA.congr (S1.set (show x < 7 by omega) (show y < 7 by omega) true) (fun u _ v _ => ?_)
      simp only [updPS, putS, leads, if_neg hno]
      by_cases h1 : u = x <;> by_cases h2 : v = y <;> simp [h1, h2]
    have HF := Lib.hid hfin
    have hgr : w.grownBy ((w1.setCell ⟨gs, x * 7 + y, none⟩ (.bool true)).drew) (some gs) := grown_drewP (grown_setCell (below_grown hb1 _) _ _ rfl)
    have HGR := Lib.hid hgr
    have hl0 : ¬ (0 : Int) < (L.length : Int) := by omega
    clear hfin hget hL hno hgr
    go_wp2_with fail
    go_region
    all_goals
      obtain ⟨W, hW⟩ : ∃ W, W = (w1.setCell ⟨gs, x * 7 + y, none⟩ (.bool true)).drew := ⟨_, rfl⟩
      rw [← hW]
      have HF' := HF.out; have HGR' := HGR.out
      rw [← hW] at HF' HGR'
      clear hW HF HGR
      go_wp2_with fail
      go_loopw [10, 11, 29] (fun _ _ i wr => i = .int .i64 0 ∧ wr = W) (fun _ _ i _ => 0)
      case atStart => exact ⟨rfl, rfl⟩
      case round =>
        obtain ⟨rfl, rfl⟩ := hrel
        go_wp2
        go_end0
        exact ⟨rfl, HF', HGR'⟩
  · have he : ((L.length : Int) == 0) = false := beq_eq_false_iff_ne.2 (by omega)
    have hyes : x + face ≤ s ∨ y + face ≤ s := by
      rcases hget 0 (by omega) with h | h
      · exact .inl h.2
      · exact .inr h.2
    have hall := addS_all S hyes
    rw [← hL] at hall
    have HALL := Lib.hid hall; have HGET := Lib.hid hget
    clear hget hL hyes hall
    go_wp2_with fail
    go_loopw [10, 11, 29] (fun _ _ i wr => ∃ k : Nat, k ≤ L.length ∧ i = .int .i64 (k : Int) ∧ SA wr gs 49 (addS S x y face (L.take k)) ∧ w.grownBy wr (some gs) ∧ wr.heap[w.heap.size]? = some (.cells #[.int .i64 (x : Int), .int .i64 (y : Int)] 56 (0, 0)) ∧ OI wr (w.heap.size + 1) 3 A L.length (fun k => L.getD k 0)) (fun _ _ i _ => L.length - (intOf i).toNat)
    case atStart => exact ⟨0, Nat.zero_le _, rfl, by rw [List.take_zero, addS_nil]; exact S1, below_grown hb1 _, kb1, ho⟩
    case round =>
      clear S1 hb1 kb1 ho z1 q1 hx1
      obtain ⟨k, hk, rfl, S1, hgr, kb1, ho⟩ := hrel
      have q1 := fun i => cell_of_row wr w.heap.size i _ _ _ kb1
      have hzw := heap_lt kb1
      have hsl' := S1.lt
      by_cases hlt : k < L.length
      · obtain ⟨gt, rfl, hlo, hr⟩ := ho.get hlt
        have ct := hr.cell hlt
        obtain ⟨tok, htok⟩ : ∃ tok, L.getD k 0 = tok := ⟨_, rfl⟩
        have hgk := HGET.out k hlt
        rw [htok] at ct hgk
        have HTK := Lib.hid htok
        clear htok
        rcases hgk with ⟨rfl, hin⟩ | ⟨rfl, hin⟩
        · obtain ⟨X, hX⟩ : ∃ X, X = x + face := ⟨_, rfl⟩
          go_wp2_with fail
          refine (moved0_any x y face _ (by omega) hf).mono ?_
          rintro e w2 ⟨rfl, hx2⟩
          rw [← hX]
          have HX := Lib.hid hX; have hXl : X ≤ 6 := by omega
          clear hX
          have S2 := (S1.below hx2 hsl').alloc (.cells #[.int .i64 (X : Int), .int .i64 (y : Int)] 56)
          have hgr2 := grown_trans (grown_trans hgr (below_grown hx2 _)) (World.grownBy_alloc w2 (.cells #[.int .i64 (X : Int), .int .i64 (y : Int)] 56) (some gs))
          have kb2 := (Below.heap_alloc w2 (.cells #[.int .i64 (X : Int), .int .i64 (y : Int)] 56) _ (heap_lt ((hx2.block _ hzw).trans kb1))).trans ((hx2.block _ hzw).trans kb1)
          have ho2 := (ho.below hx2 (Nat.le_refl _)).below (below1 w2 (.cells #[.int .i64 (X : Int), .int .i64 (y : Int)] 56)) (Nat.le_refl _)
          have kn2 : (w2.alloc (.cells #[.int .i64 (X : Int), .int .i64 (y : Int)] 56)).heap[w2.heap.size]? = some (.cells #[.int .i64 (X : Int), .int .i64 (y : Int)] 56 (0, 0)) := heap_alloc_at _ _ _ rfl
          have hnb : gs ≠ w2.heap.size := by have := hx2.size; omega
          go_wp2_with fail
          obtain ⟨W, hW⟩ : ∃ W, W = w2.alloc (.cells #[.int .i64 (X : Int), .int .i64 (y : Int)] 56) := ⟨_, rfl⟩
          rw [← hW]
          rw [← hW] at S2 hgr2 kb2 ho2 kn2
          have qn := fun i => cell_of_row W w2.heap.size i _ _ _ kn2
          have c0 := S2.at_ (show X < 7 by omega) (show y < 7 by omega)
          have f0 := S2.free (X * 7 + y)
          have b1 : (X : Int) < 7 := by omega
          have b2 : (y : Int) < 7 := by omega
          clear hW q1 ct S1 hx2 ho kb1 hr
          go_region
          all_goals
            go_wp2
            go_roundw
            case rel =>
              refine ⟨k + 1, by omega, by go_num, ?_, grown_drewP (grown_setCell hgr2 ⟨gs, _, none⟩ _ rfl), (Below.heap_setCell _ _ _ _ (by simp; omega)).trans kb2, ?_⟩
              · rw [take_getD hlt, HTK.out, addS_zero, ← HX.out]
                exact S2.set (by omega) (by omega) true
              · exact OI.grown ho2 (row := some gs) (grown_drewP (grown_setCell (grown_refl _ _) ⟨gs, _, none⟩ _ rfl)) (fun g h => by cases h; omega)
            case measure => simp [intOf]; omega
        · obtain ⟨X, hX⟩ : ∃ X, X = y + face := ⟨_, rfl⟩
          go_wp2_with fail
          refine (moved1_any x y face _ (by omega) hf).mono ?_
          rintro e w2 ⟨rfl, hx2⟩
          rw [← hX]
          have HX := Lib.hid hX; have hXl : X ≤ 6 := by omega
          clear hX
          have S2 := (S1.below hx2 hsl').alloc (.cells #[.int .i64 (x : Int), .int .i64 (X : Int)] 56)
          have hgr2 := grown_trans (grown_trans hgr (below_grown hx2 _)) (World.grownBy_alloc w2 (.cells #[.int .i64 (x : Int), .int .i64 (X : Int)] 56) (some gs))
          have kb2 := (Below.heap_alloc w2 (.cells #[.int .i64 (x : Int), .int .i64 (X : Int)] 56) _ (heap_lt ((hx2.block _ hzw).trans kb1))).trans ((hx2.block _ hzw).trans kb1)
          have ho2 := (ho.below hx2 (Nat.le_refl _)).below (below1 w2 (.cells #[.int .i64 (x : Int), .int .i64 (X : Int)] 56)) (Nat.le_refl _)
          have kn2 : (w2.alloc (.cells #[.int .i64 (x : Int), .int .i64 (X : Int)] 56)).heap[w2.heap.size]? = some (.cells #[.int .i64 (x : Int), .int .i64 (X : Int)] 56 (0, 0)) := heap_alloc_at _ _ _ rfl
          have hnb : gs ≠ w2.heap.size := by have := hx2.size; omega
          go_wp2_with fail
          obtain ⟨W, hW⟩ : ∃ W, W = w2.alloc (.cells #[.int .i64 (x : Int), .int .i64 (X : Int)] 56) := ⟨_, rfl⟩
          rw [← hW]
          rw [← hW] at S2 hgr2 kb2 ho2 kn2
          have qn := fun i => cell_of_row W w2.heap.size i _ _ _ kn2
          have c0 := S2.at_ (show x < 7 by omega) (show X < 7 by omega)
          have f0 := S2.free (x * 7 + X)
          have b1 : (x : Int) < 7 := by omega
          have b2 : (X : Int) < 7 := by omega
          clear hW q1 ct S1 hx2 ho kb1 hr
          go_region
          all_goals
            go_wp2
            go_roundw
            case rel =>
              refine ⟨k + 1, by omega, by go_num, ?_, grown_drewP (grown_setCell hgr2 ⟨gs, _, none⟩ _ rfl), (Below.heap_setCell _ _ _ _ (by simp; omega)).trans kb2, ?_⟩
              · rw [take_getD hlt, HTK.out, addS_one, ← HX.out]
                exact S2.set (by omega) (by omega) true
              · exact OI.grown ho2 (row := some gs) (grown_drewP (grown_setCell (grown_refl _ _) ⟨gs, _, none⟩ _ rfl)) (fun g h => by cases h; omega)
            case measure => simp [intOf]; omega
      · obtain rfl : k = L.length := by omega
        go_wp2
        go_end0
        refine ⟨rfl, ?_, hgr⟩
        rw [← HALL.out]
        simpa using S1
end Go.Proofs.Ytmiefdjbhcpnbaa

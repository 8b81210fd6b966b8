/-
  Dice: throws that are wanted are counted, by whatever function.
-/
import Derived.Test.YtblpfjjnlfjloacC6d
namespace Go.Proofs.Ytblpfjjnlfjloac
open Go.RowKit

/-- A function tells of each throw whether it is wanted; what it has captured is held by I. -/
def Wants (F : FuncId) (caps : Array Value) (d f : Nat) (p : List Nat → Bool) (I : World → Prop) : Prop :=
  ∀ t W, t ∈ ups d f → I W → Calls Try.prog F (#[.agg (thC (gt t))] ++ caps) W fun e W' => e = .returned (.bool (p t)) ∧ Below W.heap.size W W'
def StableI (B : Nat) (I : World → Prop) : Prop := ∀ W W', I W → (∀ k, k < B → W'.heap[k]? = W.heap[k]?) → I W'
def cntP (p : List Nat → Bool) (L : List (List Nat)) : Nat := tot (fun t => ordN t * is (p t)) L
theorem cntP_snoc (p : List Nat → Bool) (L : List (List Nat)) (t : List Nat) : cntP p (L ++ [t]) = if p t then cntP p L + ordN t else cntP p L := by
  unfold cntP
  rw [tot_app]
  show _ + (ordN t * is (p t) + 0) = _
  cases h : p t <;> simp [is]
theorem pow_12c {d f : Nat} (hd : d ≤ 8) (hf : f ≤ 12) (hf1 : 1 ≤ f) : f ^ d ≤ 429981696 := by
  calc f ^ d ≤ f ^ 8 := Nat.pow_le_pow_right (by omega) hd
    _ ≤ 12 ^ 8 := Nat.pow_le_pow_left hf 8
    _ = 429981696 := by decide
theorem cntP_le {d f : Nat} {p : List Nat → Bool} {pre post : List (List Nat)} (h : ups d f = pre ++ post) (hd : d ≤ 8) (hf : f ≤ 12) (hf1 : 1 ≤ f) : cntP p pre ≤ 429981696 := by
  have h1 : cntP p (ups d f) ≤ f ^ d := W_is_le d f p
  have h2 : cntP p (pre ++ post) = cntP p pre + cntP p post := tot_app _ _ _
  rw [h, h2] at h1
  have := pow_12c hd hf hf1
  omega
theorem cell_keptC {w w' : World} {g : Nat} (h : w'.heap[g]? = w.heap[g]?) (i : Nat) : w'.cell? ⟨g, i, none⟩ = w.cell? ⟨g, i, none⟩ := by simp [World.cell?, h]
theorem grown_setCellC {w w' : World} {R : Nat} (hB : Below w.heap.size w w') (u : Value) : w.grownBy (w'.setCell ⟨R, 0, none⟩ u) (some R) := grown_setCell (below_grown hB _) _ _ rfl

set_option maxRecDepth 100000 in
set_option maxHeartbeats 1000000 in
theorem countTell_any (gw gn o n : Nat) (b : Bool) (F : FuncId) (caps : Array Value) (t : List Nat) (w : World) (hE : EntersT F) (hW : ∀ W, Below w.heap.size w W → Calls Try.prog F (#[.agg (thC (gt t))] ++ caps) W fun e W' => e = .returned (.bool b) ∧ Below W.heap.size W W')
    (ho : o ≤ 40320) (hn : n ≤ 429981696) (cw : w.cell? ⟨gw, 0, none⟩ = some (.func (.func F) #[] caps)) (cn : w.heap[gn]? = some (.cells #[.int .i64 n] 3 (0, 0))) (N : Nat) (hN : (b = true ∧ N = n + o) ∨ (b = false ∧ N = n)) :
    Calls Try.prog 41 #[.agg (thC (gt t)), .int .i64 o, .pointer (some ⟨gw, 0, none⟩), .pointer (some ⟨gn, 0, none⟩)] w fun e w' =>
      e = .returned (.tuple #[]) ∧ w'.heap[gn]? = some (.cells #[.int .i64 N] 3 (0, 0)) ∧ w.grownBy w' (some gn) := by
  have HE := hE
  unfold EntersT at HE
  have lw := cell_lt cw
  have ln := heap_lt cn
  have hB1 := below1 w (.cells (thC (gt t)) 37)
  have kb : TA (w.alloc (.cells (thC (gt t)) 37)) w.heap.size 37 (gt t) := heap_alloc_at _ _ _ rfl
  have c1 : (w.alloc (.cells (thC (gt t)) 37)).cell? ⟨gw, 0, none⟩ = some (.func (.func F) #[] caps) := (bcell hB1 lw).trans cw
  have n1 := (hB1.block gn ln).trans cn
  have HW := Lib.hid hW
  clear hE hW
  rcases hN with ⟨rfl, hN⟩ | ⟨rfl, rfl⟩
  · have hno : (n : Int) + (o : Int) = (N : Int) := by omega
    have hN9 : N ≤ 500000000 := by omega
    clear hN
    go_enter Try.func41, Try.ntmps41
    go_wp2_with (refine wpList_load_row rfl 37 (.tmp 4) rfl w.heap.size rfl _ _ _ _ kb Try.underlying37 rfl ?_ ?_; (rw [thC_size]; exact sizeThr))
    refine (HW.out _ hB1).mono ?_
    rintro e w2 ⟨rfl, hx2⟩
    have hB2 := hB1.trans (hx2.mono (by simp))
    have n2 := (hx2.block gn (by simp; omega)).trans n1
    have q2 := fun i => cell_of_row w2 gn i _ _ _ n2
    have f2 := fun i => frozen_row (i := i) n2
    have hlt : gn < w2.heap.size := heap_lt n2
    have hst := heap_set w2 gn 0 _ _ (.int .i64 (N : Int)) n2
    have HST := Lib.hid hst
    clear hst
    go_wp2
    go_end0
    exact ⟨rfl, HST.out, grown_setCell (below_grown hB2 _) _ _ rfl⟩
  · go_enter Try.func41, Try.ntmps41
    go_wp2_with (refine wpList_load_row rfl 37 (.tmp 4) rfl w.heap.size rfl _ _ _ _ kb Try.underlying37 rfl ?_ ?_; (rw [thC_size]; exact sizeThr))
    refine (HW.out _ hB1).mono ?_
    rintro e w2 ⟨rfl, hx2⟩
    have hB2 := hB1.trans (hx2.mono (by simp))
    have n2 := (hx2.block gn (by simp; omega)).trans n1
    go_wp2
    go_end0
    exact ⟨rfl, n2, below_grown hB2 _⟩

def CountJ (gw gn : Nat) (F : FuncId) (caps : Array Value) (p : List Nat → Bool) (I : World → Prop) (L : List (List Nat)) (W : World) : Prop :=
  W.cell? ⟨gw, 0, none⟩ = some (.func (.func F) #[] caps) ∧ W.heap[gn]? = some (.cells #[.int .i64 (cntP p L : Nat)] 3 (0, 0)) ∧ I W
theorem countJ_stable (gw gn B B0 : Nat) (F : FuncId) (caps : Array Value) (p : List Nat → Bool) (I : World → Prop) (hI : StableI B0 I) (h1 : gw < B) (h2 : gn < B) (h3 : B0 ≤ B) : Stable B (CountJ gw gn F caps p I) := by
  intro L W W' ⟨c1, c2, c3⟩ h
  exact ⟨(cell_keptC (h _ h1) 0).trans c1, (h _ h2).trans c2, hI W W' c3 (fun k hk => h k (by omega))⟩
theorem countJ_tells (gw gn d f B0 : Nat) (F : FuncId) (caps : Array Value) (p : List Nat → Bool) (I : World → Prop) (hE : EntersT F) (hI : StableI B0 I) (hW : Wants F caps d f p I) (hd : d ≤ 8) (hf : f ≤ 12) (hf1 : 1 ≤ f) (h1 : gw ≠ gn) (h2 : B0 ≤ gn) :
    Tells 41 #[.pointer (some ⟨gw, 0, none⟩), .pointer (some ⟨gn, 0, none⟩)] gn d f (CountJ gw gn F caps p I) := by
  intro pre t post W hsplit ⟨c1, c2, c3⟩ hR
  have ht : t ∈ ups d f := by rw [hsplit]; simp
  have hN : (p t = true ∧ cntP p (pre ++ [t]) = cntP p pre + ordN t) ∨ (p t = false ∧ cntP p (pre ++ [t]) = cntP p pre) := by
    rw [cntP_snoc]
    cases h : p t <;> simp
  refine (countTell_any gw gn (ordN t) (cntP p pre) (p t) F caps t W hE (fun W1 hx => hW t W1 ht (hI W W1 c3 fun k hk => hx.block k (by omega))) (ord_le8 ht hd) (cntP_le hsplit hd hf hf1) c1 c2 _ hN).mono ?_
  rintro e W' ⟨rfl, hn, hg⟩
  exact ⟨rfl, ⟨(cell_keptC (hg.block _ (cell_lt c1) (by simp; exact h1)) 0).trans c1, hn, hI W W' c3 fun k hk => hg.block k (by omega) (by simp; omega)⟩, hg⟩
theorem countTell_enters : EntersT 41 := fun _ _ => Try.call41 _ _

set_option maxRecDepth 100000 in
set_option maxHeartbeats 1000000 in
theorem count_any (d f : Nat) (F : FuncId) (caps : Array Value) (p : List Nat → Bool) (I : World → Prop) (w : World) (hd1 : 1 ≤ d) (hd : d ≤ 8) (hf1 : 1 ≤ f) (hf : f ≤ 12) (hE : EntersT F) (hI : StableI w.heap.size I) (hW : Wants F caps d f p I) (h0 : I w) :
    Calls Try.prog 26 #[.agg #[.int .i64 d, .int .i64 f], .func (.func F) #[] caps] w fun e w' => e = .returned (.int .i64 (W d f (fun t => is (p t)) : Nat)) ∧ Below w.heap.size w w' := by
  obtain ⟨W3, hW3⟩ : ∃ W3, W3 = ((w.alloc (.cells #[.int .i64 d, .int .i64 f] 32)).alloc (.cells #[.func (.func F) #[] caps] 39)).alloc (.cells #[.int .i64 0] 3) := ⟨_, rfl⟩
  have hB3 : Below w.heap.size w W3 := by rw [hW3]; exact below3 _ _ _ _
  have k0 : W3.heap[w.heap.size]? = some (.cells #[.int .i64 d, .int .i64 f] 32 (0, 0)) := by rw [hW3]; exact (Below.heap_alloc _ _ _ (by simp; omega)).trans ((Below.heap_alloc _ _ _ (by simp)).trans (heap_alloc_at _ _ _ rfl))
  have k1 : W3.heap[w.heap.size + 1]? = some (.cells #[.func (.func F) #[] caps] 39 (0, 0)) := by rw [hW3]; exact (Below.heap_alloc _ _ _ (by simp)).trans (heap_alloc_at _ _ _ (by simp))
  have k2 : W3.heap[w.heap.size + 2]? = some (.cells #[.int .i64 0] 3 (0, 0)) := by rw [hW3]; exact heap_alloc_at _ _ _ (by simp)
  have q0 := fun i => cell_of_row W3 w.heap.size i _ _ _ k0
  have c1 : W3.cell? ⟨w.heap.size + 1, 0, none⟩ = some (.func (.func F) #[] caps) := (cell_of_row _ _ _ _ _ _ k1).trans rfl
  have hs3 : W3.heap.size = w.heap.size + 3 := by rw [hW3]; simp
  have hI3 : I W3 := hI w W3 h0 (fun k hk => hB3.block k hk)
  have HW3 := Lib.hid hW3; have HS3 := Lib.hid hs3; have HI := Lib.hid hI; have HWT := Lib.hid hW
  clear hW3 hI hW hs3
  go_enter Try.func26, Try.ntmps26
  go_wp2_with fail
  rw [← HW3.out]
  have hs3 := HS3.out
  refine (each_any d f 41 _ (w.heap.size + 2) (CountJ (w.heap.size + 1) (w.heap.size + 2) F caps p I) _ hd1 hd hf1 hf countTell_enters (countJ_stable _ _ _ w.heap.size F caps p I HI.out (by omega) (by omega) (by omega)) (countJ_tells _ _ d f w.heap.size F caps p I hE HI.out HWT.out hd hf hf1 (by omega) (by omega)) (by omega) ⟨c1, k2, hI3⟩).mono ?_
  rintro e w4 ⟨rfl, ⟨_, n4, _⟩, hg⟩
  have hB4 : Below w.heap.size w w4 := hB3.grown hg hB3.size (fun k h => by cases h; omega)
  have q4 := fun i => cell_of_row w4 (w.heap.size + 2) i _ _ _ n4
  have hv : cntP p (ups d f) = W d f (fun t => is (p t)) := rfl
  rw [hv] at q4
  clear hs3 k0 k1 k2 q0 c1 n4 hg hv
  go_wp2
  go_ret
  exact ⟨rfl, hB4⟩
end Go.Proofs.Ytblpfjjnlfjloac

/-
  Dice: how many throws have each sum of the kept ones.
-/
import Derived.Test.YtblpfjjnlfjloabC6c
import Derived.Test.YtblpfjjnlfjloabC6d
import Derived.Test.YtblpfjjnlfjloabC6p
import Derived.Laws.EntriesVeiled
namespace Go.Proofs.Ytblpfjjnlfjloab
open Go.RowKit

def sumIs (kept i : Nat) (t : List Nat) : Bool := (t.take kept).sum == i
/-- What has been counted. -/
def cntL (kept : Nat) (L : List (List Nat)) (i : Nat) : Nat := tot (fun t => ordN t * is (sumIs kept i t)) L
theorem cntL_all (d f kept i : Nat) : cntL kept (ups d f) i = kq d f kept i := rfl
theorem cntL_nil (kept i : Nat) : cntL kept [] i = 0 := rfl
theorem cntL_snoc (kept : Nat) (L : List (List Nat)) (t : List Nat) (i : Nat) : cntL kept (L ++ [t]) i = if i = (t.take kept).sum then cntL kept L i + ordN t else cntL kept L i := by
  unfold cntL
  rw [tot_app]
  show _ + (ordN t * is (sumIs kept i t) + 0) = _
  by_cases h : i = (t.take kept).sum
  · rw [if_pos h]; simp [sumIs, h, is]
  · have : sumIs kept i t = false := by unfold sumIs; simp; omega
    rw [if_neg h, this]; simp [is]
theorem cntL_le {d f kept : Nat} {pre post : List (List Nat)} (h : ups d f = pre ++ post) (hd : d ≤ 8) (hf : f ≤ 12) (hf1 : 1 ≤ f) (i : Nat) : cntL kept pre i ≤ 429981696 := by
  have h1 := kq_le d f kept i
  rw [← cntL_all, h] at h1
  unfold cntL at h1 ⊢
  rw [tot_app] at h1
  have := pow_12 hd hf hf1
  omega
theorem cell_keptD {w w' : World} {g : Nat} (h : w'.heap[g]? = w.heap[g]?) (i : Nat) : w'.cell? ⟨g, i, none⟩ = w.cell? ⟨g, i, none⟩ := by simp [World.cell?, h]

def SumsJ (gs gf gk gr kept n : Nat) (L : List (List Nat)) (W : World) : Prop :=
  W.cell? ⟨gs, 0, none⟩ = some (.slice (some ⟨gr, 0, none⟩) n n) ∧ W.cell? ⟨gf, 0, none⟩ = some (.func (.func 56) #[] #[]) ∧ W.cell? ⟨gk, 0, none⟩ = some (.int .i64 kept) ∧ RowI W gr 3 n (fun i => (cntL kept L i : Int))
theorem sumsJ_stable (gs gf gk gr kept n B : Nat) (h1 : gs < B) (h2 : gf < B) (h3 : gk < B) (h4 : gr < B) : Stable B (SumsJ gs gf gk gr kept n) := by
  intro L W W' ⟨c1, c2, c3, c4⟩ h
  exact ⟨(cell_keptD (h _ h1) 0).trans c1, (cell_keptD (h _ h2) 0).trans c2, (cell_keptD (h _ h3) 0).trans c3, c4.keep (h _ h4)⟩
theorem sumsJ_tells (gs gf gk gr d f kept n : Nat) (hk : kept ≤ d) (hd : d ≤ 8) (hf1 : 1 ≤ f) (hf : f ≤ 12) (hn : kept * f + 1 = n) (h1 : gs ≠ gr) (h2 : gf ≠ gr) (h3 : gk ≠ gr) :
    Tells 58 #[.pointer (some ⟨gs, 0, none⟩), .pointer (some ⟨gf, 0, none⟩), .pointer (some ⟨gk, 0, none⟩)] gr d f (SumsJ gs gf gk gr kept n) := by
  intro pre t post W hsplit ⟨c1, c2, c3, c4⟩ hR
  have ht : t ∈ ups d f := by rw [hsplit]; simp
  refine (sumsTell_any gs gf gk gr d f kept n (ordN t) t _ W hk hd hf ht hn (ord_le8 ht hd) c1 c2 c3 c4 (fun i _ => by have := cntL_le (kept := kept) hsplit hd hf hf1 i; omega)).mono ?_
  rintro e W' ⟨rfl, hr, hg⟩
  have kp : ∀ {g : Nat} {v : Value}, W.cell? ⟨g, 0, none⟩ = some v → g ≠ gr → W'.cell? ⟨g, 0, none⟩ = some v := fun hc hne => (cell_keptD (hg.block _ (cell_lt hc) (by simp; exact hne)) 0).trans hc
  refine ⟨rfl, ⟨kp c1 h1, kp c2 h2, kp c3 h3, hr.congr (fun i _ => ?_)⟩, hg⟩
  rw [cntL_snoc]
  by_cases e : i = (t.take kept).sum
  · rw [if_pos e, if_pos e]; push_cast; rfl
  · rw [if_neg e, if_neg e]

theorem sumsTell_enters : EntersT 58 := fun _ _ => Try.call58 _ _

set_option maxRecDepth 100000 in
set_option maxHeartbeats 1000000 in
theorem sums_any (d f kept : Nat) (w : World) (hd : d ≤ 8) (hf1 : 1 ≤ f) (hf : f ≤ 12) (hk1 : 1 ≤ kept) (hk : kept ≤ d) :
    Calls Try.prog 55 #[.agg #[.int .i64 d, .int .i64 f], .int .i64 kept] w fun e w' => ∃ gr, e = .returned (.slice (some ⟨gr, 0, none⟩) (kept * f + 1) (kept * f + 1)) ∧ w.heap.size ≤ gr ∧ RowI w' gr 3 (kept * f + 1) (fun i => (kq d f kept i : Int)) ∧ Below w.heap.size w w' := by
  obtain ⟨i0, hi, hz0, hz1, hz2⟩ := info_parts infoInt1
  obtain ⟨n, hn⟩ : ∃ n, n = kept * f + 1 := ⟨_, rfl⟩
  have hP : (kept : Int) * (f : Int) = (n : Int) - 1 := by rw [hn]; push_cast; omega
  have hn97 : n ≤ 97 := by rw [hn]; have := Nat.mul_le_mul (show kept ≤ 8 by omega) hf; omega
  have hn1 : 1 ≤ n := by omega
  rw [← hn]
  have HN := Lib.hid hn
  clear hn
  obtain ⟨W3, hW3⟩ : ∃ W3, W3 = ((w.alloc (.cells #[.int .i64 d, .int .i64 f] 50)).alloc (.cells #[.int .i64 kept] 3)).alloc (.cells #[.func (.func 56) #[] #[]] 54) := ⟨_, rfl⟩
  have hB3 : Below w.heap.size w W3 := by rw [hW3]; exact below3 _ _ _ _
  have k0 : W3.heap[w.heap.size]? = some (.cells #[.int .i64 d, .int .i64 f] 50 (0, 0)) := by rw [hW3]; exact (Below.heap_alloc _ _ _ (by simp; omega)).trans ((Below.heap_alloc _ _ _ (by simp)).trans (heap_alloc_at _ _ _ rfl))
  have k1 : W3.heap[w.heap.size + 1]? = some (.cells #[.int .i64 kept] 3 (0, 0)) := by rw [hW3]; exact (Below.heap_alloc _ _ _ (by simp)).trans (heap_alloc_at _ _ _ (by simp))
  have k2 : W3.heap[w.heap.size + 2]? = some (.cells #[.func (.func 56) #[] #[]] 54 (0, 0)) := by rw [hW3]; exact heap_alloc_at _ _ _ (by simp)
  have hs3 : W3.heap.size = w.heap.size + 3 := by rw [hW3]; simp
  have HS3 := Lib.hid hs3
  have hs3' : w.heap.size + 2 < W3.heap.size := by omega
  have HW3 := Lib.hid hW3
  clear hW3 hs3
  go_enter Try.func55, Try.ntmps55
  go_wp2_with (at_make; rw [← HW3.out]; refine wpList_make_full _ rfl _ _ 37 rfl W3.heap.size 3 i0 _ 1 Try.underlying37 hi hz0 hz1 _ _ _ _ n rfl rfl rfl rfl (by rw [hz2]; omega) (by unfold maxLen; omega) (Nat.le_refl _) ?_; intro w4 hown hgrow; have q0 := fun i => cell_of_row (w4.alloc (.cells #[.slice (some ⟨W3.heap.size, 0, none⟩) n n] 37)) w.heap.size i _ _ _ ((Below.heap_alloc w4 (.cells #[.slice (some ⟨W3.heap.size, 0, none⟩) n n] 37) w.heap.size (by have := hgrow.size; omega)).trans ((hgrow.block w.heap.size (by omega) (by simp)).trans k0)))
  have hrow := madeI hown rfl
  have hz4 : W3.heap.size < w4.heap.size := hrow.lt
  have k1' := (hgrow.block _ (by omega) (by simp)).trans k1
  have k2' := (hgrow.block _ (by omega) (by simp)).trans k2
  obtain ⟨W5, hW5⟩ : ∃ W5, W5 = w4.alloc (.cells #[.slice (some ⟨W3.heap.size, 0, none⟩) n n] 37) := ⟨_, rfl⟩
  have j1 : W5.cell? ⟨w4.heap.size, 0, none⟩ = some (.slice (some ⟨W3.heap.size, 0, none⟩) n n) := by rw [hW5]; exact (cell_of_row _ _ _ _ _ _ (heap_alloc_at _ _ _ rfl)).trans rfl
  have j2 : W5.cell? ⟨w.heap.size + 2, 0, none⟩ = some (.func (.func 56) #[] #[]) := by rw [hW5]; exact (cell_of_row _ _ _ _ _ _ ((Below.heap_alloc _ _ _ (by omega)).trans k2')).trans rfl
  have j3 : W5.cell? ⟨w.heap.size + 1, 0, none⟩ = some (.int .i64 kept) := by rw [hW5]; exact (cell_of_row _ _ _ _ _ _ ((Below.heap_alloc _ _ _ (by omega)).trans k1')).trans rfl
  have j4 : RowI W5 W3.heap.size 3 n (fun _ => 0) := by rw [hW5]; exact hrow.alloc _
  have hB5 : Below w.heap.size w W5 := by rw [hW5]; exact (hB3.grown hgrow hB3.size (fun k h => by cases h)).alloc (by omega) _
  have hz5 : W5.heap.size = w4.heap.size + 1 := by rw [hW5]; simp
  rw [← hW5]
  obtain ⟨gr, hgr⟩ : ∃ gr, gr = W3.heap.size := ⟨_, rfl⟩
  obtain ⟨gs, hgs⟩ : ∃ gs, gs = w4.heap.size := ⟨_, rfl⟩
  rw [← hgr] at j1 j4 hz4 hs3'
  rw [← hgs] at j1 hz4 hz5 ⊢
  have hg3 : gr = w.heap.size + 3 := by rw [hgr]; exact HS3.out
  clear hW5 hown hgrow hrow k0 k1 k2 k1' k2' q0 HW3 hB3 hgr hgs HS3
  refine (each_any d f 58 _ gr (SumsJ gs (w.heap.size + 2) (w.heap.size + 1) gr kept n) _ (by omega) hd hf1 hf sumsTell_enters (sumsJ_stable _ _ _ _ _ _ _ (by omega) (by omega) (by omega) (by omega)) (sumsJ_tells _ _ _ _ d f kept n hk hd hf1 hf HN.out.symm (by omega) (by omega) (by omega)) (by omega) ⟨j1, j2, j3, j4⟩).mono ?_
  rintro e w6 ⟨rfl, ⟨c1, _, _, c4⟩, hg⟩
  have hle : w.heap.size ≤ gr := by omega
  clear j1 j2 j3 j4 hg3
  go_wp2
  go_ret
  exact ⟨gr, rfl, hle, c4, hB5.grown hg hB5.size (fun k h => by cases h; omega)⟩
end Go.Proofs.Ytblpfjjnlfjloab

/-
  Throws, one after another: the square behind them, and the path.
-/
import Derived.Test.YteogfondnpfklaaC1j
namespace Go.Proofs.Yteogfondnpfklaa
open Go.RowKit

/-- The square behind the first k throws. -/
def walkTo (s o : Int) (js : List (Int × Int)) (sq : Int) (xs : List Int) (k : Nat) : Int := (xs.take k).foldl (fun q x => thrown s o js q x) sq
theorem walkTo_zero (s o : Int) (js : List (Int × Int)) (sq : Int) (xs : List Int) : walkTo s o js sq xs 0 = sq := by simp [walkTo]
theorem walkTo_succ (s o : Int) (js : List (Int × Int)) (sq : Int) (xs : List Int) (k : Nat) (hk : k < xs.length) : walkTo s o js sq xs (k + 1) = thrown s o js (walkTo s o js sq xs k) xs[k] := by
  rw [walkTo, List.take_succ_eq_append_getElem hk, List.foldl_append]; rfl
/-- The squares behind 0, 1, .. up to n throws. -/
def pathTo (s o : Int) (js : List (Int × Int)) (sq : Int) (xs : List Int) (n : Nat) : List Int := (List.range (n + 1)).map (walkTo s o js sq xs)
theorem pathTo_zero (s o : Int) (js : List (Int × Int)) (sq : Int) (xs : List Int) : pathTo s o js sq xs 0 = [sq] := by simp [pathTo, List.range_succ, walkTo_zero]
theorem pathTo_succ (s o : Int) (js : List (Int × Int)) (sq : Int) (xs : List Int) (n : Nat) : pathTo s o js sq xs (n + 1) = pathTo s o js sq xs n ++ [walkTo s o js sq xs (n + 1)] := by
  simp [pathTo, List.range_succ]
theorem pathTo_len (s o : Int) (js : List (Int × Int)) (sq : Int) (xs : List Int) (n : Nat) : (pathTo s o js sq xs n).length = n + 1 := by simp [pathTo]
theorem pathTo_last (s o : Int) (js : List (Int × Int)) (sq : Int) (xs : List Int) (n : Nat) : (pathTo s o js sq xs n)[n]? = some (walkTo s o js sq xs n) := by simp [pathTo]
/-- A list of throws. -/
def throwsOk (f : Int) (xs : List Int) : Bool := decide (xs.length ≤ 200) && xs.all (fun x => inB x 1 f)
theorem throwsOk_at {f : Int} {xs : List Int} (h : throwsOk f xs = true) {k : Nat} (hk : k < xs.length) : 1 ≤ xs[k] ∧ xs[k] ≤ f := by
  simp only [throwsOk, Bool.and_eq_true] at h
  exact inB_iff.1 (List.all_eq_true.1 h.2 _ (List.getElem_mem hk))
theorem throwsOk_len {f : Int} {xs : List Int} (h : throwsOk f xs = true) : xs.length ≤ 200 := by
  simp only [throwsOk, Bool.and_eq_true, decide_eq_true_eq] at h
  exact h.1
theorem walkTo_in {s f o : Int} {js : List (Int × Int)} (h : good ⟨s, f, o, js⟩ = true) {sq : Int} {xs : List Int} (h0 : 0 ≤ sq) (h1 : sq ≤ s) (hx : throwsOk f xs = true) : ∀ k, k ≤ xs.length → 0 ≤ walkTo s o js sq xs k ∧ walkTo s o js sq xs k ≤ s
  | 0, _ => by rw [walkTo_zero]; exact ⟨h0, h1⟩
  | k + 1, hk => by
    have := walkTo_in h h0 h1 hx k (by omega)
    rw [walkTo_succ _ _ _ _ _ _ hk]
    exact thrown_in h this.1 this.2 (throwsOk_at hx hk).1
theorem walkTo_fix {s f o : Int} {js : List (Int × Int)} (h : good ⟨s, f, o, js⟩ = true) {sq : Int} {xs : List Int} (hq : jumpOf js sq = sq) : ∀ k, k ≤ xs.length → jumpOf js (walkTo s o js sq xs k) = walkTo s o js sq xs k
  | 0, _ => by rw [walkTo_zero]; exact hq
  | k + 1, hk => by
    rw [walkTo_succ _ _ _ _ _ _ hk]
    exact thrown_fix h (walkTo_fix h hq k (by omega))
def pathR (s f o : Int) (js : List (Int × Int)) (sq : Int) (xs : List Int) : List Int × Bool := if asked s f o js sq && throwsOk f xs then (pathTo s o js sq xs xs.length, true) else ([], false)
def playR (s f o : Int) (js : List (Int × Int)) (sq : Int) (xs : List Int) : Int × Bool := if asked s f o js sq && throwsOk f xs then (walkTo s o js sq xs xs.length, true) else (0, false)
theorem pathR_len {s f o : Int} {js : List (Int × Int)} {sq : Int} {xs : List Int} : (pathR s f o js sq xs).1.length ≤ 1048576 := by
  unfold pathR
  by_cases h : (asked s f o js sq && throwsOk f xs) = true
  · rw [if_pos h]
    rw [Bool.and_eq_true] at h
    have := throwsOk_len h.2
    simp only [pathTo_len]
    omega
  · rw [if_neg h]; simp

/-- A row of one cell, just made. -/
theorem own_new1 (w : World) (u : Value) (t : TypeId) (base : Nat) {g : Nat} (hg : g = w.heap.size) (hb : base ≤ g) : (w.alloc (.cells #[u] t)).ownsRow base t 1 (.slice (some ⟨g, 0, none⟩) 1 1) 1 [u] :=
  ⟨rfl, .inr ⟨g, 1, #[u], rfl, hb, heap_alloc_at _ _ _ hg, Nat.le_refl _, by decide, rfl, rfl⟩⟩
end Go.Proofs.Yteogfondnpfklaa

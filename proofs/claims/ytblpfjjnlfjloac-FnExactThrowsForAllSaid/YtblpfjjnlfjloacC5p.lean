/-
  Pairs: the program's fractions: ratioOf, plus, sumOf.
-/
import Derived.Test.YtblpfjjnlfjloacC2g
import Derived.Test.YtblpfjjnlfjloacM33
import Derived.Test.YtblpfjjnlfjloacWRow
namespace Go.Proofs.Ytblpfjjnlfjloac
open Go.RowKit

theorem lowA_nat {x y : Nat} (hx : x ≤ 1152921504606846976) : lowA x y = ((redF x y).1 : Int) := by
  have h : x / Nat.gcd x y ≤ x := Nat.div_le_self _ _
  unfold lowA redF
  rw [show (x : Int) / ((Nat.gcd x y : Nat) : Int) = ((x / Nat.gcd x y : Nat) : Int) from rfl]
  generalize x / Nat.gcd x y = q at *
  exact IntWalk.wrap64_in _ (by omega)
theorem lowB_nat {x y : Nat} (hy : y ≤ 1152921504606846976) : lowB x y = ((redF x y).2 : Int) := by
  have h : y / Nat.gcd x y ≤ y := Nat.div_le_self _ _
  unfold lowB redF
  rw [show (y : Int) / ((Nat.gcd x y : Nat) : Int) = ((y / Nat.gcd x y : Nat) : Int) from rfl]
  generalize y / Nat.gcd x y = q at *
  exact IntWalk.wrap64_in _ (by omega)
/-- A fraction is handed back. -/
def FrBack (w : World) (p : Fr) (e : Ending) (w' : World) : Prop := e = .returned (.agg #[.int .i64 (p.1 : Nat), .int .i64 (p.2 : Nat)]) ∧ Below w.heap.size w w'

set_option maxRecDepth 100000 in
theorem ratioOf_any (x y : Nat) (w : World) (hx : x ≤ 1152921504606846976) (hy : y ≤ 1152921504606846976) (hy1 : 1 ≤ y) :
    Calls Try.prog 31 #[.int .i64 x, .int .i64 y] w (FrBack w (redF x y)) := by
  go_enter Try.func31, Try.ntmps31
  go_wp2_with fail
  refine (lowest_any x y _ hx hy hy1).mono ?_
  rintro e w2 ⟨rfl, hB⟩
  rw [lowA_nat hx, lowB_nat hy]
  have kb : w2.heap[w.heap.size]? = some (.cells #[.int .i64 0, .int .i64 0] 43 (0, 0)) := (hB.block _ (by simp)).trans (heap_alloc_at _ _ _ rfl)
  have q := fun i => cell_of_row w2 w.heap.size i _ _ _ kb
  have f0 := fun i => frozen_row (i := i) kb
  have hb : Below w.heap.size w w2 := (below1 _ _).trans (hB.mono (by simp))
  clear kb
  go_wp2
  exact bodyPost_ret (v := .agg #[.int .i64 ((redF x y).1 : Nat), .int .i64 ((redF x y).2 : Nat)]) (by simp [results, Try.results31, go_sem, q]) rfl ⟨rfl, (hb.setCell (Nat.le_refl _) _).setCell (Nat.le_refl _) _⟩

set_option maxRecDepth 100000 in
theorem plus_any (p q : Fr) (w : World) (h : okAdd p q = true) :
    Calls Try.prog 32 #[.agg #[.int .i64 (p.1 : Nat), .int .i64 (p.2 : Nat)], .agg #[.int .i64 (q.1 : Nat), .int .i64 (q.2 : Nat)]] w (FrBack w (addF p q)) := by
  obtain ⟨h1, h2, h3, h4⟩ := okAdd_iff.1 h
  have hv : addF p q = redF (p.1 * q.2 + q.1 * p.2) (p.2 * q.2) := rfl
  rw [hv]
  obtain ⟨a, b⟩ := p
  obtain ⟨c, d⟩ := q
  simp only at h1 h2 h3 h4 ⊢
  have w1 : IntKind.i64.wrap ((a : Int) * (d : Int)) = ((a * d : Nat) : Int) := by rw [← Int.natCast_mul]; exact IntWalk.i64_in _ (by omega)
  have w2 : IntKind.i64.wrap ((c : Int) * (b : Int)) = ((c * b : Nat) : Int) := by rw [← Int.natCast_mul]; exact IntWalk.i64_in _ (by omega)
  have w3 : IntKind.i64.wrap ((b : Int) * (d : Int)) = ((b * d : Nat) : Int) := by rw [← Int.natCast_mul]; exact IntWalk.i64_in _ (by omega)
  obtain ⟨x, hx⟩ : ∃ x, x = a * d := ⟨_, rfl⟩
  obtain ⟨y, hy⟩ : ∃ y, y = c * b := ⟨_, rfl⟩
  obtain ⟨z, hz⟩ : ∃ z, z = b * d := ⟨_, rfl⟩
  rw [← hx] at w1 h1 ⊢
  rw [← hy] at w2 h2 ⊢
  rw [← hz] at w3 h3 h4 ⊢
  have w4 : IntKind.i64.wrap ((x : Int) + (y : Int)) = ((x + y : Nat) : Int) := by rw [IntWalk.i64_in _ (by omega)]; omega
  obtain ⟨s, hs⟩ : ∃ s, s = x + y := ⟨_, rfl⟩
  have hsl : s ≤ 2000000000000000 := by omega
  rw [← hs] at w4 ⊢
  clear hx hy hz hs h hv
  go_enter Try.func32, Try.ntmps32
  go_wp2_with fail
  refine (ratioOf_any s z _ (by omega) (by omega) h3).mono ?_
  rintro e w6 ⟨rfl, hB⟩
  have kb : w6.heap[w.heap.size + 2]? = some (.cells #[.int .i64 0, .int .i64 0] 43 (0, 0)) := (hB.block _ (by simp)).trans (heap_alloc_at _ _ _ (by simp))
  have q := fun i => cell_of_row w6 (w.heap.size + 2) i _ _ _ kb
  have f0 := fun i => frozen_row (i := i) kb
  have hb : Below w.heap.size w w6 := (below3 _ _ _ _).trans (hB.mono (by simp; omega))
  clear kb
  go_wp2
  exact bodyPost_ret (v := .agg #[.int .i64 ((redF s z).1 : Nat), .int .i64 ((redF s z).2 : Nat)]) (by simp [results, Try.results32, go_sem, q]) rfl ⟨rfl, (hb.setCell (by simp; omega) _).setCell (by simp; omega) _⟩

/-- A row of fractions as jumps. -/
def frJ (l : List Fr) : List (Int × Int) := l.map fun p => ((p.1 : Int), (p.2 : Int))
theorem frJ_len (l : List Fr) : (frJ l).length = l.length := by simp [frJ]
theorem frJ_at (l : List Fr) {k : Nat} (hk : k < (frJ l).length) : (frJ l)[k] = (((l[k]'(by rw [frJ_len] at hk; exact hk)).1 : Int), ((l[k]'(by rw [frJ_len] at hk; exact hk)).2 : Int)) := by simp [frJ]
theorem heap2 (w : World) (g : Nat) (a b a' b' : Value) (t : TypeId) (h : w.heap[g]? = some (.cells #[a, b] t (0, 0))) : ((w.setCell ⟨g, 0, none⟩ a').setCell ⟨g, 1, none⟩ b').heap[g]? = some (.cells #[a', b'] t (0, 0)) := by
  have h1 := heap_set _ g 1 _ t b' (heap_set w g 0 _ t a' h)
  exact h1

end Go.Proofs.Ytblpfjjnlfjloac

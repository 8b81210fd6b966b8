/-
  Puzzles: clues copied, puzzles with other clues; DropClue on both sides.
-/
import Derived.Test.YteogfondnpfklaaC9f
import Derived.Test.YteogfondnpfklaaC9e
import Derived.Lib.SliceRun
namespace Go.Proofs.Yteogfondnpfklaa
open Go.RowKit

set_option maxHeartbeats 1000000 in
theorem cloneQ_any (A : Option Addr) (c : Nat) (L : List Qd) (w : World) (hL : RQ w w.heap.size A L) :
    Calls Try.prog 98 #[.slice A L.length c] w (QBack L w) := by
  have hl := hL.1
  have qnil : ∀ (w : World) (a : Option Addr) (n c n' c' : Nat), (binOp .eql 26 (.slice a n c) (.slice none n' c')).run Try.prog w = .ok (.bool a.isNone) w := fun w a n c n' c' => Lib.run_eql_slice_nil w _ _ a n c n' c' Try.underlying26
  obtain ⟨i0, hi, hz0, hz1, hz2⟩ := info_parts infoClueW
  cases A with
  | none =>
    obtain rfl : L = [] := by
      rcases hL.2 with h | ⟨b, off, e', _⟩
      · exact h
      · cases e'
    have hn : (none : Option Addr).isNone = true := rfl
    go_enter Try.func98, Try.ntmps98
    go_wp2
    go_ret
    exact ⟨none, 0, rfl, .inl rfl, Below.refl _ _, Nat.le_refl _⟩
  | some ad =>
    have o5 := own_made4 (N := w.heap.size) (w := w) (Nat.le_refl _) 44 w.heap.size rfl
    have hn : (some ad : Option Addr).isNone = false := rfl
    go_enter Try.func98, Try.ntmps98
    go_wp2_with (at_builtin; go_loud (refine wpList_appendQ rfl _ _ 26 rfl w.heap.size 44 i0 (.agg #[.int .i64 0, .int .i64 0, .int .i64 0, .int .i64 0]) Try.underlying26 hi hz0 hz1 hz2 rfl _ 0 [] rfl o5 w.heap.size (some ad) L.length c L rfl rfl (hL.below (below1 _ _)) (by omega) (by simp) ?_; intro v7 w7 o7 g7))
    have hb7 : Below w.heap.size w w7 := (below1 w _).grown g7 (by simp) (own_from o5)
    have o8 : w7.ownsRow w.heap.size 44 4 v7 L.length (flatQ L) := by simpa using o7
    have hR := own_back o8 rfl hb7
    clear o7 g7 o5 o8
    go_wp2
    go_ret
    exact hR

/-- A puzzle with clues that the call made. -/
def PQBack (q f : Int) (E : List Qd) (w : World) (e : Ending) (w' : World) : Prop := ∃ A' c', e = .returned (.agg #[.int .i64 q, .int .i64 f, .slice A' E.length c']) ∧ OQ w' w.heap.size 44 A' E.length (fun i => E.getD i zeroQ) ∧ Below w.heap.size w w'
set_option maxRecDepth 100000 in
theorem withClues_any (q f : Int) (A0 A : Option Addr) (n0 c0 c : Nat) (L : List Qd) (w : World) (hL : RQ w w.heap.size A L) :
    Calls Try.prog 76 #[.agg #[.int .i64 q, .int .i64 f, .slice A0 n0 c0], .slice A L.length c] w (PQBack q f L w) := by
  have hl := hL.1
  go_enter Try.func76, Try.ntmps76
  go_wp2_with fail
  refine (cloneQ_any A c L _ (hL.go (below2 w _ _))).mono ?_
  rintro e w2 ⟨A', c', rfl, hO, hx, _⟩
  simp only [World.size_alloc] at hO hx
  have k1 := (hx.block w.heap.size (by omega)).trans ((Below.heap_alloc _ _ _ (by simp)).trans (heap_alloc_at w (.cells #[.int .i64 q, .int .i64 f, .slice A0 n0 c0] 28) _ rfl))
  have k2 := (hx.block (w.heap.size + 1) (by omega)).trans (heap_alloc_at _ (.cells #[.int .i64 0, .int .i64 0, .slice none 0 0] 28) _ (by simp))
  have q1 := fun i => cell_of_row w2 w.heap.size i _ _ _ k1
  have z1 := fun i => frozen_row (i := i) k1
  have q2 := fun i => cell_of_row w2 (w.heap.size + 1) i _ _ _ k2
  have z2 := fun i => frozen_row (i := i) k2
  have hb2 : Below w.heap.size w w2 := (below2 w _ _).trans (hx.mono (by omega))
  have hfar : ∀ (W : World) (b i : Nat) (v : Value), b < w.heap.size + 1 + 1 → OQ W (w.heap.size + 1 + 1) 44 A' L.length (fun i => L.getD i zeroQ) → OQ (W.setCell ⟨b, i, none⟩ v) (w.heap.size + 1 + 1) 44 A' L.length (fun i => L.getD i zeroQ) := fun W b i v hb h => by
    rcases h with h | ⟨g, e, h1, h⟩
    · exact .inl h
    · exact .inr ⟨g, e, h1, h.far (by dsimp only; omega) _⟩
  have HF := Lib.hid hfar
  clear k1 k2 hfar
  go_wp2
  exact bodyPost_ret (v := .agg #[.int .i64 q, .int .i64 f, .slice A' L.length c']) (by simp [results, Try.results76, go_sem, q2]) rfl
    ⟨A', c', rfl, (HF.out _ _ _ _ (by omega) (HF.out _ _ _ _ (by omega) (HF.out _ _ _ _ (by omega) (HF.out _ _ _ _ (by omega) hO)))).from_ (by omega), (((hb2.setCell (by simp) _).setCell (by simp) _).setCell (by simp) _).setCell (by simp) _⟩
set_option maxRecDepth 100000 in
theorem pzWith_any (q f : Int) (A0 A : Option Addr) (n0 c0 n c : Nat) (w : World) :
    Calls Try.prog 71 #[.agg #[.int .i64 q, .int .i64 f, .slice A0 n0 c0], .slice A n c] w fun e w' => e = .returned (.agg #[.int .i64 q, .int .i64 f, .slice A n c]) ∧ Below w.heap.size w w' := by
  go_enter Try.func71, Try.ntmps71
  go_wp2
  exact bodyPost_ret (v := .agg #[.int .i64 q, .int .i64 f, .slice A n c]) (by simp [results, Try.results71, go_sem]) rfl ⟨rfl, below2 _ _ _⟩
end Go.Proofs.Yteogfondnpfklaa

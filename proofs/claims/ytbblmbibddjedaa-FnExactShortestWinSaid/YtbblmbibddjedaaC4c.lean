/-
  Races: IsRace on both sides.
-/
import Derived.Test.YtbblmbibddjedaaC4b
namespace Go.Proofs.Ytbblmbibddjedaa
open Go.RowKit

theorem storeContest (s f o : Int) (G : Nat → Int) (m : Bool) (x y : Int) (w : World) : (storeCells ⟨w.heap.size, 0, none⟩ (ctsCells s f o G m x y).toList 0).run Try.prog (w.alloc (.cells Try.zeroCells60 60)) = .ok () (w.alloc (.cells (ctsCells s f o G m x y) 60)) :=
  run_storeCells_new w _ _ _ (by rw [cts_size]; exact sizeContest) (by rw [contestZero, cts_size, cts_size]) (Array.all_eq_true_iff_forall_mem.2 fun u hu => cts_one _ _ _ _ _ _ _ u (Array.mem_toList_iff.2 hu))

theorem specIsRace_any (s f o me fi ot : Int) (A : Option Addr) (c : Nat) (js : List (Int × Int)) (w : World) (hj : RJ w w.heap.size A js) :
    Calls Try.prog 10 #[.agg #[.int .i64 s, .int .i64 f, .int .i64 o, .slice A js.length c, .int .i64 me, .int .i64 fi, .int .i64 ot]] w fun e w' => e = .returned (.bool (raceOk s f o js me fi ot)) ∧ Below w.heap.size w w' := by
  have hl := hj.1
  go_enter Try.func10, Try.ntmps10
  go_wp2_with (go_at_call 30; refine (raGood_any _ _ _ _ _ _ _ _ _ _ (hj.go (below1 _ _))).mono ?_; rintro e w2 ⟨rfl, hb2⟩)
  go_ret
  exact ⟨rfl, (below1 _ _).trans (hb2.mono (by simp))⟩

set_option maxRecDepth 100000 in
theorem implIsRace_any (s f o me fi ot : Int) (A : Option Addr) (c : Nat) (js : List (Int × Int)) (w : World) (hj : RJ w w.heap.size A js) :
    Calls Try.prog 12 #[.agg #[.int .i64 s, .int .i64 f, .int .i64 o, .slice A js.length c, .int .i64 me, .int .i64 fi, .int .i64 ot]] w fun e w' => e = .returned (.bool (raceOk s f o js me fi ot)) ∧ Below w.heap.size w w' := by
  have hl := hj.1
  go_enter Try.func12, Try.ntmps12
  go_wp2_with fail
  refine (contestOf_any _ _ _ _ _ _ _ _ _ _ (hj.go (below1 _ _))).mono ?_
  rintro e w1 ⟨rfl, hx⟩
  obtain ⟨a1, a2, a3, a4, a5, a6, a7, hX⟩ : ∃ a1 a2 a3 a4 a5 a6 a7, (if raceOk s f o js me fi ot then ctsCells s f o (fun i => jumpOf js i) (me == 1) fi ot else ctsCells 0 0 0 (fun _ => 0) false 0 0) = ctsCells a1 a2 a3 a4 a5 a6 a7 := by
    cases raceOk s f o js me fi ot
    · exact ⟨_, _, _, _, _, _, _, rfl⟩
    · exact ⟨_, _, _, _, _, _, _, rfl⟩
  rw [hX]
  clear hX
  have hst := storeContest a1 a2 a3 a4 a5 a6 a7
  go_wp2_with fail
  go_ret
  exact ⟨rfl, ((below1 _ _).trans (hx.mono (by simp))).alloc (by have := hx.size; simp at this; omega) _⟩

theorem isRace_both (s f o me fi ot : Int) (js : List (Int × Int)) : ∃ ok : Bool,
    (∀ (A : Option Addr) (c : Nat) (w : World), RJ w w.heap.size A js → Calls Try.prog 10 #[.agg #[.int .i64 s, .int .i64 f, .int .i64 o, .slice A js.length c, .int .i64 me, .int .i64 fi, .int .i64 ot]] w fun e w' => e = .returned (.bool ok) ∧ Below w.heap.size w w') ∧
    (∀ (A : Option Addr) (c : Nat) (w : World), RJ w w.heap.size A js → Calls Try.prog 12 #[.agg #[.int .i64 s, .int .i64 f, .int .i64 o, .slice A js.length c, .int .i64 me, .int .i64 fi, .int .i64 ot]] w fun e w' => e = .returned (.bool ok) ∧ Below w.heap.size w w') :=
  ⟨_, fun A c w h => specIsRace_any s f o me fi ot A c js w h, fun A c w h => implIsRace_any s f o me fi ot A c js w h⟩
end Go.Proofs.Ytbblmbibddjedaa

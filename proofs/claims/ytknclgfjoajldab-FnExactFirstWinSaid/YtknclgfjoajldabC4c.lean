/-
  Races: IsRace on both sides.
-/
import Derived.Test.YtknclgfjoajldabC4b
namespace Go.Proofs.Ytknclgfjoajldab
open Go.RowKit

theorem storeContest (s f o : Int) (G : Nat → Int) (m : Bool) (x y : Int) (w : World) : (storeCells ⟨w.heap.size, 0, none⟩ (ctsCells s f o G m x y).toList 0).run Try.prog (w.alloc (.cells Try.zeroCells85 85)) = .ok () (w.alloc (.cells (ctsCells s f o G m x y) 85)) :=
  run_storeCells_new w _ _ _ (by rw [cts_size]; exact sizeContest) (by rw [contestZero, cts_size, cts_size]) (Array.all_eq_true_iff_forall_mem.2 fun u hu => cts_one _ _ _ _ _ _ _ u (Array.mem_toList_iff.2 hu))



end Go.Proofs.Ytknclgfjoajldab

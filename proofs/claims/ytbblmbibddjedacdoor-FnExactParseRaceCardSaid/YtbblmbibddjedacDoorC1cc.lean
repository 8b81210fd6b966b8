/-
  The program's numerals: strconv.Itoa off the shelf, behind a box that was made.
-/
import Derived.Test.YtbblmbibddjedacDoorC1ca
import Derived.Shelf.Strconv.Itoa3
import Derived.Shelf.Lay
import Derived.Ground.NamesProg
import Derived.Lib.AppendIntMem
namespace Go.Proofs
open Go.Shelf
set_option maxRecDepth 100000
shelf_lay LaysM.n171 Nm 171 at Tryd as Tryd.laysItoa
end Go.Proofs
namespace Go.Proofs.YtbblmbibddjedacDoor
open Go.RowKit

/-- The library's table of powers of ten lies as the program's text lays it. -/
abbrev Tens (w : World) : Prop := Lib.TabIs Tryd.prog w "internal/strconv.uint64pow10" .u64 Lib.pow10Tab
theorem Tens.on {w w' : World} (h : Tens w) (hb : Below w.heap.size w w') : Tens w' := Lib.tabBelow_of_tabIs h w' hb

theorem itoa_on {w0 w : World} {cs : Array Value} {t : TypeId} (ht : Tens w0) (n : Int) (h0 : 0 ≤ n) (h1 : n ≤ 999) (hS : Below (w0.heap.size + 1) (w0.alloc (.cells cs t)) w) :
    Calls Tryd.prog 26 #[.int .i64 n] w fun e w' => e = .returned (.string (numB n)) ∧ Below (w0.heap.size + 1) (w0.alloc (.cells cs t)) w' ∧ (∀ i, w'.cell? ⟨w0.heap.size, i, none⟩ = cs[i]?) := by
  have hw : Below w0.heap.size w0 w := (below1 _ _).trans (hS.mono (by omega))
  refine (Any.strconv_Itoa Tryd.laysItoa n (by omega) (by omega) w (ht.on hw)).mono ?_
  rintro e w' ⟨rfl, k, os, rfl⟩
  have hb := box_on hS (Lib.below_grow w.heap.size w (Nat.le_refl _) k os) (by have := hS.size; simpa using this)
  refine ⟨?_, hb, boxcells hb⟩
  unfold Lib.itoa numB numL
  rw [if_neg (by omega)]
end Go.Proofs.YtbblmbibddjedacDoor

/-
  Pairs: moved, setOf, putBehind.
-/
import Derived.Test.YtknclgfjoajldabC5c
import Derived.Test.YtknclgfjoajldabWSet
import Derived.BigRegion
namespace Go.Proofs.Ytknclgfjoajldab
open Go.RowKit

set_option maxRecDepth 100000 in
theorem moved0_any (x y face : Nat) (w : World) (hx : x ≤ 100) (hf : face ≤ 8) :
    Calls Try.prog 60 #[.agg #[.int .i64 x, .int .i64 y], .int .i64 0, .int .i64 face] w fun e w' => e = .returned (.agg #[.int .i64 (x + face : Nat), .int .i64 y]) ∧ Below w.heap.size w w' := by
  have w0 : IntKind.i64.wrap ((x : Int) + (face : Int)) = (x : Int) + (face : Int) := IntWalk.i64_in _ (by omega)
  have he : (x : Int) + (face : Int) = ((x + face : Nat) : Int) := by omega
  have HE := Lib.hid he; clear he
  go_enter Try.func60, Try.ntmps60
  go_wp2
  exact bodyPost_ret (v := .agg #[.int .i64 ((x : Int) + (face : Int)), .int .i64 y]) (by simp [results, Try.results60, go_sem]) rfl ⟨by rw [HE.out], below2 _ _ _⟩
set_option maxRecDepth 100000 in
theorem moved1_any (x y face : Nat) (w : World) (hx : y ≤ 100) (hf : face ≤ 8) :
    Calls Try.prog 60 #[.agg #[.int .i64 x, .int .i64 y], .int .i64 1, .int .i64 face] w fun e w' => e = .returned (.agg #[.int .i64 x, .int .i64 (y + face : Nat)]) ∧ Below w.heap.size w w' := by
  have w0 : IntKind.i64.wrap ((y : Int) + (face : Int)) = (y : Int) + (face : Int) := IntWalk.i64_in _ (by omega)
  have he : (y : Int) + (face : Int) = ((y + face : Nat) : Int) := by omega
  have HE := Lib.hid he; clear he
  go_enter Try.func60, Try.ntmps60
  go_wp2
  exact bodyPost_ret (v := .agg #[.int .i64 x, .int .i64 ((y : Int) + (face : Int))]) (by simp [results, Try.results60, go_sem]) rfl ⟨by rw [HE.out], below2 _ _ _⟩

set_option maxRecDepth 100000 in
theorem zeroSet : (#[.bool false, .bool false, .bool false, .bool false, .bool false, .bool false, .bool false, .bool false, .bool false, .bool false, .bool false, .bool false, .bool false, .bool false, .bool false, .bool false, .bool false, .bool false, .bool false, .bool false, .bool false, .bool false, .bool false, .bool false, .bool false, .bool false, .bool false, .bool false, .bool false, .bool false, .bool false, .bool false, .bool false, .bool false, .bool false, .bool false, .bool false, .bool false, .bool false, .bool false, .bool false, .bool false, .bool false, .bool false, .bool false, .bool false, .bool false, .bool false, .bool false] : Array Value) = setC (fun _ _ => false) := by kernel_rfl
theorem sizeSet : (Try.prog.info? 69).map (·.size) = some 49 := by kernel_rfl

set_option maxRecDepth 100000 in
theorem setOf_any (a b : Nat) (w : World) (ha : a < 7) (hb : b < 7) :
    Calls Try.prog 41 #[.int .i64 a, .int .i64 b] w fun e w' => e = .returned (.agg (setC (oneS a b))) ∧ Below w.heap.size w w' := by
  have hz := zeroSet
  have hset := setC_set (fun _ _ => false) ha hb true
  have hU : setC (updS (fun _ _ => false) a b true) = setC (oneS a b) := setC_congr fun x _ y _ => by simp only [updS, oneS]; by_cases h1 : x = a <;> by_cases h2 : y = b <;> simp [h1, h2]
  rw [hU] at hset
  have hS : SA ((w.alloc (.cells (setC (fun _ _ => false)) 69)).alloc (.cells (setC (fun _ _ => false)) 69)) (w.heap.size + 1) 69 (fun _ _ => false) := heap_alloc_at _ _ _ (by simp)
  have hR : SA ((w.alloc (.cells (setC (fun _ _ => false)) 69)).alloc (.cells (setC (oneS a b)) 69)) (w.heap.size + 1) 69 (oneS a b) := heap_alloc_at _ _ _ (by simp)
  have hR0 : SA ((w.alloc (.cells (setC (fun _ _ => false)) 69)).alloc (.cells (setC (oneS a b)) 69)) w.heap.size 69 (fun _ _ => false) := (Below.heap_alloc _ _ _ (by simp)).trans (heap_alloc_at _ _ _ rfl)
  have c0 := hS.at_ ha hb
  have f0 := hS.free (a * 7 + b)
  clear hU hS
  go_enter Try.func41, Try.ntmps41
  go_wp2_with (first | (refine wpList_load_row rfl 69 (.tmp 5) rfl (w.heap.size + 1) rfl _ _ _ _ hR Try.underlying69 rfl ?_ ?_; (rw [setC_size]; exact sizeSet)) | (refine wpList_store_row rfl 69 (.tmp 4) (.tmp 10) rfl w.heap.size rfl _ _ _ rfl hR0 ?_ ?_ (setC_one _) ?_; (rw [setC_size, setC_size]); (rw [setC_size]; exact sizeSet); intro w4 hC4 hg4 hs4))
  exact bodyPost_ret (v := .agg (setC (oneS a b))) (results_cell1k Try.results41 _ _ _ _ _ _ _ rfl hC4 Try.underlying69 rfl (by rw [setC_size]; exact sizeSet)) rfl
    ⟨rfl, (below2 _ _ _).grown hg4 (by simp; omega) (fun k h => by cases h; omega)⟩
end Go.Proofs.Ytknclgfjoajldab

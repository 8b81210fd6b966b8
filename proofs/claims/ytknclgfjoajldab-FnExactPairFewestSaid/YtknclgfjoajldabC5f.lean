/-
  Pairs: setBehind.
-/
import Derived.Test.YtknclgfjoajldabC5e
namespace Go.Proofs.Ytknclgfjoajldab
open Go.RowKit

set_option maxRecDepth 100000 in
theorem idx_set (S : Nat → Nat → Bool) (x : Nat) (hx : x < 7) (w : World) : (Instr.index 69 (.agg (setC S)) (.int .i64 x)).run Try.prog w = .ok (.agg (rowS S x)) w := by
  rcases (show x = 0 ∨ x = 1 ∨ x = 2 ∨ x = 3 ∨ x = 4 ∨ x = 5 ∨ x = 6 by omega) with rfl | rfl | rfl | rfl | rfl | rfl | rfl <;> kernel_rfl
set_option maxRecDepth 100000 in
theorem idx_row (S : Nat → Nat → Bool) (x y : Nat) (hy : y < 7) (w : World) : (Instr.index 67 (.agg (rowS S x)) (.int .i64 y)).run Try.prog w = .ok (.bool (S x y)) w := by
  rcases (show y = 0 ∨ y = 1 ∨ y = 2 ∨ y = 3 ∨ y = 4 ∨ y = 5 ∨ y = 6 by omega) with rfl | rfl | rfl | rfl | rfl | rfl | rfl <;> kernel_rfl
theorem sizeRow7 : (Try.prog.info? 67).map (·.size) = some 7 := by kernel_rfl
theorem rowS_size (S : Nat → Nat → Bool) (x : Nat) : (rowS S x).size = 7 := by simp [rowS]
theorem rowS_one (S : Nat → Nat → Bool) (x : Nat) : ∀ u ∈ (rowS S x).toList, u.oneCell' = true := by
  intro u hu
  simp only [rowS, List.mem_map] at hu
  obtain ⟨i, _, rfl⟩ := hu
  rfl
theorem zeroRow7 : (#[.bool false, .bool false, .bool false, .bool false, .bool false, .bool false, .bool false] : Array Value) = rowS (fun _ _ => false) 0 := by kernel_rfl
theorem storeRow7 (S : Nat → Nat → Bool) (x : Nat) (w : World) : (storeCells ⟨w.heap.size, 0, none⟩ (rowS S x).toList 0).run Try.prog (w.alloc (.cells (rowS (fun _ _ => false) 0) 67)) = .ok () (w.alloc (.cells (rowS S x) 67)) :=
  run_storeCells_new w _ _ _ (by rw [rowS_size]; exact sizeRow7) (by rw [rowS_size, rowS_size]) (Array.all_eq_true_iff_forall_mem.2 fun u hu => rowS_one _ _ u (Array.mem_toList_iff.2 hu))

/-- What is led to from the squares up to (k, j), in order. -/
def partS (s : Nat) (S : Nat → Nat → Bool) (face k j : Nat) : Nat → Nat → Bool :=
  fun u v => (List.range 7).any fun x => (List.range 7).any fun y => (decide (x < k ∨ x = k ∧ y < j) && S x y) && leads s x y face u v
theorem partS_iff {s : Nat} {S : Nat → Nat → Bool} {face k j u v : Nat} : partS s S face k j u v = true ↔ ∃ x y, x < 7 ∧ y < 7 ∧ (x < k ∨ x = k ∧ y < j) ∧ S x y = true ∧ leads s x y face u v = true := by
  unfold partS
  rw [any7]
  simp only [Bool.and_eq_true, decide_eq_true_eq, and_assoc]
theorem partS_zero (s : Nat) (S : Nat → Nat → Bool) (face : Nat) : partS s S face 0 0 = fun _ _ => false := by
  funext u v
  cases h : partS s S face 0 0 u v
  · rfl
  · obtain ⟨x, y, _, _, h3, _⟩ := partS_iff.1 h; omega
theorem partS_row (s : Nat) (S : Nat → Nat → Bool) (face k : Nat) : partS s S face k 7 = partS s S face (k + 1) 0 := by
  funext u v
  rw [Bool.eq_iff_iff, partS_iff, partS_iff]
  constructor
  · rintro ⟨x, y, h1, h2, h3, h4⟩; exact ⟨x, y, h1, h2, by omega, h4⟩
  · rintro ⟨x, y, h1, h2, h3, h4⟩; exact ⟨x, y, h1, h2, by omega, h4⟩
theorem partS_all (s : Nat) (S : Nat → Nat → Bool) (face : Nat) : partS s S face 7 0 = stepS s S face := by
  funext u v
  rw [Bool.eq_iff_iff, partS_iff, stepS_iff]
  constructor
  · rintro ⟨x, y, h1, h2, h3, h4⟩; exact ⟨x, y, h1, h2, h4⟩
  · rintro ⟨x, y, h1, h2, h4⟩; exact ⟨x, y, h1, h2, by omega, h4⟩
theorem partS_no {s : Nat} {S : Nat → Nat → Bool} {face k j : Nat} (h : S k j = false) : partS s S face k (j + 1) = partS s S face k j := by
  funext u v
  rw [Bool.eq_iff_iff, partS_iff, partS_iff]
  constructor
  · rintro ⟨x, y, h1, h2, h3, h4, h5⟩
    refine ⟨x, y, h1, h2, ?_, h4, h5⟩
    by_cases e : x = k ∧ y = j
    · obtain ⟨rfl, rfl⟩ := e; rw [h] at h4; cases h4
    · omega
  · rintro ⟨x, y, h1, h2, h3, h4⟩; exact ⟨x, y, h1, h2, by omega, h4⟩
theorem partS_yes {s : Nat} {S : Nat → Nat → Bool} {face k j : Nat} (hk : k < 7) (hj : j < 7) (h : S k j = true) : partS s S face k (j + 1) = putS s (partS s S face k j) k j face := by
  funext u v
  rw [Bool.eq_iff_iff, partS_iff, putS, Bool.or_eq_true, partS_iff]
  constructor
  · rintro ⟨x, y, h1, h2, h3, h4, h5⟩
    by_cases e : x = k ∧ y = j
    · obtain ⟨rfl, rfl⟩ := e; exact .inr h5
    · exact .inl ⟨x, y, h1, h2, by omega, h4, h5⟩
  · rintro (⟨x, y, h1, h2, h3, h4⟩ | h5)
    · exact ⟨x, y, h1, h2, by omega, h4⟩
    · exact ⟨k, j, hk, hj, by omega, h, h5⟩

set_option maxRecDepth 100000 in
set_option maxHeartbeats 2000000 in
theorem setBehind_any (g s face : Nat) (f o : Int) (G : Nat → Int) (S : Nat → Nat → Bool) (w : World) (hC : CV w g s f o G) (hS : inS s S) (hs : s ≤ 6) (hf1 : 1 ≤ face) (hf : face ≤ 8) :
    Calls Try.prog 45 #[.pointer (some ⟨g, 0, none⟩), .agg (setC S), .int .i64 face] w fun e w' =>
      e = .returned (.agg (setC (stepS s S face))) ∧ Below w.heap.size w w' := by
  have hgl : g < w.heap.size := cell_lt hC.sq
  have hz := zeroSet
  have hbx : ∀ (o : Obj), Below w.heap.size w (w.alloc o) := fun o => below1 _ _
  have kS0 : SA (((w.alloc (.cells (setC S) 69)).alloc (.cells (setC (fun _ _ => false)) 69)).alloc (.cells (setC (fun _ _ => false)) 69)) w.heap.size 69 S :=
    SA.alloc (SA.alloc (heap_alloc_at _ _ _ rfl) _) _
  have kR0 : SA (((w.alloc (.cells (setC S) 69)).alloc (.cells (setC (fun _ _ => false)) 69)).alloc (.cells (setC (fun _ _ => false)) 69)) (w.heap.size + 1) 69 (fun _ _ => false) :=
    SA.alloc (heap_alloc_at _ _ _ (by simp)) _
  have kU0 : SA (((w.alloc (.cells (setC S) 69)).alloc (.cells (setC (fun _ _ => false)) 69)).alloc (.cells (setC (fun _ _ => false)) 69)) (w.heap.size + 2) 69 (fun _ _ => false) :=
    heap_alloc_at _ _ _ (by simp)
  go_enter Try.func45, Try.ntmps45
  go_wp2_with (refine wpList_load_row rfl 69 (.tmp 4) rfl w.heap.size rfl _ _ _ _ kS0 Try.underlying69 rfl ?_ ?_; (rw [setC_size]; exact sizeSet))
  obtain ⟨W0, hW0⟩ : ∃ W0, W0 = ((w.alloc (.cells (setC S) 69)).alloc (.cells (setC (fun _ _ => false)) 69)).alloc (.cells (setC (fun _ _ => false)) 69) := ⟨_, rfl⟩
  have hB0 : Below w.heap.size w W0 := by rw [hW0]; exact below3 _ _ _ _
  rw [← hW0] at kS0 kR0 kU0 ⊢
  clear hz hbx kS0
  go_loopw [8, 9, 10, 11, 13] (fun _ _ _ _ i wr => ∃ k : Nat, k ≤ 7 ∧ i = .int .i64 (k : Int) ∧ Below w.heap.size w wr ∧ SA wr (w.heap.size + 1) 69 (fun _ _ => false) ∧ SA wr (w.heap.size + 2) 69 (partS s S face k 0)) (fun _ _ _ _ i _ => 7 - (intOf i).toNat)
  case atStart => exact ⟨0, by omega, rfl, hB0, kR0, by rw [partS_zero]; exact kU0⟩
  case round =>
    clear kR0 kU0 hB0 hW0
    obtain ⟨k, hk, rfl, hB, kR, kU⟩ := hrel
    have zU := kU.lt
    by_cases hlt : k < 7
    · have h3 : (k : Int) < 7 := by omega
      have hx := idx_set S k hlt
      have hz7 := zeroRow7
      have hst := storeRow7 S k
      have kr : (wr.alloc (.cells (rowS S k) 67)).heap[wr.heap.size]? = some (.cells (rowS S k) 67 (0, 0)) := heap_alloc_at _ _ _ rfl
      go_wp2_with (refine wpList_load_row rfl 67 (.tmp 9) rfl wr.heap.size rfl _ _ _ _ kr Try.underlying67 rfl ?_ ?_; (rw [rowS_size]; exact sizeRow7))
      clear hz7 hst
      obtain ⟨W1, hW1⟩ : ∃ W1, W1 = wr.alloc (.cells (rowS S k) 67) := ⟨_, rfl⟩
      have kR1 := kR.alloc (.cells (rowS S k) 67)
      have kU1 := kU.alloc (.cells (rowS S k) 67)
      have hB1 := hB.alloc hB.size (.cells (rowS S k) 67)
      rw [← hW1] at kR1 kU1 hB1 kr ⊢
      clear hW1 kR kU hB
      go_loopw [10, 11, 18] (fun _ _ i wi => ∃ j : Nat, j ≤ 7 ∧ i = .int .i64 (j : Int) ∧ Below w.heap.size w wi ∧ SA wi (w.heap.size + 1) 69 (fun _ _ => false) ∧ SA wi (w.heap.size + 2) 69 (partS s S face k j)) (fun _ _ i _ => 7 - (intOf i).toNat)
      case atStart => exact ⟨0, by omega, rfl, hB1, kR1, kU1⟩
      case round =>
        clear kr kR1 kU1 hB1
        rename_i wr0 _ _ _ _ _ _ _ _
        obtain ⟨j, hj, rfl, hB, kR, kU⟩ := hrel
        have zU := kU.lt
        by_cases hjl : j < 7
        · have h4 : (j : Int) < 7 := by omega
          have hy := idx_row S k j hjl
          cases hSj : S k j
          · rw [hSj] at hy
            have HSJ := Lib.hid hSj; clear hSj
            go_wp2_with fail
            go_roundw
            case rel => exact ⟨j + 1, by omega, by go_num, hB, kR, by rw [partS_no HSJ.out]; exact kU⟩
            case measure => simp [intOf]; omega
          · rw [hSj] at hy
            have hin := hS k j hSj
            have HSJ := Lib.hid hSj; clear hSj
            go_wp2_with fail
            refine (putBehind_any g (w.heap.size + 2) s k j face f o G _ _ (hC.below hB hgl) kU hs hin.1 hin.2 hf1 hf).mono ?_
            rintro e w5 ⟨rfl, kU5, hg5⟩
            have kR5 := kR.grown hg5 (by simp)
            have hB5 := hB.grown hg5 hB.size (fun i h => by cases h; omega)
            go_wp2_with fail
            go_roundw
            case rel => exact ⟨j + 1, by omega, by go_num, hB5, kR5, by rw [partS_yes hlt hjl HSJ.out]; exact kU5⟩
            case measure => simp [intOf]; omega
        · obtain rfl : j = 7 := by omega
          go_wp2_with fail
          go_roundw
          case rel => exact ⟨k + 1, by omega, by go_num, hB, kR, by rw [← partS_row]; exact kU⟩
          case measure => simp [intOf]; omega
    · obtain rfl : k = 7 := by omega
      rw [partS_all] at kU
      go_wp2_with (first | (refine wpList_load_row rfl 69 (.tmp 7) rfl (w.heap.size + 2) rfl _ _ _ _ kU Try.underlying69 rfl ?_ ?_; (rw [setC_size]; exact sizeSet)) | (refine wpList_store_row rfl 69 (.tmp 6) (.tmp 31) rfl (w.heap.size + 1) rfl _ _ _ rfl kR ?_ ?_ (setC_one _) ?_; (rw [setC_size, setC_size]); (rw [setC_size]; exact sizeSet); intro w4 hC4 hg4 hs4))
      exact bodyPost_ret (v := .agg (setC (stepS s S face))) (results_cell1k Try.results45 _ _ _ _ _ _ _ rfl hC4 Try.underlying69 rfl (by rw [setC_size]; exact sizeSet)) rfl
        ⟨rfl, hB.grown hg4 hB.size (fun k h => by cases h; omega)⟩
end Go.Proofs.Ytknclgfjoajldab

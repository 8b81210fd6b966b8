/- Several texts, one behind the other: C5f C5g. -/
import Derived.Test.YtmiefdjbhcpnbaaZPCah

namespace Go.Proofs.Ytmiefdjbhcpnbaa
open Go.RowKit

set_option maxRecDepth 100000 in
theorem idx_set (S : Nat → Nat → Bool) (x : Nat) (hx : x < 7) (w : World) : (Instr.index 49 (.agg (setC S)) (.int .i64 x)).run Try.prog w = .ok (.agg (rowS S x)) w := by
  rcases (show x = 0 ∨ x = 1 ∨ x = 2 ∨ x = 3 ∨ x = 4 ∨ x = 5 ∨ x = 6 by omega) with rfl | rfl | rfl | rfl | rfl | rfl | rfl <;> kernel_rfl
set_option maxRecDepth 100000 in
theorem idx_row (S : Nat → Nat → Bool) (x y : Nat) (hy : y < 7) (w : World) : (Instr.index 47 (.agg (rowS S x)) (.int .i64 y)).run Try.prog w = .ok (.bool (S x y)) w := by
  rcases (show y = 0 ∨ y = 1 ∨ y = 2 ∨ y = 3 ∨ y = 4 ∨ y = 5 ∨ y = 6 by omega) with rfl | rfl | rfl | rfl | rfl | rfl | rfl <;> kernel_rfl
theorem sizeRow7 : (Try.prog.info? 47).map (·.size) = some 7 := by kernel_rfl
theorem rowS_size (S : Nat → Nat → Bool) (x : Nat) : (rowS S x).size = 7 := by simp [rowS]
theorem rowS_one (S : Nat → Nat → Bool) (x : Nat) : ∀ u ∈ (rowS S x).toList, u.oneCell' = true := by
  intro u hu
  simp only [rowS, List.mem_map] at hu
  obtain ⟨i, _, rfl⟩ := hu
  rfl
theorem zeroRow7 : (#[.bool false, .bool false, .bool false, .bool false, .bool false, .bool false, .bool false] : Array Value) = rowS (fun _ _ => false) 0 := by kernel_rfl
theorem storeRow7 (S : Nat → Nat → Bool) (x : Nat) (w : World) : (storeCells ⟨w.heap.size, 0, none⟩ (rowS S x).toList 0).run Try.prog (w.alloc (.cells (rowS (fun _ _ => false) 0) 47)) = .ok () (w.alloc (.cells (rowS S x) 47)) :=
  run_storeCells_new w _ _ _ (by rw [rowS_size]; exact sizeRow7) (by rw [rowS_size, rowS_size]) (Array.all_eq_true_iff_forall_mem.2 fun u hu => rowS_one _ _ u (Array.mem_toList_iff.2 hu))

/-- What is led to from the squares up to (k, j), in order. -/
def partS (s : Nat) (S : Nat → Nat → Bool) (face k j : Nat) : Nat → Nat → Bool :=
  fun u v => (List.range 7).any fun x => (List.range 7).any fun y => (decide (x < k ∨ x = k ∧ y < j) && S x y) && leads s x y face u v
theorem partS_iff {s : Nat} {S : Nat → Nat → Bool} {face k j u v : Nat} : partS s S face k j u v = true ↔ ∃ x y, x < 7 ∧ y < 7 ∧ (x < k ∨ x = k ∧ y < j) ∧ S x y = true ∧ leads s x y face u v = true := by
  unfold partS
  rw [any7]
  simp only [Bool.and_eq_true, decide_eq_true_eq, and_assoc]
theorem partS_zero (s : Nat) (S : Nat → Nat → Bool) (face : Nat) : partS s S face 0 0 = fun _ _ => false := by
  funext u v
  cases h : partS s S face 0 0 u v
  · rfl
  · obtain ⟨x, y, _, _, h3, _⟩ := partS_iff.1 h; omega
theorem partS_row (s : Nat) (S : Nat → Nat → Bool) (face k : Nat) : partS s S face k 7 = partS s S face (k + 1) 0 := by
  funext u v
  rw [Bool.eq_iff_iff, partS_iff, partS_iff]
  constructor
  · rintro ⟨x, y, h1, h2, h3, h4⟩; exact ⟨x, y, h1, h2, by omega, h4⟩
  · rintro ⟨x, y, h1, h2, h3, h4⟩; exact ⟨x, y, h1, h2, by omega, h4⟩
theorem partS_all (s : Nat) (S : Nat → Nat → Bool) (face : Nat) : partS s S face 7 0 = stepS s S face := by
  funext u v
  rw [Bool.eq_iff_iff, partS_iff, stepS_iff]
  constructor
  · rintro ⟨x, y, h1, h2, h3, h4⟩; exact ⟨x, y, h1, h2, h4⟩
  · rintro ⟨x, y, h1, h2, h4⟩; exact ⟨x, y, h1, h2, by omega, h4⟩
theorem partS_no {s : Nat} {S : Nat → Nat → Bool} {face k j : Nat} (h : S k j = false) : partS s S face k (j + 1) = partS s S face k j := by
  funext u v
  rw [Bool.eq_iff_iff, partS_iff, partS_iff]
  constructor
  · rintro ⟨x, y, h1, h2, h3, h4, h5⟩
    refine ⟨x, y, h1, h2, ?_, h4, h5⟩
    by_cases e : x = k ∧ y = j
    · obtain ⟨rfl, rfl⟩ := e; rw [h] at h4; cases h4
    · omega
  · rintro ⟨x, y, h1, h2, h3, h4⟩; exact ⟨x, y, h1, h2, by omega, h4⟩
theorem partS_yes {s : Nat} {S : Nat → Nat → Bool} {face k j : Nat} (hk : k < 7) (hj : j < 7) (h : S k j = true) : partS s S face k (j + 1) = putS s (partS s S face k j) k j face := by
  funext u v
  rw [Bool.eq_iff_iff, partS_iff, putS, Bool.or_eq_true, partS_iff]
  constructor
  · rintro ⟨x, y, h1, h2, h3, h4, h5⟩
    by_cases e : x = k ∧ y = j
    · obtain ⟨rfl, rfl⟩ := e; exact .inr h5
    · exact .inl ⟨x, y, h1, h2, by omega, h4, h5⟩
  · rintro (⟨x, y, h1, h2, h3, h4⟩ | h5)
    · exact ⟨x, y, h1, h2, by omega, h4⟩
    · exact ⟨k, j, hk, hj, by omega, h, h5⟩

set_option maxRecDepth 100000 in
set_option maxHeartbeats 2000000 in
theorem setBehind_any (g s face : Nat) (f o : Int) (G : Nat → Int) (S : Nat → Nat → Bool) (w : World) (hC : CV w g s f o G) (hS : inPS s S) (hs : s ≤ 6) (hf1 : 1 ≤ face) (hf : face ≤ 8) :
    Calls Try.prog 32 #[.pointer (some ⟨g, 0, none⟩), .agg (setC S), .int .i64 face] w fun e w' =>
      e = .returned (.agg (setC (stepS s S face))) ∧ Below w.heap.size w w' := by
  have hgl : g < w.heap.size := cell_lt hC.sq
  have hz := zeroSet
  have hbx : ∀ (o : Obj), Below w.heap.size w (w.alloc o) := fun o => below1 _ _
  have kS0 : SA (((w.alloc (.cells (setC S) 49)).alloc (.cells (setC (fun _ _ => false)) 49)).alloc (.cells (setC (fun _ _ => false)) 49)) w.heap.size 49 S :=
    SA.alloc (SA.alloc (heap_alloc_at _ _ _ rfl) _) _
  have kR0 : SA (((w.alloc (.cells (setC S) 49)).alloc (.cells (setC (fun _ _ => false)) 49)).alloc (.cells (setC (fun _ _ => false)) 49)) (w.heap.size + 1) 49 (fun _ _ => false) :=
    SA.alloc (heap_alloc_at _ _ _ (by simp)) _
  have kU0 : SA (((w.alloc (.cells (setC S) 49)).alloc (.cells (setC (fun _ _ => false)) 49)).alloc (.cells (setC (fun _ _ => false)) 49)) (w.heap.size + 2) 49 (fun _ _ => false) :=
    heap_alloc_at _ _ _ (by simp)
  go_enter Try.func32, Try.ntmps32
  go_wp2_with (refine wpList_load_row rfl 49 (.tmp 4) rfl w.heap.size rfl _ _ _ _ kS0 Try.underlying49 rfl ?_ ?_; (rw [setC_size]; exact sizeSet))
  obtain ⟨W0, hW0⟩ : ∃ W0, W0 = ((w.alloc (.cells (setC S) 49)).alloc (.cells (setC (fun _ _ => false)) 49)).alloc (.cells (setC (fun _ _ => false)) 49) := ⟨_, rfl⟩
  have hB0 : Below w.heap.size w W0 := by rw [hW0]; exact below3 _ _ _ _
  rw [← hW0] at kS0 kR0 kU0 ⊢
  clear hz hbx kS0
  go_loopw [8, 9, 10, 11, 13] (fun _ _ _ _ i wr => ∃ k : Nat, k ≤ 7 ∧ i = .int .i64 (k : Int) ∧ Below w.heap.size w wr ∧ SA wr (w.heap.size + 1) 49 (fun _ _ => false) ∧ SA wr (w.heap.size + 2) 49 (partS s S face k 0)) (fun _ _ _ _ i _ => 7 - (intOf i).toNat)
  case atStart => exact ⟨0, by omega, rfl, hB0, kR0, by rw [partS_zero]; exact kU0⟩
  case round =>
    clear kR0 kU0 hB0 hW0
    obtain ⟨k, hk, rfl, hB, kR, kU⟩ := hrel
    have zU := kU.lt
    by_cases hlt : k < 7
    · have h3 : (k : Int) < 7 := by omega
      have hx := idx_set S k hlt
      have hz7 := zeroRow7
      have hst := storeRow7 S k
      have kr : (wr.alloc (.cells (rowS S k) 47)).heap[wr.heap.size]? = some (.cells (rowS S k) 47 (0, 0)) := heap_alloc_at _ _ _ rfl
      go_wp2_with (refine wpList_load_row rfl 47 (.tmp 9) rfl wr.heap.size rfl _ _ _ _ kr Try.underlying47 rfl ?_ ?_; (rw [rowS_size]; exact sizeRow7))
      clear hz7 hst
      obtain ⟨W1, hW1⟩ : ∃ W1, W1 = wr.alloc (.cells (rowS S k) 47) := ⟨_, rfl⟩
      have kR1 := kR.alloc (.cells (rowS S k) 47)
      have kU1 := kU.alloc (.cells (rowS S k) 47)
      have hB1 := hB.alloc hB.size (.cells (rowS S k) 47)
      rw [← hW1] at kR1 kU1 hB1 kr ⊢
      clear hW1 kR kU hB
      go_loopw [10, 11, 18] (fun _ _ i wi => ∃ j : Nat, j ≤ 7 ∧ i = .int .i64 (j : Int) ∧ Below w.heap.size w wi ∧ SA wi (w.heap.size + 1) 49 (fun _ _ => false) ∧ SA wi (w.heap.size + 2) 49 (partS s S face k j)) (fun _ _ i _ => 7 - (intOf i).toNat)
      case atStart => exact ⟨0, by omega, rfl, hB1, kR1, kU1⟩
      case round =>
        clear kr kR1 kU1 hB1
        rename_i wr0 _ _ _ _ _ _ _ _
        obtain ⟨j, hj, rfl, hB, kR, kU⟩ := hrel
        have zU := kU.lt
        by_cases hjl : j < 7
        · have h4 : (j : Int) < 7 := by omega
          have hy := idx_row S k j hjl
          cases hSj : S k j
          · rw [hSj] at hy
            have HSJ := Lib.hid hSj; clear hSj
            go_wp2_with fail
            go_roundw
            case rel => exact ⟨j + 1, by omega, by go_num, hB, kR, by rw [partS_no HSJ.out]; exact kU⟩
            case measure => simp [intOf]; omega
          · rw [hSj] at hy
            have hin := hS k j hSj
            have HSJ := Lib.hid hSj; clear hSj
            go_wp2_with fail
            refine (putBehind_any g (w.heap.size + 2) s k j face f o G _ _ (hC.below hB hgl) kU hs hin.1 hin.2 hf1 hf).mono ?_
            rintro e w5 ⟨rfl, kU5, hg5⟩
            have kR5 := kR.grown hg5 (by simp)
            have hB5 := hB.grown hg5 hB.size (fun i h => by cases h; omega)
            go_wp2_with fail
            go_roundw
            case rel => exact ⟨j + 1, by omega, by go_num, hB5, kR5, by rw [partS_yes hlt hjl HSJ.out]; exact kU5⟩
            case measure => simp [intOf]; omega
        · obtain rfl : j = 7 := by omega
          go_wp2_with fail
          go_roundw
          case rel => exact ⟨k + 1, by omega, by go_num, hB, kR, by rw [← partS_row]; exact kU⟩
          case measure => simp [intOf]; omega
    · obtain rfl : k = 7 := by omega
      rw [partS_all] at kU
      go_wp2_with (first | (refine wpList_load_row rfl 49 (.tmp 7) rfl (w.heap.size + 2) rfl _ _ _ _ kU Try.underlying49 rfl ?_ ?_; (rw [setC_size]; exact sizeSet)) | (refine wpList_store_row rfl 49 (.tmp 6) (.tmp 31) rfl (w.heap.size + 1) rfl _ _ _ rfl kR ?_ ?_ (setC_one _) ?_; (rw [setC_size, setC_size]); (rw [setC_size]; exact sizeSet); intro w4 hC4 hg4 hs4))
      exact bodyPost_ret (v := .agg (setC (stepS s S face))) (results_cell1k Try.results32 _ _ _ _ _ _ _ rfl hC4 Try.underlying49 rfl (by rw [setC_size]; exact sizeSet)) rfl
        ⟨rfl, hB.grown hg4 hB.size (fun k h => by cases h; omega)⟩
end Go.Proofs.Ytmiefdjbhcpnbaa

namespace Go.Proofs.Ytmiefdjbhcpnbaa
open Go.RowKit

theorem take_sum_le : ∀ (ns : List Nat) (k : Nat), (ns.take k).sum ≤ ns.sum
  | [], k => by simp
  | n :: ns, 0 => by simp
  | n :: ns, k + 1 => by simp only [List.take_succ_cons, List.sum_cons]; have := take_sum_le ns k; omega
theorem take_sum_succ (ns : List Nat) (k : Nat) (hk : k < ns.length) : (ns.take (k + 1)).sum = (ns.take k).sum + ns[k] := by
  rw [List.take_succ_eq_append_getElem hk, List.sum_append]; simp

theorem addClo_any (x y : Int) (w : World) (h : -1000000000000000 ≤ x + y) (h' : x + y ≤ 1000000000000000) :
    Calls Try.prog 45 #[.int .i64 x, .int .i64 y] w fun e w' => e = .returned (.int .i64 (x + y)) ∧ w = w' := by
  have w0 : IntKind.i64.wrap (x + y) = x + y := IntWalk.i64_in _ (by omega)
  go_enter Try.func45, Try.ntmps45
  go_wp2
  go_ret
  exact ⟨rfl, rfl⟩

set_option maxRecDepth 100000 in
theorem sumInt_any (A : Option Addr) (c : Nat) (ns : List Nat) (w : World) (hr : RI w w.heap.size A (ns.map (fun i : Nat => (i : Int)))) (hb : ns.sum ≤ 100000000000) :
    Calls Try.prog 44 #[.int .i64 0, .slice A ns.length c, .func (.func 45) #[] #[]] w fun e w' => e = .returned (.int .i64 (ns.sum : Nat)) ∧ Below w.heap.size w w' := by
  have hl := hr.1
  rw [List.length_map] at hl
  go_enter Try.func44, Try.ntmps44
  go_wp2_with fail
  go_loopw [7, 9, 13] (fun v _ i wr => ∃ k : Nat, k ≤ ns.length ∧ i = .int .i64 (k : Int) ∧ v = .int .i64 ((ns.take k).sum : Nat) ∧ Below w.heap.size w wr) (fun _ _ i _ => ns.length - (intOf i).toNat)
  case atStart => exact ⟨0, Nat.zero_le _, rfl, by simp, Below.refl _ _⟩
  case round =>
    obtain ⟨k, hk, rfl, rfl, hB⟩ := hrel
    by_cases hlt : k < ns.length
    · obtain ⟨b, off, rfl, hbw, c1⟩ := hr.at_ hB (show k < (ns.map (fun i : Nat => (i : Int))).length by simpa using hlt)
      rw [List.getElem_map] at c1
      have hs1 := take_sum_succ ns k hlt
      have hs2 := take_sum_le ns (k + 1)
      obtain ⟨a, ha⟩ : ∃ a, a = (ns.take k).sum := ⟨_, rfl⟩
      obtain ⟨z, hz⟩ : ∃ z, z = ns[k] := ⟨_, rfl⟩
      obtain ⟨a2, ha2⟩ : ∃ a2, a2 = (ns.take (k + 1)).sum := ⟨_, rfl⟩
      rw [← ha, ← hz, ← ha2] at hs1
      rw [← ha2] at hs2
      rw [← hz] at c1
      rw [← ha]
      have h0 : a ≤ 100000000000 ∧ z ≤ 100000000000 := by omega
      have HA := Lib.hid ha2; have HS := Lib.hid hs1
      clear ha hz ha2 hs1 hs2
      go_wp2_with fail
      refine (addClo_any _ _ _ (by omega) (by omega)).mono ?_
      rintro e w2 ⟨rfl, rfl⟩
      go_wp2_with fail
      go_roundw
      case rel => exact ⟨k + 1, by omega, by go_num, by rw [← HA.out, HS.out]; go_num, hB⟩
      case measure => simp [intOf]; omega
    · obtain rfl : k = ns.length := by omega
      rw [List.take_length]
      go_wp2
      go_ret
      exact ⟨rfl, hB⟩

/-- What doneLists adds up. -/
def sumsL (s f t : Nat) (S : Nat → Nat → Bool) (k : Nat) : List Nat := (List.range k).map fun i => doneN s f t (stepS s S (i + 1))
theorem sumsL_len (s f t : Nat) (S : Nat → Nat → Bool) (k : Nat) : (sumsL s f t S k).length = k := by simp [sumsL]
theorem sumsL_succ (s f t : Nat) (S : Nat → Nat → Bool) (k : Nat) : sumsL s f t S (k + 1) = sumsL s f t S k ++ [doneN s f t (stepS s S (k + 1))] := by simp [sumsL, List.range_succ]
theorem sumsL_sum (s f t : Nat) (S : Nat → Nat → Bool) : (sumsL s f t S f).sum = doneN s f (t + 1) S := rfl
theorem pow_small {f t : Nat} (hf : f ≤ 4) (ht : t ≤ 12) : f ^ t ≤ 16777216 := by
  calc f ^ t ≤ 4 ^ t := Nat.pow_le_pow_left hf t
    _ ≤ 4 ^ 12 := Nat.pow_le_pow_right (by decide) ht
    _ = 16777216 := by decide

set_option maxRecDepth 100000 in
set_option maxHeartbeats 2000000 in
theorem doneLists_any : ∀ (t : Nat) (g s f : Nat) (o : Int) (G : Nat → Int) (S : Nat → Nat → Bool) (w : World) (_ : CV w g s f o G) (_ : inPS s S) (_ : s ≤ 6) (_ : f ≤ 4) (_ : t ≤ 12),
    Calls Try.prog 31 #[.pointer (some ⟨g, 0, none⟩), .agg (setC S), .int .i64 t] w fun e w' => e = .returned (.int .i64 (doneN s f t S : Nat)) ∧ Below w.heap.size w w'
  | 0, g, s, f, o, G, S, w, hC, hS, hs, hf, ht => by
    have hgl : g < w.heap.size := cell_lt hC.sq
    have hv : doneN s f 0 S = if S s s then 1 else 0 := rfl
    rw [hv, show ((0 : Nat) : Int) = 0 from rfl]
    have kS : SA (w.alloc (.cells (setC S) 49)) w.heap.size 49 S := heap_alloc_at _ _ _ rfl
    have c0 := hC.below (below1 w (.cells (setC S) 49)) hgl
    have c1 := c0.sq
    have c2 := kS.at_ (show s < 7 by omega) (show s < 7 by omega)
    have hsi : (s : Int) < 7 := by omega
    have hB := below1 w (.cells (setC S) 49)
    go_enter Try.func31, Try.ntmps31
    go_wp2_with fail
    obtain ⟨W, hW⟩ : ∃ W, W = w.alloc (.cells (setC S) 49) := ⟨_, rfl⟩
    rw [← hW] at c1 c2 hB ⊢
    clear hW kS c0
    go_quiet (fail)
    cases hb : S s s
    all_goals
      go_wp2
      all_goals
        first
          | (exfalso; simp_all; done)
          | (go_ret; exact ⟨rfl, drewB hB _⟩)
  | t + 1, g, s, f, o, G, S, w, hC, hS, hs, hf, ht => by
    have ih := doneLists_any t
    have hgl : g < w.heap.size := cell_lt hC.sq
    obtain ⟨i0, hi, hz0, hz1, hz2⟩ := info_parts infoInt1
    have hte : (((t + 1 : Nat) : Int) == 0) = false := beq_eq_false_iff_ne.2 (by omega)
    have htw : IntKind.i64.wrap (((t + 1 : Nat) : Int) - 1) = (t : Int) := by rw [IntWalk.i64_in _ (by omega)]; omega
    obtain ⟨T, hT⟩ : ∃ T, T = t + 1 := ⟨_, rfl⟩
    have hle := doneN_le (f := f) hs (t + 1) S hS
    have hpw := pow_small hf ht
    have HLE := Lib.hid (Nat.le_trans hle hpw)
    have HV := Lib.hid (sumsL_sum s f t S)
    have kS : SA (w.alloc (.cells (setC S) 49)) w.heap.size 49 S := heap_alloc_at _ _ _ rfl
    have hB := below1 w (.cells (setC S) 49)
    have ht' : t ≤ 12 := by omega
    rw [← HV.out]
    rw [← hT] at hte htw ⊢
    clear hle hpw hT
    go_enter Try.func31, Try.ntmps31
    go_wp2_with fail
    go_loopw [7, 8] (fun v i wr => ∃ k : Nat, k ≤ f ∧ i = .int .i64 ((k : Int) + 1) ∧ Below w.heap.size w wr ∧ SA wr w.heap.size 49 S ∧ wr.ownsRow (w.heap.size + 1) 3 1 v k ((sumsL s f t S k).map (fun i : Nat => Value.int .i64 i))) (fun _ i _ => f + 1 - (intOf i).toNat)
    case atStart => exact ⟨0, Nat.zero_le _, rfl, hB, kS, World.ownsRow_nil _ _ _ _⟩
    case round =>
      clear hB kS
      obtain ⟨k, hk, rfl, hB, kS, hown⟩ := hrel
      have cf := (hC.below hB hgl).fa
      have hsz := hB.size
      have hzs := kS.lt
      by_cases hlt : k < f
      · have h3 : (k : Int) + 1 ≤ (f : Int) := by omega
        have hfk : IntKind.i64.wrap ((k : Int) + 1) = (k : Int) + 1 := IntWalk.i64_in _ (by omega)
        obtain ⟨Av, cv, rfl⟩ := own_sliceS hown
        go_wp2_with (refine wpList_load_row rfl 49 (.tmp 4) rfl w.heap.size rfl _ _ _ _ kS Try.underlying49 rfl ?_ ?_; (rw [setC_size]; exact sizeSet))
        refine (setBehind_any g s (k + 1) f o G S _ (hC.below hB hgl) hS hs (by omega) (by omega)).mono ?_
        rintro e w2 ⟨rfl, hx2⟩
        have hB2 := hB.trans (hx2.mono hsz)
        have kS2 := kS.below hx2 hzs
        have own2 := own_below hown hx2
        clear cf hown kS
        go_wp2_with fail
        refine (ih g s f o G (stepS s S (k + 1)) _ (hC.below hB2 hgl) (stepS_in hS _) hs hf ht').mono ?_
        rintro e w3 ⟨rfl, hx3⟩
        have hB3 := hB2.trans (hx3.mono hB2.size)
        have kS3 := kS2.below hx3 kS2.lt
        have own3 := own_below own2 hx3
        have hf3 := own_from own3
        have hs3 := kS3.lt
        obtain ⟨N, hN⟩ : ∃ N, N = doneN s f t (stepS s S (k + 1)) := ⟨_, rfl⟩
        rw [← hN]
        have HN := Lib.hid hN
        clear hN own2 kS2
        go_wp2_with (at_builtin; go_loud (refine wpList_append_own _ rfl _ _ 25 rfl (w.heap.size + 1) 3 i0 (.int .i64 0) 1 8 Try.underlying25 hi hz0 hz1 hz2 rfl (by decide) _ _ _ rfl (own3.alloc _) ⟨w3.heap.size, 0, none⟩ 1 1 [.int .i64 (N : Int)] rfl rfl (cell_new1 _ _ _) (one_int _) (by unfold maxLen; omega) (by omega) (by simp; omega) ?_; intro v1 w4 hown4 hg4 _))
        go_roundw
        case rel =>
          refine ⟨k + 1, by omega, by go_num, (hB3.alloc hB3.size _).grown hg4 (by simp; omega) (fun j h => by have := hf3 j h; omega), (kS3.alloc _).grown hg4 (fun e => by have := hf3 _ e.symm; omega), ?_⟩
          rw [sumsL_succ, List.map_append, ← HN.out]
          exact hown4
        case measure => simp [intOf]; omega
      · have h3 : ¬ (k : Int) + 1 ≤ (f : Int) := by omega
        obtain rfl : k = f := by omega
        have hown' := hown
        rw [show (sumsL s k t S k).map (fun i : Nat => Value.int .i64 i) = ((sumsL s k t S k).map (fun i : Nat => (i : Int))).map (Value.int .i64) by rw [List.map_map]; rfl] at hown'
        obtain ⟨A', c', rfl, ho⟩ := own_oi hown' (by rw [List.length_map, sumsL_len])
        have hri := ho.ri (by rw [List.length_map, sumsL_len]; omega)
        rw [List.length_map]
        clear hown hown'
        go_wp2_with fail
        refine (sumInt_any _ _ _ _ hri (by rw [HV.out]; have := HLE.out; omega)).mono ?_
        rintro e w5 ⟨rfl, hx5⟩
        go_wp2
        go_ret
        exact ⟨rfl, hB.trans (hx5.mono hsz)⟩
end Go.Proofs.Ytmiefdjbhcpnbaa

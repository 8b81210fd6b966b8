/-
  Pairs: PairStates on both sides.
-/
import Derived.Test.YtknclgfjoajldabC5h
import Derived.Test.YtknclgfjoajldabM32
import Derived.Test.YtknclgfjoajldabWGrid
namespace Go.Proofs.Ytknclgfjoajldab
open Go.RowKit

theorem infoSl1 : (Try.prog.info? 23).map (fun i => (i.zero, i.size, i.bytes)) = some (some (.slice none 0 0), 1, 24) := by kernel_rfl
theorem one_slice (A : Option Addr) (n c : Nat) : ∀ u ∈ [Value.slice A n c], u.oneCell' = true := by intro u hu; simp at hu; subst hu; rfl
theorem cell_new2 (w : World) (o : Obj) (v : Value) (t : TypeId) : ∀ (j : Nat) u, [v][j]? = some u → ((w.alloc o).alloc (.cells #[v] t)).cell? ((⟨w.heap.size + 1, 0, none⟩ : Addr).add j) = some u := by
  have := cell_new1 (w.alloc o) v t
  rw [World.size_alloc] at this
  exact this
/-- A slice of slices of numbers and a bool are handed back. -/
def GridBack (w : World) (n : Nat) (len : Nat → Nat) (F : Nat → Nat → Int) (ok : Bool) (e : Ending) (w' : World) : Prop :=
  ∃ A c Bk C, e = .returned (.tuple #[.slice A n c, .bool ok]) ∧ Grid w' w.heap.size 23 3 (.slice A n c) n len F Bk C ∧ Below w.heap.size w w'
theorem Grid.mono {w : World} {base base' : Nat} {t te : TypeId} {v : Value} {n : Nat} {len : Nat → Nat} {F : Nat → Nat → Int} {Bk C : Nat → Nat} (h : Grid w base t te v n len F Bk C) (hb : base' ≤ base) : Grid w base' t te v n len F Bk C := by
  obtain ⟨⟨h0, h1⟩, h2, h3⟩ := h
  refine ⟨⟨h0, ?_⟩, fun y hy => ⟨Nat.le_trans hb (h2 y hy).1, (h2 y hy).2⟩, h3⟩
  rcases h1 with h1 | ⟨g, cap, cs, e, hg, r⟩
  · exact .inl h1
  · exact .inr ⟨g, cap, cs, e, Nat.le_trans hb hg, r⟩
/-- The grid of states goes on by the squares (k, j). -/
theorem grid_state {w w2 : World} {base : Nat} {v v' : Value} {s a b k j : Nat} {Bk C : Nat → Nat} (hr : inR s a b k j) (hbase : base ≤ w.heap.size) (h : Grid w base 23 3 v (cntS s a b k j) (fun _ => 2) (stateF s a b) Bk C)
    (hown : w2.ownsRow base 23 1 v' (cntS s a b k j + 1) (((List.range (cntS s a b k j)).map fun y => Value.slice (some ⟨Bk y, 0, none⟩) 2 (C y)) ++ [Value.slice (some ⟨w.heap.size, 0, none⟩) 2 2]))
    (hg : ((w.alloc (.cells #[.int .i64 k, .int .i64 j] 3)).alloc (.cells #[.slice (some ⟨w.heap.size, 0, none⟩) 2 2] 23)).grownBy w2 v.ownBlock)
    (hb : v'.ownBlock = v.ownBlock ∨ v'.ownBlock = some ((w.alloc (.cells #[.int .i64 k, .int .i64 j] 3)).alloc (.cells #[.slice (some ⟨w.heap.size, 0, none⟩) 2 2] 23)).heap.size) :
    ∃ Bk' C', Grid w2 base 23 3 v' (cntS s a b k (j + 1)) (fun _ => 2) (stateF s a b) Bk' C' := by
  obtain ⟨e1, _, e3, e4⟩ := cntS_in hr
  have hp := Grid.push (h.alloc (.cells #[.int .i64 k, .int .i64 j] 3)) (rowTwo w 3 k j) hbase (fun e => by have := h.lt _ e; omega) (fun y hy e => by have := (h.2.1 y hy).2.2.lt; omega) hown hg hb
  rw [e1]
  refine ⟨_, _, hp.congr (fun y _ => by split <;> rfl) (fun y hy i hi => ?_)⟩
  by_cases e : y = cntS s a b k j
  · subst e
    simp only [if_true, stateF, e3, e4]
  · simp only [e, if_false]

set_option maxRecDepth 100000 in
theorem specPairStates_no (s f a b : Int) (w : World) (hp : pairOk s f a b = false) :
    Calls Try.prog 21 #[.int .i64 s, .int .i64 f, .int .i64 a, .int .i64 b] w (GridBack w 0 (fun _ => 2) (fun _ _ => 0) false) := by
  have HP := Lib.hid hp; clear hp
  go_enter Try.func21, Try.ntmps21
  go_wp2_with (go_at_call 34; refine (oiGood_any _ _ _ _ _).mono ?_; rintro e w' ⟨rfl, rfl⟩; rw [HP.out])
  go_ret2
  exact ⟨none, 0, fun _ => 0, fun _ => 0, rfl, Grid.nil _ _ _ _ _ _ _ _, Below.refl _ _⟩

set_option maxRecDepth 100000 in
set_option maxHeartbeats 2000000 in
theorem specPairStates_yes (s f a b : Nat) (w : World) (hp : pairOk s f a b = true) :
    Calls Try.prog 21 #[.int .i64 s, .int .i64 f, .int .i64 a, .int .i64 b] w (GridBack w ((s + 1 - a) * (s + 1 - b)) (fun _ => 2) (stateF s a b) true) := by
  have hh := pairOk_iff.1 hp
  have hs : s ≤ 6 := by omega
  have ha : a ≤ s := by omega
  have hb : b ≤ s := by omega
  obtain ⟨i0, hi, hz0, hz1, hz2⟩ := info_parts infoSl1
  have HP := Lib.hid hp; clear hp hh
  go_enter Try.func21, Try.ntmps21
  go_wp2_with (go_at_call 34; refine (oiGood_any _ _ _ _ _).mono ?_; rintro e w' ⟨rfl, rfl⟩; rw [HP.out])
  go_loopw [10, 11, 12] (fun v x _ wr => ∃ (k : Nat) (Bk C : Nat → Nat), a ≤ k ∧ k ≤ s + 1 ∧ x = .int .i64 (k : Int) ∧ Below w.heap.size w wr ∧ Grid wr w.heap.size 23 3 v (cntS s a b k 0) (fun _ => 2) (stateF s a b) Bk C) (fun _ x _ _ => s + 1 - (intOf x).toNat)
  case atStart => exact ⟨a, fun _ => 0, fun _ => 0, by omega, by omega, rfl, Below.refl _ _, by
    rw [show cntS s a b a 0 = 0 by unfold cntS; rw [show min a (s + 1) - a = 0 by omega, show min 0 (s + 1) - b = 0 by omega]; simp]
    exact Grid.nil _ _ _ _ _ _ _ _⟩
  case round =>
    obtain ⟨k, Bk, C, hak, hk, rfl, hB, hG⟩ := hrel
    by_cases hlt : k ≤ s
    · have h3 : (k : Int) ≤ (s : Int) := by omega
      have hw1 : IntKind.i64.wrap ((k : Int) + 1) = (k : Int) + 1 := IntWalk.i64_in _ (by omega)
      obtain ⟨Av, cv, rfl⟩ := hG.slice
      go_wp2_with fail
      go_loopw [10, 12] (fun v y wi => ∃ (j : Nat) (Bk C : Nat → Nat), b ≤ j ∧ j ≤ s + 1 ∧ y = .int .i64 (j : Int) ∧ Below w.heap.size w wi ∧ Grid wi w.heap.size 23 3 v (cntS s a b k j) (fun _ => 2) (stateF s a b) Bk C) (fun _ y _ => s + 1 - (intOf y).toNat)
      case atStart => exact ⟨b, Bk, C, by omega, by omega, rfl, hB, by
        rw [show cntS s a b k b = cntS s a b k 0 by unfold cntS; rw [if_pos (by omega), if_pos (by omega), show min b (s + 1) - b = 0 by omega, show min 0 (s + 1) - b = 0 by omega]]
        exact hG⟩
      case round =>
        clear hB hG
        obtain ⟨j, Bk, C, hbj, hj, rfl, hB, hG⟩ := hrel
        by_cases hjl : j ≤ s
        · have h4 : (j : Int) ≤ (s : Int) := by omega
          have hw2 : IntKind.i64.wrap ((j : Int) + 1) = (j : Int) + 1 := IntWalk.i64_in _ (by omega)
          have hr : inR s a b k j := ⟨hak, hlt, hbj, hjl⟩
          have hcl := cntS_le (s := s) (a := a) (b := b) (k := k) (j := j) hs
          have hsz := hB.size
          have hGa := (hG.alloc (.cells #[.int .i64 k, .int .i64 j] 3)).alloc (.cells #[.slice (some ⟨wr.heap.size, 0, none⟩) 2 2] 23)
          obtain ⟨Av, cv, rfl⟩ := hG.slice
          go_wp2_with (at_builtin; go_loud (refine wpList_append_own_at _ rfl _ _ 31 rfl w.heap.size 23 i0 (.slice none 0 0) 1 24 Try.underlying31 hi hz0 hz1 hz2 rfl (by decide) _ _ _ rfl hGa.1 ⟨wr.heap.size + 1, 0, none⟩ 1 1 [.slice (some ⟨wr.heap.size, 0, none⟩) 2 2] rfl rfl (cell_new2 _ _ _ _) (one_slice _ _ _) (by unfold maxLen; omega) (by omega) (by simp; omega) ?_; intro v1 w4 hown4 hg4 _ hb4))
          go_roundw
          case rel =>
            obtain ⟨Bk', C', hG'⟩ := grid_state hr hsz hG hown4 hg4 hb4
            exact ⟨j + 1, Bk', C', by omega, by omega, by go_num, ((hB.alloc hsz _).alloc (by simp; omega) _).grown hg4 (by simp; omega) (fun i h => hG.from_ i h), hG'⟩
          case measure => simp [intOf]; omega
        · have h4 : ¬ (j : Int) ≤ (s : Int) := by omega
          obtain rfl : j = s + 1 := by omega
          go_wp2_with fail
          go_roundw
          case rel =>
            refine ⟨k + 1, Bk, C, by omega, by omega, by go_num, hB, ?_⟩
            rw [← cntS_row hs ha, show cntS s a b k 7 = cntS s a b k (s + 1) by unfold cntS; rw [if_pos (by omega), if_pos (by omega), show min 7 (s + 1) = min (s + 1) (s + 1) by omega]]
            exact hG
          case measure => simp [intOf]; omega
    · have h3 : ¬ (k : Int) ≤ (s : Int) := by omega
      obtain rfl : k = s + 1 := by omega
      have e : cntS s a b (s + 1) 0 = (s + 1 - a) * (s + 1 - b) := by unfold cntS; rw [if_neg (by omega), show min (s + 1) (s + 1) = s + 1 by omega]; rfl
      rw [e] at hG
      obtain ⟨Av, cv, rfl⟩ := hG.slice
      go_wp2
      go_ret2
      exact ⟨Av, cv, Bk, C, rfl, hG, hB⟩

theorem storeSet (S : Nat → Nat → Bool) (w : World) : (storeCells ⟨w.heap.size, 0, none⟩ (setC S).toList 0).run Try.prog (w.alloc (.cells (setC (fun _ _ => false)) 69)) = .ok () (w.alloc (.cells (setC S) 69)) :=
  run_storeCells_new w _ _ _ (by rw [setC_size]; exact sizeSet) (by rw [setC_size, setC_size]) (Array.all_eq_true_iff_forall_mem.2 fun u hu => setC_one _ u (Array.mem_toList_iff.2 hu))
theorem CA.grown {w w' : World} {g : Nat} {s f o : Int} {G : Nat → Int} {row : Option Nat} (h : CA w g s f o G) (hg : w.grownBy w' row) (hne : some g ≠ row) : CA w' g s f o G := (hg.block g h.lt hne).trans h
theorem CA.alloc {w : World} {g : Nat} {s f o : Int} {G : Nat → Int} (h : CA w g s f o G) (ob : Obj) : CA (w.alloc ob) g s f o G := (Below.heap_alloc w ob g h.lt).trans h

set_option maxRecDepth 100000 in
theorem implPairStates_no (s f a b : Int) (w : World) (hp : pairOk s f a b = false) :
    Calls Try.prog 22 #[.int .i64 s, .int .i64 f, .int .i64 a, .int .i64 b] w (GridBack w 0 (fun _ => 2) (fun _ _ => 0) false) := by
  have hst := storeCourse 0 0 0 (fun _ => 0)
  have HP := Lib.hid hp; clear hp
  go_enter Try.func22, Try.ntmps22
  go_wp2_with fail
  refine (courseOfPair_no _ _ _ _ _ HP.out).mono ?_
  rintro e w2 ⟨rfl, hx⟩
  go_wp2
  go_ret2
  exact ⟨none, 0, fun _ => 0, fun _ => 0, rfl, Grid.nil _ _ _ _ _ _ _ _, hx.alloc hx.size _⟩

set_option maxRecDepth 100000 in
set_option maxHeartbeats 3000000 in
theorem implPairStates_yes (s f a b : Nat) (w : World) (hp : pairOk s f a b = true) :
    Calls Try.prog 22 #[.int .i64 s, .int .i64 f, .int .i64 a, .int .i64 b] w (GridBack w ((s + 1 - a) * (s + 1 - b)) (fun _ => 2) (stateF s a b) true) := by
  have hst := storeCourse s f 0 (fun i => jumpOf [] i)
  have hst2 := storeSet (oneS a b)
  have hz := zeroSet
  have hh := pairOk_iff.1 hp
  have hs : s ≤ 6 := by omega
  have ha : a ≤ s := by omega
  have hb : b ≤ s := by omega
  have hf1 : 1 ≤ f := by omega
  have hf4 : f ≤ 4 := by omega
  obtain ⟨i0, hi, hz0, hz1, hz2⟩ := info_parts infoSl1
  have HP := Lib.hid hp; clear hp hh
  go_enter Try.func22, Try.ntmps22
  go_wp2_with fail
  refine (courseOfPair_yes _ _ _ _ _ HP.out).mono ?_
  rintro e w2 ⟨rfl, hx⟩
  have hCn : CA (w2.alloc (.cells (crsCells s f 0 (fun i => jumpOf [] i)) 57)) w2.heap.size s f 0 (fun i => jumpOf [] i) := heap_alloc_at _ _ _ rfl
  have hB2 := hx.alloc hx.size (.cells (crsCells s f 0 (fun i => jumpOf [] i)) 57)
  go_wp2_with fail
  refine (setOf_any a b _ (by omega) (by omega)).mono ?_
  rintro e w3 ⟨rfl, hx3⟩
  have hC3 := hCn.below hx3 (by simp)
  have hB3 := hB2.trans (hx3.mono hB2.size)
  have hC4 := hC3.alloc (.cells (setC (oneS a b)) 69)
  have hB4 := hB3.alloc hB3.size (.cells (setC (oneS a b)) 69)
  have hS4 : SA (w3.alloc (.cells (setC (oneS a b)) 69)) w3.heap.size 69 (oneS a b) := heap_alloc_at _ _ _ rfl
  have hlt3 := hC3.lt
  have hws := hB3.size
  clear hst hx hCn hB2 hx3 hC3 hB3
  go_wp2_with fail
  obtain ⟨W, hW⟩ : ∃ W, W = w3.alloc (.cells (setC (oneS a b)) 69) := ⟨_, rfl⟩
  rw [← hW] at hC4 hB4 hS4 ⊢
  clear hW hst2 hz
  obtain ⟨gS, hgS⟩ : ∃ gS, gS = w3.heap.size := ⟨_, rfl⟩
  obtain ⟨gC, hgC⟩ : ∃ gC, gC = w2.heap.size := ⟨_, rfl⟩
  rw [← hgS] at hS4 hlt3 hws ⊢
  rw [← hgC] at hC4 hlt3 ⊢
  clear hgS hgC
  go_loopw [13, 14, 15, 16, 30] (fun v _ _ _ i wr => ∃ (k : Nat) (U : Nat → Nat → Bool) (Bk C : Nat → Nat), k ≤ 7 ∧ i = .int .i64 (k : Int) ∧ Met s a b U k 0 ∧ Below w.heap.size w wr ∧ CA wr gC s f 0 (fun i => jumpOf [] i) ∧ SA wr gS 69 U ∧ Grid wr (gS + 1) 23 3 v (cntS s a b k 0) (fun _ => 2) (stateF s a b) Bk C) (fun _ _ _ _ i _ => 7 - (intOf i).toNat)
  case atStart => exact ⟨0, oneS a b, fun _ => 0, fun _ => 0, by omega, rfl, Met.start ha hb, hB4, hC4, hS4, by rw [cntS_zero]; exact Grid.nil _ _ _ _ _ _ _ _⟩
  case round =>
    clear hB4 hC4 hS4
    obtain ⟨k, U, Bk, C, hk, rfl, hM, hB, hC, hS, hG⟩ := hrel
    by_cases hlt : k < 7
    · have h3 : (k : Int) < 7 := by omega
      obtain ⟨Av, cv, rfl⟩ := hG.slice
      go_wp2_with fail
      go_loopw [13, 15, 16, 33] (fun v _ _ i wi => ∃ (j : Nat) (U : Nat → Nat → Bool) (Bk C : Nat → Nat), j ≤ 7 ∧ i = .int .i64 (j : Int) ∧ Met s a b U k j ∧ Below w.heap.size w wi ∧ CA wi gC s f 0 (fun i => jumpOf [] i) ∧ SA wi gS 69 U ∧ Grid wi (gS + 1) 23 3 v (cntS s a b k j) (fun _ => 2) (stateF s a b) Bk C) (fun _ _ _ i _ => 7 - (intOf i).toNat)
      case atStart => exact ⟨0, U, Bk, C, by omega, rfl, hM, hB, hC, hS, hG⟩
      case round =>
        clear hM hB hC hS hG
        obtain ⟨j, U, Bk, C, hj, rfl, hM, hB, hC, hS, hG⟩ := hrel
        by_cases hjl : j < 7
        · have h4 : (j : Int) < 7 := by omega
          have hx : (k : Int) < 7 := h3
          have c0 := hS.at_ hlt hjl
          rw [hM.here] at c0
          obtain ⟨Av, cv, rfl⟩ := hG.slice
          by_cases hr : inR s a b k j
          · rw [decide_eq_true hr] at c0
            have hcl := cntS_le (s := s) (a := a) (b := b) (k := k) (j := j) hs
            have hsz := hB.size
            have hSl := hS.lt
            have hGa := (hG.alloc (.cells #[.int .i64 k, .int .i64 j] 3)).alloc (.cells #[.slice (some ⟨wr.heap.size, 0, none⟩) 2 2] 23)
            have hfrom := hG.from_
            go_wp2_with (first | (at_builtin; go_loud (refine wpList_append_own_at _ rfl _ _ 31 rfl (gS + 1) 23 i0 (.slice none 0 0) 1 24 Try.underlying31 hi hz0 hz1 hz2 rfl (by decide) _ _ _ rfl hGa.1 ⟨wr.heap.size + 1, 0, none⟩ 1 1 [.slice (some ⟨wr.heap.size, 0, none⟩) 2 2] rfl rfl (cell_new2 _ _ _ _) (one_slice _ _ _) (by unfold maxLen; omega) (by omega) (by simp; omega) ?_; intro v1 w4 hown4 hg4 _ hb4)))
            obtain ⟨Bk', C', hG'⟩ := grid_state hr (by omega) hG hown4 hg4 hb4
            have hB4 := ((hB.alloc hsz (.cells #[.int .i64 k, .int .i64 j] 3)).alloc (by simp; omega) (.cells #[.slice (some ⟨wr.heap.size, 0, none⟩) 2 2] 23)).grown hg4 (by simp; omega) (fun i h => by have := hfrom i h; omega)
            have hC4 := ((hC.alloc (.cells #[.int .i64 k, .int .i64 j] 3)).alloc (.cells #[.slice (some ⟨wr.heap.size, 0, none⟩) 2 2] 23)).grown hg4 (fun e => by have := hfrom _ e.symm; omega)
            have hS4 := ((hS.alloc (.cells #[.int .i64 k, .int .i64 j] 3)).alloc (.cells #[.slice (some ⟨wr.heap.size, 0, none⟩) 2 2] 23)).grown hg4 (fun e => by have := hfrom _ e.symm; omega)
            obtain ⟨Av', cv', rfl⟩ := hG'.slice
            clear c0 hB hC hS hG hGa hown4 hg4 hb4
            go_wp2_with fail
            go_loopw [16] (fun fc wf => ∃ (i : Nat) (U : Nat → Nat → Bool), i ≤ f ∧ fc = .int .i64 ((i : Int) + 1) ∧ MetF s a b U k j i ∧ Below w.heap.size w wf ∧ CA wf gC s f 0 (fun i => jumpOf [] i) ∧ SA wf gS 69 U ∧ Grid wf (gS + 1) 23 3 (.slice Av' (cntS s a b k (j + 1)) cv') (cntS s a b k (j + 1)) (fun _ => 2) (stateF s a b) Bk' C') (fun fc _ => f + 1 - (intOf fc).toNat)
            case atStart => exact ⟨0, U, by omega, rfl, MetF.start hM, hB4, hC4, hS4, hG'⟩
            case round =>
              clear hM hB4 hC4 hS4 hG'
              obtain ⟨i, U, hif, rfl, hM, hB, hC, hS, hG⟩ := hrel
              have cf := hC.fa
              by_cases hil : i < f
              · have h5 : (i : Int) + 1 ≤ (f : Int) := by omega
                have hwi : IntKind.i64.wrap ((i : Int) + 1) = (i : Int) + 1 := IntWalk.i64_in _ (by omega)
                have hsz := hB.size
                go_wp2_with fail
                refine (putBehind_any gC gS s k j (i + 1) f 0 _ U _ hC.cv hS hs hr.2.1 hr.2.2.2 (by omega) (by omega)).mono ?_
                rintro e w5 ⟨rfl, hS5, hg5⟩
                have hB5 := hB.grown hg5 hsz (fun q h => by cases h; omega)
                have hC5 := hC.grown hg5 (fun e => by injection e; omega)
                have hG5 := hG.grown hg5 (fun q h => by cases h; omega)
                go_wp2_with fail
                go_roundw
                case rel => exact ⟨i + 1, _, by omega, by go_num, hM.step hr, hB5, hC5, hS5, hG5⟩
                case measure => simp [intOf]; omega
              · have h5 : ¬ (i : Int) + 1 ≤ (f : Int) := by omega
                obtain rfl : i = f := by omega
                go_wp2_with fail
                go_roundw
                case rel => exact ⟨j + 1, U, Bk', C', by omega, by go_num, hM.done hf1, hB, hC, hS, hG⟩
                case measure => simp [intOf]; omega
          · rw [decide_eq_false hr] at c0
            go_wp2_with fail
            go_roundw
            case rel => exact ⟨j + 1, U, Bk, C, by omega, by go_num, hM.skip hr, hB, hC, hS, by rw [cntS_skip hr]; exact hG⟩
            case measure => simp [intOf]; omega
        · obtain rfl : j = 7 := by omega
          go_wp2_with fail
          go_roundw
          case rel => exact ⟨k + 1, U, Bk, C, by omega, by go_num, hM.row hs, hB, hC, hS, by rw [← cntS_row hs ha]; exact hG⟩
          case measure => simp [intOf]; omega
    · obtain rfl : k = 7 := by omega
      rw [cntS_all hs] at hG
      obtain ⟨Av, cv, rfl⟩ := hG.slice
      go_wp2
      go_ret2
      exact ⟨Av, cv, Bk, C, rfl, hG.mono (by omega), hB⟩

theorem pairStates_both (s f a b : Int) : ∃ (n : Nat) (len : Nat → Nat) (F : Nat → Nat → Int) (ok : Bool), n ≤ 1048576 ∧ (∀ y, len y ≤ 1048576) ∧
    (∀ W : World, Calls Try.prog 21 #[.int .i64 s, .int .i64 f, .int .i64 a, .int .i64 b] W (GridBack W n len F ok)) ∧
    (∀ W : World, Calls Try.prog 22 #[.int .i64 s, .int .i64 f, .int .i64 a, .int .i64 b] W (GridBack W n len F ok)) := by
  cases hp : pairOk s f a b
  · exact ⟨0, _, _, false, by omega, fun _ => by omega, fun W => specPairStates_no s f a b W hp, fun W => implPairStates_no s f a b W hp⟩
  · obtain ⟨s, f, a, b, rfl, rfl, rfl, rfl⟩ := pair_nat hp
    have hh := pairOk_iff.1 hp
    exact ⟨_, _, _, true, Nat.le_trans (Nat.mul_le_mul (show s + 1 - a ≤ 7 by omega) (show s + 1 - b ≤ 7 by omega)) (by decide), fun _ => by omega, fun W => specPairStates_yes s f a b W hp, fun W => implPairStates_yes s f a b W hp⟩
end Go.Proofs.Ytknclgfjoajldab

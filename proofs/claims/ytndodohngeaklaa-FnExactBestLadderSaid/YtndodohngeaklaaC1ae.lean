/-
  withJumps: jumps sorted anew, and the board with them.
-/
import Derived.Test.YtndodohngeaklaaC1b
import Derived.Test.YtndodohngeaklaaC1ba
import Derived.Test.YtndodohngeaklaaWSort
import Derived.Shelf.SlSortCmp.NoneTotal
import Derived.Shelf.SlicesG.Cmp
import Derived.Shelf.Lay
import Derived.Ground.SlsfProg
import Derived.Ground.SlgcProg
namespace Go.Proofs.Ytndodohngeaklaa
open Go.RowKit Go.Shelf

shelf_lay_g SlLaysF0.n6 Slsf 6 at Try 60 as sortJumps
shelf_lay_g SlLaysC2.n5 Slgc 5 at Try 62 as cmpInts

set_option maxHeartbeats 1000000 in
theorem cloCmp_any (x y : Int × Int) (W : World) : Calls Try.prog 61 #[.agg #[.int .i64 x.1, .int .i64 x.2], .agg #[.int .i64 y.1, .int .i64 y.2]] W fun e w' => e = .returned (.int .i64 (Lib.compareInt x.1 y.1)) ∧ ∃ q os', w' = Sort.grow (W.drewN q) os' := by
  have hcon := fun W' => AnyG.cmp_Compare_int cmpInts x.1 y.1 W'
  change ∀ W', Calls Try.prog 62 _ _ _ at hcon
  generalize Lib.compareInt x.1 y.1 = r at hcon ⊢
  go_enter Try.func61, Try.ntmps61
  go_wp2_with (go_at_call 62; refine (hcon _).mono ?_; rintro e w' ⟨rfl, rfl⟩)
  go_ret
  exact ⟨rfl, 0, _, by rw [Sort.alloc_eq_grow, Sort.alloc_eq_grow, Sort.grow_grow]; rfl⟩
theorem cloLays (blk off size : Nat) (w : World) : CmpLays Try.prog 61 #[] encJ 2 cfJ blk off size w := fun _ _ _ _ x y => cloCmp_any x y _
theorem isAggJ : ∀ w, (isAgg 38).run Try.prog w = .ok true w := fun w => by kernel_rfl
theorem sizeOfJ : ∀ w, (Go.sizeOf 38).run Try.prog w = .ok 2 w := fun w => by kernel_rfl

/-- The sort: the row's jumps in order. -/
theorem sortJ_any (A : Option Addr) (c B C : Nat) (L : List (Int × Int)) (w : World) (h : OJ w B 38 A L.length (fun k => L.getD k (0, 0))) (hl : L.length ≤ 1048576) (hC : L.length = 0 ∨ ∃ g, A = some ⟨g, 0, none⟩ ∧ g < C) :
    Calls Try.prog 60 #[.slice A L.length c, .func (.func 61) #[] #[]] w fun e w' =>
      e = .returned (.tuple #[]) ∧ ∃ L' : List (Int × Int), L'.length = L.length ∧ L'.Perm L ∧ L'.Pairwise Up ∧ OJ w' B 38 A L.length (fun k => L'.getD k (0, 0)) ∧ ∃ row, w.grownBy w' row ∧ ∀ k, row = some k → B ≤ k ∧ k < C := by
  by_cases hL : L.length = 0
  · obtain rfl : L = [] := List.length_eq_zero_iff.1 hL
    refine (AnyF.slices_SortFunc_none sortJumps A c _ w).mono ?_
    rintro e w' ⟨rfl, rfl⟩
    exact ⟨rfl, [], rfl, .refl _, .nil, .inl rfl, none, grown_refl _ _, fun k e => by cases e⟩
  · obtain ⟨g, rfl, hg, hr⟩ := h.resolve_left hL
    have hgC : g < C := by
      obtain ⟨g', e, h1⟩ := hC.resolve_left hL
      injection e with e; injection e with e _ _; subst e; exact h1
    have eg : ∀ args w, (callFunc 61 args).run Try.prog w = .ok (.enter 61 args) w := enters_of Try.func61 (by kernel_rfl) rfl
    have hcon := AnyQ.slices_SortFunc sortJumps 2 isAggJ sizeOfJ encJ (fun _ => rfl) (fun x v hv => by simp [encJ] at hv; rcases hv with rfl | rfl <;> rfl) cfJ swoJ 61 #[] g 0 c L.toArray w eg (cloLays g 0 _ w) (row_holds hr) hr.lt (by simp; omega)
    refine hcon.mono ?_
    rintro e w' ⟨rfl, d, n, os, hp, hs, rfl⟩
    obtain ⟨h1, h2, h3⟩ := sorted_list hp hs
    exact ⟨rfl, d.toList, by simpa using h1, h2, h3, .inr ⟨g, rfl, hg, sorted_row hr d h1 n os⟩, some g, sorted_grown d n os, fun k e => by cases e; exact ⟨hg, hgC⟩⟩

/-- A board and a Bool handed back, the jumps in a row of its own, from block B on. -/
def BdBack (B : Nat) (w : World) (R : BdR) (e : Ending) (w' : World) : Prop :=
  ∃ A' c', e = .returned (.tuple #[.agg #[.int .i64 R.1.1, .int .i64 R.1.2.1, .int .i64 R.1.2.2.1, .slice A' R.1.2.2.2.length c'], .bool R.2]) ∧ OJ w' B 38 A' R.1.2.2.2.length (fun k => R.1.2.2.2.getD k (0, 0)) ∧ Below B w w'
theorem wfJ_perm {a b : List (Int × Int)} (h : wfJ b) (hp : a.Perm b) : wfJ a := fun j hj => h j (hp.mem_iff.1 hj)
theorem OJ.rjl {w : World} {lo n : Nat} {t : TypeId} {A : Option Addr} {js : List (Int × Int)} (h : OJ w lo t A n (fun k => js.getD k (0, 0))) (hn : js.length = n) (hl : js.length ≤ 1048576) (hw : wfJ js) : RJ w w.heap.size A js := by
  subst hn; exact h.rj hl hw

theorem OJ.inC {w : World} {lo n : Nat} {t : TypeId} {A : Option Addr} {F : Nat → Int × Int} (h : OJ w lo t A n F) : n = 0 ∨ ∃ g, A = some ⟨g, 0, none⟩ ∧ g < w.heap.size := by
  rcases h with h | ⟨g, e, _, hr⟩
  · exact .inl h
  · exact .inr ⟨g, e, hr.lt⟩
theorem OJ.far {w : World} {lo n C : Nat} {t : TypeId} {A : Option Addr} {F : Nat → Int × Int} (h : OJ w lo t A n F) (hC : n = 0 ∨ ∃ g, A = some ⟨g, 0, none⟩ ∧ g < C) {p : Addr} (hp : C ≤ p.block) (u : Value) : OJ (w.setCell p u) lo t A n F := by
  rcases h with h | ⟨g, e, hl, hr⟩
  · exact .inl h
  · rcases hC with h0 | ⟨g', e', h1⟩
    · exact .inl h0
    · have : g = g' := by rw [e] at e'; injection e' with e'; injection e'
      exact .inr ⟨g, e, hl, hr.far (by omega) u⟩
theorem sortJn_any (A : Option Addr) (c B C n : Nat) (L : List (Int × Int)) (hn : L.length = n) (w : World) (h : OJ w B 38 A n (fun k => L.getD k (0, 0))) (hl : n ≤ 1048576) (hC : n = 0 ∨ ∃ g, A = some ⟨g, 0, none⟩ ∧ g < C) :
    Calls Try.prog 60 #[.slice A n c, .func (.func 61) #[] #[]] w fun e w' =>
      e = .returned (.tuple #[]) ∧ ∃ L' : List (Int × Int), L'.length = n ∧ L'.Perm L ∧ L'.Pairwise Up ∧ OJ w' B 38 A n (fun k => L'.getD k (0, 0)) ∧ ∃ row, w.grownBy w' row ∧ ∀ k, row = some k → B ≤ k ∧ k < C := by
  subst hn; exact sortJ_any A c B C L w h hl hC
set_option maxRecDepth 100000 in
set_option maxHeartbeats 1000000 in
theorem withJumps_any (s f o : Int) (A0 A : Option Addr) (n0 c0 c B n : Nat) (L : List (Int × Int)) (hn : L.length = n) (w : World) (h : OJ w B 38 A n (fun k => L.getD k (0, 0))) (hl : n ≤ 1048576) (hw : wfJ L) (hB : B ≤ w.heap.size) :
    Calls Try.prog 42 #[.agg #[.int .i64 s, .int .i64 f, .int .i64 o, .slice A0 n0 c0], .slice A n c] w fun e w' =>
      ∃ L' : List (Int × Int), L'.Perm L ∧ L'.Pairwise Up ∧ BdBack B w (if good ⟨s, f, o, L'⟩ then ((s, f, o, L'), true) else noBd) e w' := by
  have HN := Lib.hid hn; clear hn
  go_enter Try.func42, Try.ntmps42
  go_wp2_with fail
  have hO : OJ ((w.alloc (.cells #[.int .i64 s, .int .i64 f, .int .i64 o, .slice A0 n0 c0] 30)).alloc (.cells #[.int .i64 0, .int .i64 0, .int .i64 0, .slice none 0 0] 30)) B 38 A n (fun k => L.getD k (0, 0)) := h.below (below2 _ _ _) (Nat.le_refl _)
  refine (sortJn_any _ _ _ _ _ _ HN.out _ hO hl h.inC).mono ?_
  rintro e w1 ⟨rfl, L', h1, hp, hu, hO1, row, hgr, hrow⟩
  have n0 : some w.heap.size ≠ row := fun e => by have := hrow _ e.symm; omega
  have n1 : some (w.heap.size + 1) ≠ row := fun e => by have := hrow _ e.symm; omega
  have B1 := (hgr.block w.heap.size (by simp; omega) n0).trans ((Below.heap_alloc _ _ _ (by simp)).trans (heap_alloc_at _ _ _ rfl))
  have B2 := (hgr.block (w.heap.size + 1) (by simp) n1).trans (heap_alloc_at _ _ _ (by simp))
  have hB1 : Below B w w1 := ((below2 w _ _).mono hB).trans (grown_below hgr (by simp; omega) (fun k e => (hrow k e).1))
  have hs1 := hgr.size
  simp only [World.size_alloc] at hs1
  have q1 := fun i => cell_of_row w1 w.heap.size i _ _ _ B1
  have f1 := fun i => frozen_row (i := i) B1
  have hin := h.inC
  have hlL : L'.length ≤ 1048576 := by omega
  have hwL := wfJ_perm hw hp
  have H1 := Lib.hid h1; have HP := Lib.hid hp; have HU := Lib.hid hu
  have HB2 := Lib.hid B2; have HB1 := Lib.hid B1
  clear hO h B1 B2 hgr h1 hp hu n0 n1
  go_wp2_with fail
  have hB2 := hB1.setCell (p := ⟨w.heap.size, 3, none⟩) (by dsimp only; omega) (.slice A n c)
  have hO2 := hO1.far hin (p := ⟨w.heap.size, 3, none⟩) (by dsimp only; omega) (.slice A n c)
  have hcon := implIsBoard_any s f o A c L' _ (hO2.rjl H1.out hlL hwL)
  rw [H1.out] at hcon
  refine hcon.mono ?_
  rintro e w2 ⟨rfl, hx2⟩
  have hs2 := hx2.size
  simp only [World.size_setCell] at hs2
  have hB3 : Below B w w2 := hB2.trans (hx2.mono (by simp; omega))
  have hO3 := hO2.below hx2 (Nat.le_refl _)
  have b2 : w2.heap[w.heap.size + 1]? = some (.cells #[.int .i64 0, .int .i64 0, .int .i64 0, .slice none 0 0] 30 (0, 0)) := (hx2.block _ (by simp; omega)).trans ((Below.heap_setCell _ _ _ _ (by dsimp only; omega)).trans HB2.out)
  have b1 : w2.heap[w.heap.size]? = some (.cells #[.int .i64 s, .int .i64 f, .int .i64 o, .slice A n c] 30 (0, 0)) := (hx2.block _ (by simp; omega)).trans ((heap_set _ _ _ _ _ _ HB1.out).trans rfl)
  have q2 := fun i => cell_of_row w2 (w.heap.size + 1) i _ _ _ b2
  have q3 := fun i => cell_of_row w2 w.heap.size i _ _ _ b1
  have f2 := fun i => frozen_row (i := i) b2
  cases hg : good ⟨s, f, o, L'⟩
  · have HG := Lib.hid hg; clear hg
    go_wp2
    exact bodyPost_ret (v := .tuple #[.agg #[.int .i64 0, .int .i64 0, .int .i64 0, .slice none 0 0], .bool false]) (by simp [results, Try.results42, go_sem, q2]) rfl
      ⟨L', HP.out, HU.out, by rw [HG.out]; exact ⟨none, 0, rfl, .inl rfl, (((hB3.setCell (by dsimp only; omega) _).setCell (by dsimp only; omega) _).setCell (by dsimp only; omega) _).setCell (by dsimp only; omega) _⟩⟩
  · have HG := Lib.hid hg; clear hg
    go_wp2
    exact bodyPost_ret (v := .tuple #[.agg #[.int .i64 s, .int .i64 f, .int .i64 o, .slice A n c], .bool true]) (by simp [results, Try.results42, go_sem, q2]) rfl
      ⟨L', HP.out, HU.out, by rw [HG.out]; exact ⟨A, c, by rw [← H1.out]; rfl, by
        have h4 := (((hO3.far hin (p := ⟨w.heap.size + 1, 0, none⟩) (by dsimp only; omega) (.int .i64 s)).far hin (p := ⟨w.heap.size + 1, 1, none⟩) (by dsimp only; omega) (.int .i64 f)).far hin (p := ⟨w.heap.size + 1, 2, none⟩) (by dsimp only; omega) (.int .i64 o)).far hin (p := ⟨w.heap.size + 1, 3, none⟩) (by dsimp only; omega) (.slice A n c)
        rw [← H1.out] at h4 ⊢
        exact h4, (((hB3.setCell (by dsimp only; omega) _).setCell (by dsimp only; omega) _).setCell (by dsimp only; omega) _).setCell (by dsimp only; omega) _⟩⟩
end Go.Proofs.Ytndodohngeaklaa

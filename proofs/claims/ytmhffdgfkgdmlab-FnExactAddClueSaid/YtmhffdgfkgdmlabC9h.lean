/-
  Puzzles: DropClue on both sides.
-/
import Derived.Test.YtmhffdgfkgdmlabC9g
namespace Go.Proofs.Ytmhffdgfkgdmlab
open Go.RowKit

/-- A puzzle and a Bool: the clues in memory that the call made. -/
def PzBack (B : Nat) (w : World) (R : (Int × Int × List Qd) × Bool) (e : Ending) (w' : World) : Prop :=
  ∃ A c, e = .returned (.tuple #[.agg #[.int .i64 R.1.1, .int .i64 R.1.2.1, .slice A R.1.2.2.length c], .bool R.2]) ∧ OQ w' B 33 A R.1.2.2.length (fun i => R.1.2.2.getD i zeroQ) ∧ Below B w w'
def noPz : (Int × Int × List Qd) × Bool := ((0, 0, []), false)
theorem noPz_back (w w' : World) (hb : Below w.heap.size w w') : PzBack w.heap.size w noPz (.returned (.tuple #[.agg #[.int .i64 0, .int .i64 0, .slice none 0 0], .bool false])) w' := ⟨none, 0, rfl, .inl rfl, hb⟩
theorem OQ.set {w : World} {lo n : Nat} {t : TypeId} {A : Option Addr} {F : Nat → Qd} (h : OQ w lo t A n F) {p : Addr} (hp : p.block < lo) (v : Value) : OQ (w.setCell p v) lo t A n F := by
  rcases h with h | ⟨g, e, h1, h⟩
  · exact .inl h
  · exact .inr ⟨g, e, h1, h.far (by omega) _⟩
/-- DropClue. -/
def dropPz (q f : Int) (L : List Qd) (x : Int) : (Int × Int × List Qd) × Bool := if pzB q f L && inB x 0 ((L.length : Int) - 1) then ((q, f, dropQ L x.toNat), true) else noPz
theorem sizePz : (Try.prog.info? 50).map (·.size) = some 3 := by kernel_rfl

set_option maxRecDepth 100000 in
set_option maxHeartbeats 1000000 in
theorem specDropClue_bad (q f x : Int) (A : Option Addr) (cp : Nat) (L : List Qd) (w : World) (hL : RQ w w.heap.size A L) (hg : pzB q f L = false) : Calls Try.prog 47 #[.agg #[.int .i64 q, .int .i64 f, .slice A L.length cp], .int .i64 x] w (PzBack w.heap.size w noPz) := by
  have HG := Lib.hid hg
  clear hg
  have hl := hL.1
  go_enter Try.func47, Try.ntmps47
  go_wp2_with fail
  refine (pzGood_any q f A cp L _ (hL.go (below2 w _ _))).mono ?_
  rintro e w2 ⟨rfl, hx⟩
  simp only [World.size_alloc] at hx
  have k1 := (hx.block w.heap.size (by omega)).trans ((Below.heap_alloc _ _ _ (by simp)).trans (heap_alloc_at w (.cells #[.int .i64 q, .int .i64 f, .slice A L.length cp] 50) _ rfl))
  have k2 := (hx.block (w.heap.size + 1) (by omega)).trans (heap_alloc_at _ (.cells #[.int .i64 0, .int .i64 0, .slice none 0 0] 50) _ (by simp))
  have q1 := fun i => cell_of_row w2 w.heap.size i _ _ _ k1
  have q2 := fun i => cell_of_row w2 (w.heap.size + 1) i _ _ _ k2
  have z2 := fun i => frozen_row (i := i) k2
  have hb2 : Below w.heap.size w w2 := (below2 w _ _).trans (hx.mono (by omega))
  have hs2 : w.heap.size + 2 ≤ w2.heap.size := by have := hx.size; simpa using this
  rw [HG.out]
  go_wp2
  exact bodyPost_ret (v := .tuple #[.agg #[.int .i64 0, .int .i64 0, .slice none 0 0], .bool false]) (by simp [results, Try.results47, go_sem, q2]) rfl (noPz_back w _ (((hb2.setCell (by simp) _).setCell (by simp) _).setCell (by simp) _))
set_option maxRecDepth 100000 in
set_option maxHeartbeats 1000000 in
theorem specDropClue_out (q f x : Int) (A : Option Addr) (cp : Nat) (L : List Qd) (w : World) (hL : RQ w w.heap.size A L) (hg : pzB q f L = true) (hi : inB x 0 ((L.length : Int) - 1) = false) : Calls Try.prog 47 #[.agg #[.int .i64 q, .int .i64 f, .slice A L.length cp], .int .i64 x] w (PzBack w.heap.size w noPz) := by
  have HG := Lib.hid hg; have HI := Lib.hid hi
  clear hg hi
  have hl := hL.1
  go_enter Try.func47, Try.ntmps47
  go_wp2_with fail
  refine (pzGood_any q f A cp L _ (hL.go (below2 w _ _))).mono ?_
  rintro e w2 ⟨rfl, hx⟩
  simp only [World.size_alloc] at hx
  have k1 := (hx.block w.heap.size (by omega)).trans ((Below.heap_alloc _ _ _ (by simp)).trans (heap_alloc_at w (.cells #[.int .i64 q, .int .i64 f, .slice A L.length cp] 50) _ rfl))
  have k2 := (hx.block (w.heap.size + 1) (by omega)).trans (heap_alloc_at _ (.cells #[.int .i64 0, .int .i64 0, .slice none 0 0] 50) _ (by simp))
  have q1 := fun i => cell_of_row w2 w.heap.size i _ _ _ k1
  have q2 := fun i => cell_of_row w2 (w.heap.size + 1) i _ _ _ k2
  have z2 := fun i => frozen_row (i := i) k2
  have hb2 : Below w.heap.size w w2 := (below2 w _ _).trans (hx.mono (by omega))
  have hs2 : w.heap.size + 2 ≤ w2.heap.size := by have := hx.size; simpa using this
  rw [HG.out]
  go_wp2_with fail
  refine (l1In9_any _ _ _ _).mono ?_
  rintro e w3 ⟨rfl, rfl⟩
  rw [HI.out]
  go_wp2
  exact bodyPost_ret (v := .tuple #[.agg #[.int .i64 0, .int .i64 0, .slice none 0 0], .bool false]) (by simp [results, Try.results47, go_sem, q2]) rfl (noPz_back w _ (((hb2.setCell (by simp) _).setCell (by simp) _).setCell (by simp) _))

set_option maxRecDepth 100000 in
set_option maxHeartbeats 1000000 in
theorem specDropClue_yes (q f : Int) (b off k cp : Nat) (L : List Qd) (w : World) (hL : RQ w w.heap.size (some ⟨b, off, none⟩) L) (hg : pzB q f L = true) (hk : k < L.length) (hc : L.length ≤ cp) : Calls Try.prog 47 #[.agg #[.int .i64 q, .int .i64 f, .slice (some ⟨b, off, none⟩) L.length cp], .int .i64 (k : Int)] w (PzBack w.heap.size w ((q, f, dropQ L k), true)) := by
  have HG := Lib.hid hg
  have hi : inB (k : Int) 0 ((L.length : Int) - 1) = true := inB_iff.2 ⟨by omega, by omega⟩
  have HI := Lib.hid hi
  clear hg hi
  have hl := hL.1
  go_enter Try.func47, Try.ntmps47
  go_wp2_with fail
  refine (pzGood_any q f (some ⟨b, off, none⟩) cp L _ (hL.go (below2 w _ _))).mono ?_
  rintro e w2 ⟨rfl, hx⟩
  simp only [World.size_alloc] at hx
  have k1 := (hx.block w.heap.size (by omega)).trans ((Below.heap_alloc _ _ _ (by simp)).trans (heap_alloc_at w (.cells #[.int .i64 q, .int .i64 f, .slice (some ⟨b, off, none⟩) L.length cp] 50) _ rfl))
  have k2 := (hx.block (w.heap.size + 1) (by omega)).trans (heap_alloc_at _ (.cells #[.int .i64 0, .int .i64 0, .slice none 0 0] 50) _ (by simp))
  have q1 := fun i => cell_of_row w2 w.heap.size i _ _ _ k1
  have q2 := fun i => cell_of_row w2 (w.heap.size + 1) i _ _ _ k2
  have z2 := fun i => frozen_row (i := i) k2
  have hb2 : Below w.heap.size w w2 := (below2 w _ _).trans (hx.mono (by omega))
  have hs2 : w.heap.size + 2 ≤ w2.heap.size := by have := hx.size; simpa using this
  rw [HG.out]
  go_wp2_with fail
  refine (l1In9_any _ _ _ _).mono ?_
  rintro e w3 ⟨rfl, rfl⟩
  rw [HI.out]
  go_wp2_with fail
  clear q1 q2 z2
  refine wp_region_held_drew (S := (fun w' => w'.heap[w.heap.size]? = some (.cells #[.int .i64 q, .int .i64 f, .slice (some ⟨b, off, none⟩) L.length cp] 50 (0, 0)) ∧ ∀ i, w'.cell? ⟨w.heap.size, i, none⟩ = #[.int .i64 q, .int .i64 f, .slice (some ⟨b, off, none⟩) L.length cp][i]?)) (by kernel_rfl) ⟨k1, fun i => cell_of_row w2 w.heap.size i _ _ _ k1⟩ (fun hS => ?_)
  refine wpAnyH_take (i := 0) (oi := ⟨some 19, _, _, _, _, _⟩) rfl (by kernel_rfl) (by kernel_rfl) (by kernel_rfl) (fun _ _ _ h => h) (yields_load_row rfl 50 (.tmp 2) rfl w.heap.size rfl _ _ _ _ (fun _ h => h.1) Try.underlying50 rfl sizePz) hS ?_
  try simp only [Act.put, List.setIfInBounds_toArray, List.set_cons_zero, List.set_cons_succ]
  refine wpAnyH_take (i := 1) (oi := ⟨some 20, _, _, _, _, _⟩) (v := ?vra1) rfl (by kernel_rfl) (by kernel_rfl) (by kernel_rfl) (fun _ _ _ h => h) (Or.inl ⟨by rfl, ?hra1⟩) hS ?rra1
  case hra1 => (intro w' hSw; (try dsimp only at hSw); go_simp; (try with_reducible rfl))
  try simp only [Act.put, List.setIfInBounds_toArray, List.set_cons_zero, List.set_cons_succ]
  refine wpAnyH_take (i := 2) (oi := ⟨some 21, _, _, _, _, _⟩) (v := ?vra2) rfl (by kernel_rfl) (by kernel_rfl) (by kernel_rfl) (fun _ _ _ h => h) (Or.inl ⟨by rfl, ?hra2⟩) hS ?rra2
  case hra2 => (intro w' hSw; (try dsimp only at hSw); go_simp; (try with_reducible rfl))
  try simp only [Act.put, List.setIfInBounds_toArray, List.set_cons_zero, List.set_cons_succ]
  refine wpAnyH_take (i := 3) (oi := ⟨some 22, _, _, _, _, _⟩) (v := ?vra3) rfl (by kernel_rfl) (by kernel_rfl) (by kernel_rfl) (fun _ _ _ h => h) (Or.inl ⟨by rfl, ?hra3⟩) hS ?rra3
  case hra3 => (intro w' hSw; (try dsimp only at hSw); go_simp; (try with_reducible rfl))
  try simp only [Act.put, List.setIfInBounds_toArray, List.set_cons_zero, List.set_cons_succ]
  refine wpAnyH_ready (rs := [4]) (by kernel_rfl) (by simp) ?_
  refine AllReadyH.cons (o := ⟨some 23, _, _, _, _, _⟩) rfl (fun K' hK' => ?_) AllReadyH.nil
  go_simp
  go_at_call 79
  refine (pzWithout_any b off cp k L w2.drew (hL.go hb2.drew) hk hc).mono ?_
  rintro e w3 ⟨A3, c3, rfl, hO3, hx3, _⟩
  replace hx3 : Below w2.heap.size w2 w3 := (Below.refl _ w2).drew.trans (hx3.mono (Nat.le_refl _))
  replace hO3 : OQ w3 w2.heap.size 33 A3 (dropQ L k).length (fun i => (dropQ L k).getD i zeroQ) := hO3
  have k13 := (hx3.block _ (heap_lt k1)).trans k1
  have k23 := (hx3.block _ (heap_lt k2)).trans k2
  refine hK'.out _ _ ⟨k13, fun i => cell_of_row w3 w.heap.size i _ _ _ k13⟩ (fun _ => ?_)
  clear hK' K'
  try simp only [Act.put, List.setIfInBounds_toArray, List.set_cons_zero, List.set_cons_succ]
  refine wpAnyH_ready (rs := [5]) (by kernel_rfl) (by simp) ?_
  refine AllReadyH.cons (o := ⟨some 24, _, _, _, _, _⟩) rfl (fun K' hK' => ?_) AllReadyH.nil
  go_simp
  go_at_call 83
  refine (pzWith_any q f _ _ _ _ _ _ _).mono ?_
  rintro e w4 ⟨rfl, hx4⟩
  replace hO3 := hO3.below hx4 (Nat.le_refl _)
  replace hx4 : Below w2.heap.size w2 w4 := hx3.trans (hx4.mono hx3.size)
  have k14 := (hx4.block _ (heap_lt k1)).trans k1
  have k24 := (hx4.block _ (heap_lt k2)).trans k2
  have qq4 := fun i => cell_of_row w4 (w.heap.size + 1) i _ _ _ k24
  have zz4 := fun i => frozen_row (i := i) k24
  refine hK'.out _ _ ⟨k14, fun i => cell_of_row w4 w.heap.size i _ _ _ k14⟩ (fun _ => ?_)
  clear hK' K'
  try simp only [Act.put, List.setIfInBounds_toArray, List.set_cons_zero, List.set_cons_succ]
  refine wpAnyH_ready (rs := [6]) (by kernel_rfl) (by simp) ?_
  refine AllReadyH.cons (o := ⟨none, _, _, _, _, _⟩) rfl (fun K' hK' => ?_) AllReadyH.nil
  go_simp
  refine hK'.out _ _ ⟨(Below.heap_setCell _ _ _ _ (by simp)).trans ((Below.heap_setCell _ _ _ _ (by simp)).trans ((Below.heap_setCell _ _ _ _ (by simp)).trans k14)), fun i => cell_of_row _ w.heap.size i _ _ _ ((Below.heap_setCell _ _ _ _ (by simp)).trans ((Below.heap_setCell _ _ _ _ (by simp)).trans ((Below.heap_setCell _ _ _ _ (by simp)).trans k14)))⟩ (fun _ => ?_)
  clear hK' K'
  try simp only [Act.put, List.setIfInBounds_toArray, List.set_cons_zero, List.set_cons_succ]
  refine wpAnyH_ready (rs := [7]) (by kernel_rfl) (by simp) ?_
  refine AllReadyH.cons (o := ⟨some 5, _, _, _, _, _⟩) rfl (fun K' hK' => ?_) AllReadyH.nil
  go_simp
  refine hK'.out _ _ ⟨(Below.heap_setCell _ _ _ _ (by simp)).trans ((Below.heap_setCell _ _ _ _ (by simp)).trans ((Below.heap_setCell _ _ _ _ (by simp)).trans k14)), fun i => cell_of_row _ w.heap.size i _ _ _ ((Below.heap_setCell _ _ _ _ (by simp)).trans ((Below.heap_setCell _ _ _ _ (by simp)).trans ((Below.heap_setCell _ _ _ _ (by simp)).trans k14)))⟩ (fun _ => ?_)
  clear hK' K'
  try simp only [Act.put, List.setIfInBounds_toArray, List.set_cons_zero, List.set_cons_succ]
  refine wpAnyH_done (by kernel_rfl) ?_ _
  all_goals go_wp2
  exact bodyPost_ret (v := .tuple #[.agg #[.int .i64 q, .int .i64 f, .slice A3 (dropQ L k).length c3], .bool true]) (by simp [results, Try.results47, go_sem, qq4]) rfl
    ⟨A3, c3, rfl, (((hO3.set (by dsimp only; omega) _).set (by dsimp only; omega) _).set (by dsimp only; omega) _).from_ hb2.size, (((hb2.trans (hx4.mono hb2.size)).setCell (by simp) _).setCell (by simp) _).setCell (by simp) _⟩

set_option maxRecDepth 100000 in
set_option maxHeartbeats 1000000 in
theorem implDropClue_bad (q f x : Int) (A : Option Addr) (cp : Nat) (L : List Qd) (w : World) (hL : RQ w w.heap.size A L) (hg : pzB q f L = false) : Calls Try.prog 48 #[.agg #[.int .i64 q, .int .i64 f, .slice A L.length cp], .int .i64 x] w (PzBack w.heap.size w noPz) := by
  have HG := Lib.hid hg
  clear hg
  have hl := hL.1
  go_enter Try.func48, Try.ntmps48
  go_wp2_with fail
  refine (implIsPuzzle_any q f A cp L _ (hL.go (below2 w _ _))).mono ?_
  rintro e w2 ⟨rfl, hx⟩
  simp only [World.size_alloc] at hx
  have k1 := (hx.block w.heap.size (by omega)).trans ((Below.heap_alloc _ _ _ (by simp)).trans (heap_alloc_at w (.cells #[.int .i64 q, .int .i64 f, .slice A L.length cp] 50) _ rfl))
  have k2 := (hx.block (w.heap.size + 1) (by omega)).trans (heap_alloc_at _ (.cells #[.int .i64 0, .int .i64 0, .slice none 0 0] 50) _ (by simp))
  have q1 := fun i => cell_of_row w2 w.heap.size i _ _ _ k1
  have q2 := fun i => cell_of_row w2 (w.heap.size + 1) i _ _ _ k2
  have z2 := fun i => frozen_row (i := i) k2
  have hb2 : Below w.heap.size w w2 := (below2 w _ _).trans (hx.mono (by omega))
  have hs2 : w.heap.size + 2 ≤ w2.heap.size := by have := hx.size; simpa using this
  rw [HG.out]
  go_wp2
  exact bodyPost_ret (v := .tuple #[.agg #[.int .i64 0, .int .i64 0, .slice none 0 0], .bool false]) (by simp [results, Try.results48, go_sem, q2]) rfl (noPz_back w _ (((hb2.setCell (by simp) _).setCell (by simp) _).setCell (by simp) _))
set_option maxRecDepth 100000 in
set_option maxHeartbeats 1000000 in
theorem implDropClue_out (q f x : Int) (A : Option Addr) (cp : Nat) (L : List Qd) (w : World) (hL : RQ w w.heap.size A L) (hg : pzB q f L = true) (hi : inB x 0 ((L.length : Int) - 1) = false) : Calls Try.prog 48 #[.agg #[.int .i64 q, .int .i64 f, .slice A L.length cp], .int .i64 x] w (PzBack w.heap.size w noPz) := by
  have HG := Lib.hid hg; have HI := Lib.hid hi
  clear hg hi
  have hl := hL.1
  go_enter Try.func48, Try.ntmps48
  go_wp2_with fail
  refine (implIsPuzzle_any q f A cp L _ (hL.go (below2 w _ _))).mono ?_
  rintro e w2 ⟨rfl, hx⟩
  simp only [World.size_alloc] at hx
  have k1 := (hx.block w.heap.size (by omega)).trans ((Below.heap_alloc _ _ _ (by simp)).trans (heap_alloc_at w (.cells #[.int .i64 q, .int .i64 f, .slice A L.length cp] 50) _ rfl))
  have k2 := (hx.block (w.heap.size + 1) (by omega)).trans (heap_alloc_at _ (.cells #[.int .i64 0, .int .i64 0, .slice none 0 0] 50) _ (by simp))
  have q1 := fun i => cell_of_row w2 w.heap.size i _ _ _ k1
  have q2 := fun i => cell_of_row w2 (w.heap.size + 1) i _ _ _ k2
  have z2 := fun i => frozen_row (i := i) k2
  have hb2 : Below w.heap.size w w2 := (below2 w _ _).trans (hx.mono (by omega))
  have hs2 : w.heap.size + 2 ≤ w2.heap.size := by have := hx.size; simpa using this
  rw [HG.out]
  go_wp2_with fail
  refine (isWithin9_any _ _ _ _).mono ?_
  rintro e w3 ⟨rfl, rfl⟩
  rw [HI.out]
  go_wp2
  exact bodyPost_ret (v := .tuple #[.agg #[.int .i64 0, .int .i64 0, .slice none 0 0], .bool false]) (by simp [results, Try.results48, go_sem, q2]) rfl (noPz_back w _ (((hb2.setCell (by simp) _).setCell (by simp) _).setCell (by simp) _))

set_option maxRecDepth 100000 in
set_option maxHeartbeats 1000000 in
theorem implDropClue_yes (q f : Int) (b off k cp : Nat) (L : List Qd) (w : World) (hL : RQ w w.heap.size (some ⟨b, off, none⟩) L) (hg : pzB q f L = true) (hk : k < L.length) (hc : L.length ≤ cp) : Calls Try.prog 48 #[.agg #[.int .i64 q, .int .i64 f, .slice (some ⟨b, off, none⟩) L.length cp], .int .i64 (k : Int)] w (PzBack w.heap.size w ((q, f, dropQ L k), true)) := by
  have HG := Lib.hid hg
  have hi : inB (k : Int) 0 ((L.length : Int) - 1) = true := inB_iff.2 ⟨by omega, by omega⟩
  have HI := Lib.hid hi
  clear hg hi
  have hl := hL.1
  go_enter Try.func48, Try.ntmps48
  go_wp2_with fail
  refine (implIsPuzzle_any q f (some ⟨b, off, none⟩) cp L _ (hL.go (below2 w _ _))).mono ?_
  rintro e w2 ⟨rfl, hx⟩
  simp only [World.size_alloc] at hx
  have k1 := (hx.block w.heap.size (by omega)).trans ((Below.heap_alloc _ _ _ (by simp)).trans (heap_alloc_at w (.cells #[.int .i64 q, .int .i64 f, .slice (some ⟨b, off, none⟩) L.length cp] 50) _ rfl))
  have k2 := (hx.block (w.heap.size + 1) (by omega)).trans (heap_alloc_at _ (.cells #[.int .i64 0, .int .i64 0, .slice none 0 0] 50) _ (by simp))
  have q1 := fun i => cell_of_row w2 w.heap.size i _ _ _ k1
  have q2 := fun i => cell_of_row w2 (w.heap.size + 1) i _ _ _ k2
  have z2 := fun i => frozen_row (i := i) k2
  have hb2 : Below w.heap.size w w2 := (below2 w _ _).trans (hx.mono (by omega))
  have hs2 : w.heap.size + 2 ≤ w2.heap.size := by have := hx.size; simpa using this
  rw [HG.out]
  go_wp2_with fail
  refine (isWithin9_any _ _ _ _).mono ?_
  rintro e w3 ⟨rfl, rfl⟩
  rw [HI.out]
  go_wp2_with fail
  clear q1 q2 z2
  refine wp_region_held_drew (S := (fun w' => w'.heap[w.heap.size]? = some (.cells #[.int .i64 q, .int .i64 f, .slice (some ⟨b, off, none⟩) L.length cp] 50 (0, 0)) ∧ ∀ i, w'.cell? ⟨w.heap.size, i, none⟩ = #[.int .i64 q, .int .i64 f, .slice (some ⟨b, off, none⟩) L.length cp][i]?)) (by kernel_rfl) ⟨k1, fun i => cell_of_row w2 w.heap.size i _ _ _ k1⟩ (fun hS => ?_)
  refine wpAnyH_take (i := 0) (oi := ⟨some 19, _, _, _, _, _⟩) rfl (by kernel_rfl) (by kernel_rfl) (by kernel_rfl) (fun _ _ _ h => h) (yields_load_row rfl 50 (.tmp 2) rfl w.heap.size rfl _ _ _ _ (fun _ h => h.1) Try.underlying50 rfl sizePz) hS ?_
  try simp only [Act.put, List.setIfInBounds_toArray, List.set_cons_zero, List.set_cons_succ]
  refine wpAnyH_take (i := 1) (oi := ⟨some 20, _, _, _, _, _⟩) (v := ?vra1) rfl (by kernel_rfl) (by kernel_rfl) (by kernel_rfl) (fun _ _ _ h => h) (Or.inl ⟨by rfl, ?hra1⟩) hS ?rra1
  case hra1 => (intro w' hSw; (try dsimp only at hSw); go_simp; (try with_reducible rfl))
  try simp only [Act.put, List.setIfInBounds_toArray, List.set_cons_zero, List.set_cons_succ]
  refine wpAnyH_take (i := 2) (oi := ⟨some 21, _, _, _, _, _⟩) (v := ?vra2) rfl (by kernel_rfl) (by kernel_rfl) (by kernel_rfl) (fun _ _ _ h => h) (Or.inl ⟨by rfl, ?hra2⟩) hS ?rra2
  case hra2 => (intro w' hSw; (try dsimp only at hSw); go_simp; (try with_reducible rfl))
  try simp only [Act.put, List.setIfInBounds_toArray, List.set_cons_zero, List.set_cons_succ]
  refine wpAnyH_take (i := 3) (oi := ⟨some 22, _, _, _, _, _⟩) (v := ?vra3) rfl (by kernel_rfl) (by kernel_rfl) (by kernel_rfl) (fun _ _ _ h => h) (Or.inl ⟨by rfl, ?hra3⟩) hS ?rra3
  case hra3 => (intro w' hSw; (try dsimp only at hSw); go_simp; (try with_reducible rfl))
  try simp only [Act.put, List.setIfInBounds_toArray, List.set_cons_zero, List.set_cons_succ]
  refine wpAnyH_ready (rs := [4]) (by kernel_rfl) (by simp) ?_
  refine AllReadyH.cons (o := ⟨some 23, _, _, _, _, _⟩) rfl (fun K' hK' => ?_) AllReadyH.nil
  go_simp
  go_at_call 81
  refine (without_any b off cp k L w2.drew (hL.go hb2.drew) hk hc).mono ?_
  rintro e w3 ⟨A3', c3', rfl, hR3, hx3, _⟩
  replace hx3 : Below w2.heap.size w2 w3 := (Below.refl _ w2).drew.trans (hx3.mono (Nat.le_refl _))
  have k13 := (hx3.block _ (heap_lt k1)).trans k1
  have k23 := (hx3.block _ (heap_lt k2)).trans k2
  refine hK'.out _ _ ⟨k13, fun i => cell_of_row w3 w.heap.size i _ _ _ k13⟩ (fun _ => ?_)
  clear hK' K'
  try simp only [Act.put, List.setIfInBounds_toArray, List.set_cons_zero, List.set_cons_succ]
  refine wpAnyH_ready (rs := [5]) (by kernel_rfl) (by simp) ?_
  refine AllReadyH.cons (o := ⟨some 24, _, _, _, _, _⟩) rfl (fun K' hK' => ?_) AllReadyH.nil
  go_simp
  go_at_call 86
  refine (withClues_any q f _ _ _ _ _ (dropQ L k) _ hR3).mono ?_
  rintro e w4 ⟨A3, c3, rfl, hO3, hx4⟩
  replace hO3 := hO3.from_ hx3.size
  replace hx4 : Below w2.heap.size w2 w4 := hx3.trans (hx4.mono hx3.size)
  have k14 := (hx4.block _ (heap_lt k1)).trans k1
  have k24 := (hx4.block _ (heap_lt k2)).trans k2
  have qq4 := fun i => cell_of_row w4 (w.heap.size + 1) i _ _ _ k24
  have zz4 := fun i => frozen_row (i := i) k24
  refine hK'.out _ _ ⟨k14, fun i => cell_of_row w4 w.heap.size i _ _ _ k14⟩ (fun _ => ?_)
  clear hK' K'
  try simp only [Act.put, List.setIfInBounds_toArray, List.set_cons_zero, List.set_cons_succ]
  refine wpAnyH_ready (rs := [6]) (by kernel_rfl) (by simp) ?_
  refine AllReadyH.cons (o := ⟨none, _, _, _, _, _⟩) rfl (fun K' hK' => ?_) AllReadyH.nil
  go_simp
  refine hK'.out _ _ ⟨(Below.heap_setCell _ _ _ _ (by simp)).trans ((Below.heap_setCell _ _ _ _ (by simp)).trans ((Below.heap_setCell _ _ _ _ (by simp)).trans k14)), fun i => cell_of_row _ w.heap.size i _ _ _ ((Below.heap_setCell _ _ _ _ (by simp)).trans ((Below.heap_setCell _ _ _ _ (by simp)).trans ((Below.heap_setCell _ _ _ _ (by simp)).trans k14)))⟩ (fun _ => ?_)
  clear hK' K'
  try simp only [Act.put, List.setIfInBounds_toArray, List.set_cons_zero, List.set_cons_succ]
  refine wpAnyH_ready (rs := [7]) (by kernel_rfl) (by simp) ?_
  refine AllReadyH.cons (o := ⟨some 5, _, _, _, _, _⟩) rfl (fun K' hK' => ?_) AllReadyH.nil
  go_simp
  refine hK'.out _ _ ⟨(Below.heap_setCell _ _ _ _ (by simp)).trans ((Below.heap_setCell _ _ _ _ (by simp)).trans ((Below.heap_setCell _ _ _ _ (by simp)).trans k14)), fun i => cell_of_row _ w.heap.size i _ _ _ ((Below.heap_setCell _ _ _ _ (by simp)).trans ((Below.heap_setCell _ _ _ _ (by simp)).trans ((Below.heap_setCell _ _ _ _ (by simp)).trans k14)))⟩ (fun _ => ?_)
  clear hK' K'
  try simp only [Act.put, List.setIfInBounds_toArray, List.set_cons_zero, List.set_cons_succ]
  refine wpAnyH_done (by kernel_rfl) ?_ _
  all_goals go_wp2
  exact bodyPost_ret (v := .tuple #[.agg #[.int .i64 q, .int .i64 f, .slice A3 (dropQ L k).length c3], .bool true]) (by simp [results, Try.results48, go_sem, qq4]) rfl
    ⟨A3, c3, rfl, (((hO3.set (by dsimp only; omega) _).set (by dsimp only; omega) _).set (by dsimp only; omega) _).from_ hb2.size, (((hb2.trans (hx4.mono hb2.size)).setCell (by simp) _).setCell (by simp) _).setCell (by simp) _⟩

theorem dropClue_both (q f : Int) (L : List Qd) (x : Int) :
    (∀ (A : Option Addr) (c : Nat) (w : World), RQ w w.heap.size A L → L.length ≤ c → Calls Try.prog 47 #[.agg #[.int .i64 q, .int .i64 f, .slice A L.length c], .int .i64 x] w (PzBack w.heap.size w (dropPz q f L x))) ∧
    (∀ (A : Option Addr) (c : Nat) (w : World), RQ w w.heap.size A L → L.length ≤ c → Calls Try.prog 48 #[.agg #[.int .i64 q, .int .i64 f, .slice A L.length c], .int .i64 x] w (PzBack w.heap.size w (dropPz q f L x))) := by
  cases hg : pzB q f L
  · have e : dropPz q f L x = noPz := by rw [dropPz, hg]; rfl
    rw [e]
    exact ⟨fun A c w h hc => specDropClue_bad q f x A c L w h hg, fun A c w h hc => implDropClue_bad q f x A c L w h hg⟩
  · cases hi : inB x 0 ((L.length : Int) - 1)
    · have e : dropPz q f L x = noPz := by rw [dropPz, hg, hi]; rfl
      rw [e]
      exact ⟨fun A c w h hc => specDropClue_out q f x A c L w h hg hi, fun A c w h hc => implDropClue_out q f x A c L w h hg hi⟩
    · have e : dropPz q f L x = ((q, f, dropQ L x.toNat), true) := by rw [dropPz, hg, hi]; rfl
      rw [e]
      have hb := inB_iff.1 hi
      obtain ⟨k, rfl⟩ := Int.eq_ofNat_of_zero_le hb.1
      have hk : k < L.length := by omega
      rw [Int.toNat_natCast]
      refine ⟨fun A c w h hc => ?_, fun A c w h hc => ?_⟩
      · obtain ⟨b, off, rfl, _, _⟩ := h.at_ (Below.refl _ _) hk
        exact specDropClue_yes q f b off k c L w h hg hk hc
      · obtain ⟨b, off, rfl, _, _⟩ := h.at_ (Below.refl _ _) hk
        exact implDropClue_yes q f b off k c L w h hg hk hc
theorem dropPz_len {q f : Int} {L : List Qd} {x : Int} (hl : L.length ≤ 1048576) : (dropPz q f L x).1.2.2.length ≤ 1048576 := by
  unfold dropPz
  split
  · simp [dropQ]; omega
  · simp [noPz]
end Go.Proofs.Ytmhffdgfkgdmlab

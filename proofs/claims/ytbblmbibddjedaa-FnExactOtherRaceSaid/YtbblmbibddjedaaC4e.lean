/-
  Races: OtherRace on both sides.
-/
import Derived.Test.YtbblmbibddjedaaC4c
import Derived.Test.YtbblmbibddjedaaC1ba
import Derived.Test.YtbblmbibddjedaaWApp
import Derived.Deep.RegionHeld3
namespace Go.Proofs.Ytbblmbibddjedaa
open Go.RowKit

theorem infoJumpO : (Try.prog.info? 102).map (fun i => (i.zero, i.size, i.bytes)) = some (some (.agg #[.int .i64 0, .int .i64 0]), 2, 16) := by kernel_rfl
/-- A race handed back, its jumps in a row of its own, from block B on. -/
def RcOne (B : Nat) (w : World) (s f o : Int) (js : List (Int × Int)) (me fi ot : Int) (e : Ending) (w' : World) : Prop :=
  ∃ A' c', e = .returned (.agg #[.int .i64 s, .int .i64 f, .int .i64 o, .slice A' js.length c', .int .i64 me, .int .i64 fi, .int .i64 ot]) ∧ OJ w' B 102 A' js.length (fun k => js.getD k (0, 0)) ∧ Below B w w'
theorem own_rowO {w : World} {base n : Nat} {t : TypeId} {A : Option Addr} {c : Nat} {L : List (Int × Int)} (h : w.ownsRow base t 2 (.slice A n c) n (flatJ L)) (hn : L.length = n) : OJ w base t A n (fun k => L.getD k (0, 0)) := by
  obtain ⟨A', c', e, ho⟩ := own_oj h hn
  injection e with e1 e2 e3
  subst e1; rw [hn] at ho; exact ho

theorem OJ.farO {w : World} {lo n : Nat} {t : TypeId} {A : Option Addr} {F : Nat → Int × Int} (h : OJ w lo t A n F) {p : Addr} (hp : p.block < lo) (u : Value) : OJ (w.setCell p u) lo t A n F := by
  rcases h with h | ⟨g, e, hl, hr⟩
  · exact .inl h
  · exact .inr ⟨g, e, hl, hr.far (by omega) u⟩
theorem OJ.loO {w : World} {lo lo' n : Nat} {t : TypeId} {A : Option Addr} {F : Nat → Int × Int} (h : OJ w lo t A n F) (hl : lo' ≤ lo) : OJ w lo' t A n F := by
  rcases h with h | ⟨g, e, hg, hr⟩
  · exact .inl h
  · exact .inr ⟨g, e, by omega, hr⟩
theorem OJ.drewO {w : World} {lo n : Nat} {t : TypeId} {A : Option Addr} {F : Nat → Int × Int} (h : OJ w lo t A n F) : OJ w.drew lo t A n F := h
theorem ownsNone (w : World) (B : Nat) (T : TypeId) {g : Nat} (hg : g = w.heap.size) (hB : B ≤ w.heap.size) : (w.alloc (.cells #[] T)).ownsRow B T 2 (.slice (some ⟨g, 0, none⟩) 0 0) 0 [] := by
  subst hg
  exact ⟨rfl, .inr ⟨_, 0, #[], rfl, hB, heap_alloc_at _ _ _ rfl, Nat.le_refl _, by decide, rfl, rfl⟩⟩

set_option maxHeartbeats 800000 in
set_option maxRecDepth 100000 in
theorem raOwn_any (s f o me fi ot : Int) (A : Option Addr) (c : Nat) (js : List (Int × Int)) (w : World) (hj : RJ w w.heap.size A js) :
    Calls Try.prog 34 #[.agg #[.int .i64 s, .int .i64 f, .int .i64 o, .slice A js.length c, .int .i64 me, .int .i64 fi, .int .i64 ot]] w (RcOne w.heap.size w s f o js me fi ot) := by
  have hl := hj.1
  obtain ⟨ti, hi, hz0, hz1, hz2⟩ := info_parts infoJumpO
  go_enter Try.func34, Try.ntmps34
  go_wp2_with (at_builtin; go_loud (refine wpList_append_copy rfl (.tmp 3) (.tmp 6) 29 rfl (w.heap.size + 2) 102 ti (.agg #[.int .i64 0, .int .i64 0]) Try.underlying29 hi hz0 hz1 hz2 rfl (.slice (some ⟨w.heap.size + 1 + 1, 0, none⟩) 0 0) rfl (ownsNone _ _ _ (by simp) (by simp)) w.heap.size A c js rfl (hj.below (below3 _ _ _ _)) (by simp <;> omega) ?_; intro A1 c1 w1 ho hg; change World.grownBy _ w1 (some (w.heap.size + 1 + 1)) at hg; have B0 : w1.heap[w.heap.size]? = some (.cells #[.int .i64 s, .int .i64 f, .int .i64 o, .slice A js.length c, .int .i64 me, .int .i64 fi, .int .i64 ot] 33 (0, 0)) := (hg.block _ (by simp <;> omega) (by simp <;> omega)).trans ((Below.heap_alloc _ _ _ (by simp <;> omega)).trans ((Below.heap_alloc _ _ _ (by simp)).trans (heap_alloc_at _ _ _ rfl))); have B1 : w1.heap[w.heap.size + 1]? = some (.cells #[.int .i64 0, .int .i64 0, .int .i64 0, .slice none 0 0, .int .i64 0, .int .i64 0, .int .i64 0] 33 (0, 0)) := (hg.block _ (by simp <;> omega) (by simp <;> omega)).trans ((Below.heap_alloc _ _ _ (by simp)).trans (heap_alloc_at _ _ _ (by simp))); have q0 := fun i => cell_of_row w1 _ i _ _ _ B0; have f0 := fun i => frozen_row (i := i) B0; have q1 := fun i => cell_of_row w1 _ i _ _ _ B1; have f1 := fun i => frozen_row (i := i) B1; have hz : w.heap.size + 3 ≤ w1.heap.size := (by have := hg.size; simp at this; omega); have hb := (below3 w _ _ _).grown hg (by simp <;> omega) (fun k h => by cases h; omega); have hO := own_rowO ho rfl; clear B0 B1 hg ho))
  exact bodyPost_ret (v := .agg #[.int .i64 s, .int .i64 f, .int .i64 o, .slice A1 js.length c1, .int .i64 me, .int .i64 fi, .int .i64 ot]) (by simp [results, Try.results34, go_sem, q1]) rfl
    ⟨A1, c1, rfl, (((((((((hO.farO (by dsimp only; omega) _).farO (by dsimp only; omega) _).farO (by dsimp only; omega) _).farO (by dsimp only; omega) _).farO (by dsimp only; omega) _).farO (by dsimp only; omega) _).farO (by dsimp only; omega) _).farO (by dsimp only; omega) _)).loO (by omega), ((((((((hb.setCell (by dsimp only; omega) _).setCell (by dsimp only; omega) _).setCell (by dsimp only; omega) _).setCell (by dsimp only; omega) _).setCell (by dsimp only; omega) _).setCell (by dsimp only; omega) _).setCell (by dsimp only; omega) _).setCell (by dsimp only; omega) _)⟩

set_option maxHeartbeats 800000 in
set_option maxRecDepth 100000 in
theorem withTokens_any (s f o me fi ot x y : Int) (A : Option Addr) (c : Nat) (js : List (Int × Int)) (w : World) (hj : RJ w w.heap.size A js) :
    Calls Try.prog 35 #[.agg #[.int .i64 s, .int .i64 f, .int .i64 o, .slice A js.length c, .int .i64 me, .int .i64 fi, .int .i64 ot], .agg #[.int .i64 x, .int .i64 y]] w (RcOne w.heap.size w s f o js me x y) := by
  have hl := hj.1
  obtain ⟨ti, hi, hz0, hz1, hz2⟩ := info_parts infoJumpO
  go_enter Try.func35, Try.ntmps35
  go_wp2_with (at_builtin; go_loud (refine wpList_append_copy rfl (.const (.slice none 0 0)) (.tmp 7) 29 rfl (w.heap.size + 3) 102 ti (.agg #[.int .i64 0, .int .i64 0]) Try.underlying29 hi hz0 hz1 hz2 rfl (.slice none 0 0) rfl (World.ownsRow_nil _ _ _ _) w.heap.size A c js rfl (hj.below (below3 _ _ _ _)) (by simp <;> omega) ?_; intro A1 c1 w1 ho hg; change World.grownBy _ w1 none at hg; have B0 : w1.heap[w.heap.size]? = some (.cells #[.int .i64 s, .int .i64 f, .int .i64 o, .slice A js.length c, .int .i64 me, .int .i64 fi, .int .i64 ot] 33 (0, 0)) := (hg.block _ (by simp <;> omega) (by simp <;> omega)).trans ((Below.heap_alloc _ _ _ (by simp <;> omega)).trans ((Below.heap_alloc _ _ _ (by simp)).trans (heap_alloc_at _ _ _ rfl))); have B1 : w1.heap[w.heap.size + 1]? = some (.cells #[.int .i64 x, .int .i64 y] 58 (0, 0)) := (hg.block _ (by simp <;> omega) (by simp <;> omega)).trans ((Below.heap_alloc _ _ _ (by simp)).trans (heap_alloc_at _ _ _ (by simp))); have B2 : w1.heap[w.heap.size + 1 + 1]? = some (.cells #[.int .i64 0, .int .i64 0, .int .i64 0, .slice none 0 0, .int .i64 0, .int .i64 0, .int .i64 0] 33 (0, 0)) := (hg.block _ (by simp <;> omega) (by simp <;> omega)).trans (heap_alloc_at _ _ _ (by simp)); have q0 := fun i => cell_of_row w1 _ i _ _ _ B0; have f0 := fun i => frozen_row (i := i) B0; have q1 := fun i => cell_of_row w1 _ i _ _ _ B1; have f1 := fun i => frozen_row (i := i) B1; have q2 := fun i => cell_of_row w1 _ i _ _ _ B2; have f2 := fun i => frozen_row (i := i) B2; have hz : w.heap.size + 3 ≤ w1.heap.size := (by have := hg.size; simp at this; omega); have hb := (below3 w _ _ _).grown hg (by simp <;> omega) (fun k h => by cases h); have hO := own_rowO ho rfl; clear B0 B1 B2 hg ho))
  go_region_held3 (fun w' => ∀ i, w'.cell? ⟨w.heap.size + 1, i, none⟩ = #[.int .i64 x, .int .i64 y][i]?) (go_keep) (fail)
  go_wp2
  exact bodyPost_ret (v := .agg #[.int .i64 s, .int .i64 f, .int .i64 o, .slice A1 js.length c1, .int .i64 me, .int .i64 x, .int .i64 y]) (by simp [results, Try.results35, go_sem, q2]) rfl
    ⟨A1, c1, rfl, (((((((((((hO.farO (by dsimp only; omega) _).farO (by dsimp only; omega) _).farO (by dsimp only; omega) _).farO (by dsimp only; omega) _).farO (by dsimp only; omega) _).farO (by dsimp only; omega) _).farO (by dsimp only; omega) _).farO (by dsimp only; omega) _).farO (by dsimp only; omega) _).farO (by dsimp only; omega) _)).drewO.loO (by omega), (((((((((((hb.setCell (by dsimp only; omega) _).setCell (by dsimp only; omega) _).setCell (by dsimp only; omega) _).setCell (by dsimp only; omega) _).setCell (by dsimp only; omega) _).setCell (by dsimp only; omega) _).setCell (by dsimp only; omega) _).setCell (by dsimp only; omega) _).setCell (by dsimp only; omega) _).setCell (by dsimp only; omega) _)).drew⟩

/-- A board's numbers and jumps. -/
abbrev BdL := Int × Int × Int × List (Int × Int)
/-- A race and a Bool handed back, the jumps in a row of its own, from block B on. -/
def RcBack (B : Nat) (w : World) (R : (BdL × (Int × Int × Int)) × Bool) (e : Ending) (w' : World) : Prop :=
  ∃ A' c', e = .returned (.tuple #[.agg #[.int .i64 R.1.1.1, .int .i64 R.1.1.2.1, .int .i64 R.1.1.2.2.1, .slice A' R.1.1.2.2.2.length c', .int .i64 R.1.2.1, .int .i64 R.1.2.2.1, .int .i64 R.1.2.2.2], .bool R.2]) ∧ OJ w' B 102 A' R.1.1.2.2.2.length (fun k => R.1.1.2.2.2.getD k (0, 0)) ∧ Below B w w'
/-- OtherRace. -/
def otherR (s f o : Int) (js : List (Int × Int)) (me fi ot : Int) : (BdL × (Int × Int × Int)) × Bool :=
  if raceOk s f o js me fi ot then (((s, f, o, js), (me, ot, fi)), true) else (((0, 0, 0, []), (0, 0, 0)), false)
theorem otherR_len {s f o me fi ot : Int} {js : List (Int × Int)} (h : js.length ≤ 1048576) : (otherR s f o js me fi ot).1.1.2.2.2.length ≤ 1048576 := by
  unfold otherR
  split
  · exact h
  · simp
theorem otherR_wf {s f o me fi ot : Int} {js : List (Int × Int)} (h : wfJ js) : wfJ (otherR s f o js me fi ot).1.1.2.2.2 := by
  unfold otherR
  split
  · exact h
  · exact fun j hj => by simp at hj

set_option maxHeartbeats 800000 in
set_option maxRecDepth 100000 in
theorem specOtherRace_any (s f o me fi ot : Int) (A : Option Addr) (c : Nat) (js : List (Int × Int)) (w : World) (hj : RJ w w.heap.size A js) :
    Calls Try.prog 14 #[.agg #[.int .i64 s, .int .i64 f, .int .i64 o, .slice A js.length c, .int .i64 me, .int .i64 fi, .int .i64 ot]] w (RcBack w.heap.size w (otherR s f o js me fi ot)) := by
  have hl := hj.1
  cases hr : raceOk s f o js me fi ot
  · have HR := Lib.hid hr; clear hr
    go_enter Try.func14, Try.ntmps14
    go_wp2_with fail
    refine (raGood_any _ _ _ _ _ _ _ _ _ _ (hj.go (below2 _ _ _))).mono ?_
    rintro e w1 ⟨rfl, hx⟩
    rw [HR.out]
    have B1 := (hx.block (w.heap.size + 1) (by simp)).trans (heap_alloc_at _ _ _ (by simp))
    have q1 := fun i => cell_of_row w1 (w.heap.size + 1) i _ _ _ B1
    have f1 := fun i => frozen_row (i := i) B1
    have hb := (below2 w _ _).trans (hx.mono (by simp <;> omega))
    have hz : w.heap.size + 2 ≤ w1.heap.size := by have := hx.size; simp at this; omega
    clear B1
    go_wp2_with fail
    refine bodyPost_ret (v := .tuple #[.agg #[.int .i64 0, .int .i64 0, .int .i64 0, .slice none 0 0, .int .i64 0, .int .i64 0, .int .i64 0], .bool false]) (by simp [results, Try.results14, go_sem, q1]) rfl ?_
    have e : otherR s f o js me fi ot = (((0, 0, 0, []), (0, 0, 0)), false) := by unfold otherR; rw [HR.out]; rfl
    rw [e]
    exact ⟨none, 0, rfl, .inl rfl, (((((((hb.setCell (by dsimp only; omega) _).setCell (by dsimp only; omega) _).setCell (by dsimp only; omega) _).setCell (by dsimp only; omega) _).setCell (by dsimp only; omega) _).setCell (by dsimp only; omega) _).setCell (by dsimp only; omega) _)⟩
  · have HR := Lib.hid hr; clear hr
    go_enter Try.func14, Try.ntmps14
    go_wp2_with fail
    refine (raGood_any _ _ _ _ _ _ _ _ _ _ (hj.go (below2 _ _ _))).mono ?_
    rintro e w1 ⟨rfl, hx⟩
    rw [HR.out]
    have B1 := (hx.block (w.heap.size + 1) (by simp)).trans (heap_alloc_at _ _ _ (by simp))
    have B0 := (hx.block w.heap.size (by simp <;> omega)).trans ((Below.heap_alloc _ _ _ (by simp)).trans (heap_alloc_at _ _ _ rfl))
    have q0 := fun i => cell_of_row w1 w.heap.size i _ _ _ B0
    have hb := (below2 w _ _).trans (hx.mono (by simp <;> omega))
    have hz : w.heap.size + 2 ≤ w1.heap.size := by have := hx.size; simp at this; omega
    go_wp2_with fail
    refine (raOwn_any _ _ _ _ _ _ _ _ _ _ (hj.later hb hb.size)).mono ?_
    rintro e w2 ⟨A1, c1, rfl, hO, hy⟩
    have C1 := (hy.block (w.heap.size + 1) (by omega)).trans B1
    have C0 := (hy.block w.heap.size (by omega)).trans B0
    clear q0 B0 B1
    have q0 := fun i => cell_of_row w2 w.heap.size i _ _ _ C0
    have q1 := fun i => cell_of_row w2 (w.heap.size + 1) i _ _ _ C1
    have f1 := fun i => frozen_row (i := i) C1
    have hz2 := hy.size
    have lt0 : w.heap.size < w2.heap.size := by omega
    have lt1 : w.heap.size + 1 < w2.heap.size := by omega
    have hb2 := hb.trans (hy.mono (by omega))
    clear C0 C1
    go_wp2_with fail
    have e : otherR s f o js me fi ot = (((s, f, o, js), (me, ot, fi)), true) := by unfold otherR; rw [HR.out]; rfl
    rw [e]
    refine bodyPost_ret (v := .tuple #[.agg #[.int .i64 s, .int .i64 f, .int .i64 o, .slice A1 js.length c1, .int .i64 me, .int .i64 ot, .int .i64 fi], .bool true]) (by simp [results, Try.results14, go_sem, q1, lt1]) rfl ?_
    exact ⟨A1, c1, rfl, (((((((((hO.farO (by dsimp only; omega) _).farO (by dsimp only; omega) _).farO (by dsimp only; omega) _).farO (by dsimp only; omega) _).farO (by dsimp only; omega) _).farO (by dsimp only; omega) _).farO (by dsimp only; omega) _)).below (below1 _ _) (by simp only [World.size_setCell]; omega)).loO (by omega), ((((((((hb2.setCell (by dsimp only; omega) _).setCell (by dsimp only; omega) _).setCell (by dsimp only; omega) _).setCell (by dsimp only; omega) _).setCell (by dsimp only; omega) _).setCell (by dsimp only; omega) _).setCell (by dsimp only; omega) _)).alloc (by simp only [World.size_setCell]; omega) _⟩

set_option maxHeartbeats 800000 in
set_option maxRecDepth 100000 in
theorem implOtherRace_any (s f o me fi ot : Int) (A : Option Addr) (c : Nat) (js : List (Int × Int)) (w : World) (hj : RJ w w.heap.size A js) :
    Calls Try.prog 15 #[.agg #[.int .i64 s, .int .i64 f, .int .i64 o, .slice A js.length c, .int .i64 me, .int .i64 fi, .int .i64 ot]] w (RcBack w.heap.size w (otherR s f o js me fi ot)) := by
  have hl := hj.1
  cases hr : raceOk s f o js me fi ot
  · have HR := Lib.hid hr; clear hr
    go_enter Try.func15, Try.ntmps15
    go_wp2_with fail
    refine (implIsRace_any _ _ _ _ _ _ _ _ _ _ (hj.go (below2 _ _ _))).mono ?_
    rintro e w1 ⟨rfl, hx⟩
    rw [HR.out]
    have B1 := (hx.block (w.heap.size + 1) (by simp)).trans (heap_alloc_at _ _ _ (by simp))
    have q1 := fun i => cell_of_row w1 (w.heap.size + 1) i _ _ _ B1
    have f1 := fun i => frozen_row (i := i) B1
    have hb := (below2 w _ _).trans (hx.mono (by simp <;> omega))
    have hz : w.heap.size + 2 ≤ w1.heap.size := by have := hx.size; simp at this; omega
    clear B1
    go_wp2_with fail
    refine bodyPost_ret (v := .tuple #[.agg #[.int .i64 0, .int .i64 0, .int .i64 0, .slice none 0 0, .int .i64 0, .int .i64 0, .int .i64 0], .bool false]) (by simp [results, Try.results15, go_sem, q1]) rfl ?_
    have e : otherR s f o js me fi ot = (((0, 0, 0, []), (0, 0, 0)), false) := by unfold otherR; rw [HR.out]; rfl
    rw [e]
    exact ⟨none, 0, rfl, .inl rfl, (((((((hb.setCell (by dsimp only; omega) _).setCell (by dsimp only; omega) _).setCell (by dsimp only; omega) _).setCell (by dsimp only; omega) _).setCell (by dsimp only; omega) _).setCell (by dsimp only; omega) _).setCell (by dsimp only; omega) _)⟩
  · have HR := Lib.hid hr; clear hr
    go_enter Try.func15, Try.ntmps15
    go_wp2_with fail
    refine (implIsRace_any _ _ _ _ _ _ _ _ _ _ (hj.go (below2 _ _ _))).mono ?_
    rintro e w1 ⟨rfl, hx⟩
    rw [HR.out]
    have B1 := (hx.block (w.heap.size + 1) (by simp)).trans (heap_alloc_at _ _ _ (by simp))
    have B0 := (hx.block w.heap.size (by simp <;> omega)).trans ((Below.heap_alloc _ _ _ (by simp)).trans (heap_alloc_at _ _ _ rfl))
    have q0 := fun i => cell_of_row w1 w.heap.size i _ _ _ B0
    have hb := (below2 w _ _).trans (hx.mono (by simp <;> omega))
    have hz : w.heap.size + 2 ≤ w1.heap.size := by have := hx.size; simp at this; omega
    go_wp2_with fail
    refine (withTokens_any _ _ _ _ _ _ _ _ _ _ _ _ (hj.later hb hb.size)).mono ?_
    rintro e w2 ⟨A1, c1, rfl, hO, hy⟩
    have C1 := (hy.block (w.heap.size + 1) (by omega)).trans B1
    have q1 := fun i => cell_of_row w2 (w.heap.size + 1) i _ _ _ C1
    have f1 := fun i => frozen_row (i := i) C1
    have hz2 := hy.size
    have hb2 := hb.trans (hy.mono (by omega))
    clear C1 q0 B0 B1
    go_wp2_with fail
    have e : otherR s f o js me fi ot = (((s, f, o, js), (me, ot, fi)), true) := by unfold otherR; rw [HR.out]; rfl
    rw [e]
    refine bodyPost_ret (v := .tuple #[.agg #[.int .i64 s, .int .i64 f, .int .i64 o, .slice A1 js.length c1, .int .i64 me, .int .i64 ot, .int .i64 fi], .bool true]) (by simp [results, Try.results15, go_sem, q1]) rfl ?_
    exact ⟨A1, c1, rfl, ((((((((hO.farO (by dsimp only; omega) _).farO (by dsimp only; omega) _).farO (by dsimp only; omega) _).farO (by dsimp only; omega) _).farO (by dsimp only; omega) _).farO (by dsimp only; omega) _).farO (by dsimp only; omega) _)).loO (by omega), (((((((hb2.setCell (by dsimp only; omega) _).setCell (by dsimp only; omega) _).setCell (by dsimp only; omega) _).setCell (by dsimp only; omega) _).setCell (by dsimp only; omega) _).setCell (by dsimp only; omega) _).setCell (by dsimp only; omega) _)⟩
end Go.Proofs.Ytbblmbibddjedaa

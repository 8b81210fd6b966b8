/- Several texts, one behind the other: L20 Head. -/
import Derived.Test.YtmiefdjbhcpnbaaDoorRows
import Derived.JoinedOf
import Derived.KernelRfl
import Derived.Test.YtmiefdjbhcpnbaaDoorZTTal

namespace Go.Proofs.YtmiefdjbhcpnbaaDoor
open Go.RowKit

/-- Of the blocks that were there only those in lo..hi - 1 were written. -/
structure Mid (lo hi : Nat) (w w' : World) : Prop where
  os : w'.os = w.os
  tape : w'.tape = w.tape
  output : w'.output = w.output
  size : w.heap.size ≤ w'.heap.size
  block : ∀ k, (k < lo ∨ (hi ≤ k ∧ k < w.heap.size)) → w'.heap[k]? = w.heap[k]?
section
variable {lo hi lo' hi' B base : Nat} {w w' w2 : World} {t te : TypeId} {A : Option Addr} {n : Nat} {f : Nat → Int} {g : Nat}
theorem Mid.refl (lo hi : Nat) (w : World) : Mid lo hi w w := ⟨rfl, rfl, rfl, Nat.le_refl _, fun _ _ => rfl⟩
theorem Mid.trans (h : Mid lo hi w w') (h2 : Mid lo hi w' w2) : Mid lo hi w w2 :=
  ⟨h2.os.trans h.os, h2.tape.trans h.tape, h2.output.trans h.output, Nat.le_trans h.size h2.size, fun k hk => (h2.block k (by have := h.size; omega)).trans (h.block k hk)⟩
theorem Mid.wide (h : Mid lo hi w w') (h1 : lo' ≤ lo) (h2 : hi ≤ hi') : Mid lo' hi' w w' := ⟨h.os, h.tape, h.output, h.size, fun k hk => h.block k (by omega)⟩
theorem Mid.below (h : Mid lo hi w w') (hB : B ≤ lo) : Below B w w' := ⟨h.os, h.tape, h.output, h.size, fun k hk => h.block k (by omega)⟩
theorem Mid.new (h : Below w.heap.size w w') (hlo : lo ≤ w.heap.size) : Mid lo hi w w' := ⟨h.os, h.tape, h.output, h.size, fun k hk => h.block k (by omega)⟩
theorem Mid.one {row : Option Nat} (hg : w.grownBy w' row) (h : ∀ k, row = some k → lo ≤ k ∧ k < hi) (hs : lo ≤ w.heap.size) : Mid lo hi w w' :=
  ⟨hg.os, hg.tape, hg.output, hg.size, fun k hk => hg.block k (by omega) (fun e => by have := h k e.symm; omega)⟩
theorem RowI.mid (h : RowI w g t n f) (hm : Mid lo hi w w') (hg : g < lo ∨ hi ≤ g) : RowI w' g t n f := h.keep (hm.block g (by have := h.lt; omega))
theorem OI.mid (h : OI w base t A n f) (hm : Mid lo hi w w') (hb : hi ≤ base) : OI w' base t A n f := by
  rcases h with h | ⟨g, e, hl, h⟩
  · exact .inl h
  · exact .inr ⟨g, e, hl, h.mid hm (.inr (by omega))⟩
theorem own_mid {size : Nat} {v : Value} {xs : List Value} (h : w.ownsRow base t size v n xs) (hm : Mid lo hi w w') (hb : hi ≤ base) : w'.ownsRow base t size v n xs := by
  obtain ⟨h0, h1 | ⟨g, cap, cur, e, hg, hh, r⟩⟩ := h
  · exact ⟨h0, .inl h1⟩
  · exact ⟨h0, .inr ⟨g, cap, cur, e, hg, (hm.block g (.inr ⟨by omega, heap_lt hh⟩)).trans hh, r⟩⟩
theorem Grid.mid {v : Value} {len : Nat → Nat} {F : Nat → Nat → Int} {Bk C : Nat → Nat} (h : Grid w base t te v n len F Bk C) (hm : Mid lo hi w w') (hb : hi ≤ base) : Grid w' base t te v n len F Bk C :=
  ⟨own_mid h.1 hm hb, fun y hy => ⟨(h.2.1 y hy).1, (h.2.1 y hy).2.1, (h.2.1 y hy).2.2.mid hm (.inr (by have := (h.2.1 y hy).1; omega))⟩, h.2.2⟩
end

theorem markIntM_any (g n c lo hi : Nat) (F : Nat → Int) (k0 : Int) (w : World) (h : RowI w g 3 n F) (h1 : lo ≤ g) (h2 : g < hi) (hn : n ≤ 1048576) (h0 : 0 ≤ k0) (h3 : k0 ≤ 10000000000000) :
    Calls Tryd.prog 37 #[.slice (some ⟨g, 0, none⟩) n c, .int .i64 k0] w fun e w' => e = .returned (.int .i64 (k0 + n)) ∧ Mid lo hi w w' :=
  (markRow_any g n c F k0 w h hn h0 h3).mono fun _ _ ⟨he, _, hg, hs⟩ => ⟨he, Mid.one hg (fun k e => by injection e with e; omega) (by have := h.lt; omega)⟩

set_option maxHeartbeats 400000 in
theorem markTrack_any (q f k : Int) (g1 n1 c1 g2 n2 c2 lo hi : Nat) (F1 F2 : Nat → Int) (w : World) (r1 : RowI w g1 3 n1 F1) (r2 : RowI w g2 3 n2 F2) (h1 : lo ≤ g1) (h1' : g1 < hi) (h2 : lo ≤ g2) (h2' : g2 < hi) (hne : g2 ≠ g1) (hn1 : n1 ≤ 1048576) (hn2 : n2 ≤ 1048576) :
    Calls Tryd.prog 14 #[.agg #[.int .i64 q, .int .i64 f, .int .i64 k, .slice (some ⟨g1, 0, none⟩) n1 c1, .slice (some ⟨g2, 0, none⟩) n2 c2], .int .i64 1] w fun e w' => e = .returned (.int .i64 (1 + n1 + n2)) ∧ Mid lo hi w w' := by
  go_enter Tryd.func14, Tryd.ntmps14
  have l1 := r1.lt
  have l2 := r2.lt
  go_wp2_with fail
  refine (markRow_any g1 n1 c1 _ _ _ (r1.alloc _) hn1 (by omega) (by omega)).mono ?_
  rintro e w2 ⟨rfl, _, hg, hs⟩
  have b2 := (r2.alloc (.cells #[.int .i64 q, .int .i64 f, .int .i64 k, .slice (some ⟨g1, 0, none⟩) n1 c1, .slice (some ⟨g2, 0, none⟩) n2 c2] 28)).grown hg (by simpa using hne)
  have m2 : Mid lo hi w w2 := (Mid.new (below1 _ _) (by omega)).trans (Mid.one hg (fun k e => by injection e with e; omega) (by simp; omega))
  have q4 : w2.cell? ⟨w.heap.size, 4, none⟩ = some (.slice (some ⟨g2, 0, none⟩) n2 c2) := by
    have := hg.block w.heap.size (by simp) (by simp; omega)
    have h3 := this.trans (heap_alloc_at w _ _ rfl)
    exact (cell_of_row _ _ 4 _ _ _ h3).trans rfl
  clear hg hs
  go_wp2_with fail
  refine (markRow_any g2 n2 c2 _ _ _ b2 hn2 (by omega) (by omega)).mono ?_
  rintro e w3 ⟨rfl, _, hg, hs⟩
  have m3 : Mid lo hi w w3 := m2.trans (Mid.one hg (fun k e => by injection e with e; omega) (by have := m2.size; omega))
  clear hg hs
  go_wp2
  go_ret
  exact ⟨rfl, m3⟩

theorem szIntS_any (A : Option Addr) (n c : Nat) (left : Int) (w : World) (hn : n ≤ maxLen) (h0 : 0 ≤ left) (h1 : left ≤ 1048576) :
    Calls Tryd.prog 25 #[.slice A n c, .int .i64 left] w fun e w' => e = .returned (.int .i64 (if left < n then -1 else left - n)) ∧ w = w' := by
  unfold maxLen at hn
  go_enter Tryd.func25, Tryd.ntmps25
  by_cases h : left < n
  · have h2 : left - n < 0 := by omega
    go_wp2
    go_ret
    exact ⟨ret_int rfl, rfl⟩
  · have h2 : ¬ left - n < 0 := by omega
    go_wp2
    go_ret
    exact ⟨ret_int rfl, rfl⟩

theorem szTrack_any (q f k : Int) (A1 A2 : Option Addr) (n1 c1 n2 c2 : Nat) (w : World) (hn1 : n1 ≤ maxLen) (hn2 : n2 ≤ maxLen) :
    Calls Tryd.prog 7 #[.agg #[.int .i64 q, .int .i64 f, .int .i64 k, .slice A1 n1 c1, .slice A2 n2 c2], .int .i64 1048576] w fun e w' => e = .returned (.int .i64 (if (1048576 : Int) < n1 + n2 then -1 else 1048576 - (n1 + n2))) ∧ Below w.heap.size w w' := by
  obtain ⟨r, hr⟩ : ∃ r, (if (1048576 : Int) < n1 + n2 then -1 else 1048576 - ((n1 : Int) + n2)) = r := ⟨_, rfl⟩
  rw [hr]
  have HR := Lib.hid hr
  clear hr
  go_enter Tryd.func7, Tryd.ntmps7
  by_cases h : (1048576 : Int) < n1
  · go_wp2_with (go_at_call 25; refine (szIntS_any _ _ _ _ _ hn1 (by omega) (by omega)).mono ?_; rintro e w' ⟨rfl, rfl⟩)
    go_ret
    exact ⟨ret_int (by rw [← HR.out, if_pos (by omega)]), below1 _ _⟩
  · have h2 : ¬ (1048576 : Int) - n1 < 0 := by omega
    by_cases h3 : (1048576 : Int) - n1 < n2
    · go_wp2_with (go_at_call 25; refine (szIntS_any _ _ _ _ _ (by assumption) (by omega) (by omega)).mono ?_; rintro e w' ⟨rfl, rfl⟩)
      go_ret
      exact ⟨ret_int (by rw [← HR.out, if_pos (by omega)]), below1 _ _⟩
    · have h4 : ¬ (1048576 : Int) - n1 - n2 < 0 := by omega
      go_wp2_with (go_at_call 25; refine (szIntS_any _ _ _ _ _ (by assumption) (by omega) (by omega)).mono ?_; rintro e w' ⟨rfl, rfl⟩)
      go_ret
      exact ⟨ret_int (by rw [← HR.out, if_neg (by omega)]; omega), below1 _ _⟩

set_option maxHeartbeats 400000 in
theorem toTrack_any (q f k : Int) (A1 A2 : Option Addr) (c1 c2 : Nat) (st sf : List Int) (w : World) (h1 : RI w w.heap.size A1 st) (h2 : RI w w.heap.size A2 sf) :
    Calls Tryd.prog 9 #[.agg #[.int .i64 q, .int .i64 f, .int .i64 k, .slice A1 st.length c1, .slice A2 sf.length c2]] w fun e w' => ∃ g1 g2, e = .returned (.agg #[.int .i64 q, .int .i64 f, .int .i64 k, .slice (some ⟨g1, 0, none⟩) st.length st.length, .slice (some ⟨g2, 0, none⟩) sf.length sf.length]) ∧ w.heap.size ≤ g1 ∧ w.heap.size ≤ g2 ∧ g2 ≠ g1 ∧ RowI w' g1 3 st.length (fun k => st.getD k 0) ∧ RowI w' g2 3 sf.length (fun k => sf.getD k 0) ∧ Below w.heap.size w w' := by
  have hl := h1.1
  have hl2 := h2.1
  go_enter Tryd.func9, Tryd.ntmps9
  go_wp2_with fail
  refine (toIntS_any _ _ _ _ (h1.go (below3 _ _ _ _))).mono ?_
  rintro e w1 ⟨rfl, hr1, hx⟩
  simp only [World.size_alloc] at hr1 hx
  have B0 := (hx.block w.heap.size (by omega)).trans ((Below.heap_alloc _ _ _ (by simp; omega)).trans ((Below.heap_alloc _ _ _ (by simp)).trans (heap_alloc_at w _ _ rfl)))
  have B1 := (hx.block (w.heap.size + 1) (by omega)).trans ((Below.heap_alloc _ _ _ (by simp)).trans (heap_alloc_at _ _ _ (by simp)))
  have B2 := (hx.block (w.heap.size + 1 + 1) (by omega)).trans (heap_alloc_at _ _ _ (by simp))
  have q0 := fun i => cell_of_row w1 w.heap.size i _ _ _ B0
  have f2 := fun i => frozen_row (i := i) B2
  have q2 := fun i => cell_of_row w1 (w.heap.size + 1 + 1) i _ _ _ B2
  have s1 : w.heap.size + 3 ≤ w1.heap.size := by have := hx.size; simp at this; omega
  have hx0 := (below3 w (.cells #[.int .i64 q, .int .i64 f, .int .i64 k, .slice A1 st.length c1, .slice A2 sf.length c2] 24) (.cells #[.int .i64 0, .int .i64 0, .int .i64 0, .slice none 0 0, .slice none 0 0] 28) (.cells #[.int .i64 q, .int .i64 f, .int .i64 k, .slice none 0 0, .slice none 0 0] 28)).trans (hx.mono (by omega))
  go_wp2_with fail
  have B3 := heap_set _ _ 3 _ _ (.slice (some ⟨w.heap.size + 1 + 1 + 1, 0, none⟩) st.length st.length) B2
  have hx3 : Below w.heap.size w (w1.setCell ⟨w.heap.size + 1 + 1, 3, none⟩ (.slice (some ⟨w.heap.size + 1 + 1 + 1, 0, none⟩) st.length st.length)) := hx0.setCell (by dsimp only; omega) _
  have hr3 := hr1.far (p := ⟨w.heap.size + 1 + 1, 3, none⟩) (by dsimp only; omega) (.slice (some ⟨w.heap.size + 1 + 1 + 1, 0, none⟩) st.length st.length)
  have B13 := (Below.heap_setCell w1 ⟨w.heap.size + 1 + 1, 3, none⟩ (.slice (some ⟨w.heap.size + 1 + 1 + 1, 0, none⟩) st.length st.length) (w.heap.size + 1) (by dsimp only; omega)).trans B1
  have s3 : (w1.setCell ⟨w.heap.size + 1 + 1, 3, none⟩ (.slice (some ⟨w.heap.size + 1 + 1 + 1, 0, none⟩) st.length st.length)).heap.size = w1.heap.size := by simp
  generalize w1.setCell ⟨w.heap.size + 1 + 1, 3, none⟩ (.slice (some ⟨w.heap.size + 1 + 1 + 1, 0, none⟩) st.length st.length) = w3 at *
  clear hx B0 B1 B2 q0 f2 q2 hx0 hr1
  refine (toIntS_any _ _ _ _ (h2.go hx3)).mono ?_
  rintro e w4 ⟨rfl, hr4, hx4⟩
  have B2 := (hx4.block _ (by omega)).trans B3
  have B1 := (hx4.block _ (by omega)).trans B13
  have q1 := fun i => cell_of_row w4 (w.heap.size + 1) i _ _ _ B1
  have q2 := fun i => cell_of_row w4 (w.heap.size + 1 + 1) i _ _ _ B2
  have f1 := fun i => frozen_row (i := i) B1
  have f2 := fun i => frozen_row (i := i) B2
  have hr5 := hr3.below hx4 hr3.lt
  have hx5 := hx3.trans (hx4.mono hx3.size)
  have ne1 : w.heap.size + 1 + 1 + 1 ≠ w3.heap.size := by have := hr3.lt; omega
  clear B1 B2 B3 B13
  go_wp2
  rw [s3] at hr4 ne1
  exact bodyPost_ret (v := .agg #[.int .i64 q, .int .i64 f, .int .i64 k, .slice (some ⟨w.heap.size + 1 + 1 + 1, 0, none⟩) st.length st.length, .slice (some ⟨w1.heap.size, 0, none⟩) sf.length sf.length]) (by simp [results, Tryd.results9, go_sem, q1]) rfl
    ⟨w.heap.size + 1 + 1 + 1, w1.heap.size, rfl, by omega, by omega, fun e => ne1 e.symm, (((((hr5.far (by dsimp only; omega) _).far (by dsimp only; omega) _).far (by dsimp only; omega) _).far (by dsimp only; omega) _).far (by dsimp only; omega) _).far (by dsimp only; omega) _,
      (((((hr4.far (by dsimp only; omega) _).far (by dsimp only; omega) _).far (by dsimp only; omega) _).far (by dsimp only; omega) _).far (by dsimp only; omega) _).far (by dsimp only; omega) _,
      (((((hx5.setCell (by dsimp only; omega) _).setCell (by dsimp only; omega) _).setCell (by dsimp only; omega) _).setCell (by dsimp only; omega) _).setCell (by dsimp only; omega) _).setCell (by dsimp only; omega) _⟩

set_option maxHeartbeats 400000 in
theorem eqTrack_any (q f k : Int) (A1 A2 B1 B2 : Option Addr) (c1 c2 d1 d2 : Nat) (st sf : List Int) (w : World) (h1 : RI w w.heap.size A1 st) (h2 : RI w w.heap.size A2 sf) (h3 : RI w w.heap.size B1 st) (h4 : RI w w.heap.size B2 sf) :
    Calls Tryd.prog 11 #[.agg #[.int .i64 q, .int .i64 f, .int .i64 k, .slice A1 st.length c1, .slice A2 sf.length c2], .agg #[.int .i64 q, .int .i64 f, .int .i64 k, .slice B1 st.length d1, .slice B2 sf.length d2]] w fun e w' => e = .returned (.bool true) ∧ Below w.heap.size w w' := by
  have hl := h1.1
  have hl2 := h2.1
  have hxx : (st == st) = true := by simp
  have hyy : (sf == sf) = true := by simp
  go_enter Tryd.func11, Tryd.ntmps11
  go_wp2_with fail
  refine (eqIntS_any _ _ _ _ st st _ (h1.go (below2 _ _ _)) (h3.go (below2 _ _ _))).mono ?_
  rintro e w1 ⟨rfl, hx⟩
  have g1 := (hx.block w.heap.size (by simp; omega)).trans ((Below.heap_alloc _ _ _ (by simp)).trans (heap_alloc_at w _ _ rfl))
  have g2 := (hx.block (w.heap.size + 1) (by simp)).trans (heap_alloc_at _ _ _ (by simp))
  have q1 := (cell_of_row _ _ 4 _ _ _ g1).trans rfl
  have q2 := (cell_of_row _ _ 4 _ _ _ g2).trans rfl
  have hb : Below w.heap.size w w1 := (below2 _ _ _).trans (hx.mono (by simp; omega))
  clear g1 g2 hx
  go_wp2_with fail
  refine (eqIntS_any _ _ _ _ sf sf _ (h2.go hb) (h4.go hb)).mono ?_
  rintro e w2 ⟨rfl, hx⟩
  go_wp2
  go_ret
  exact ⟨rfl, hb.trans (hx.mono hb.size)⟩

/-- A slice at A of n slices, the y-th told by R y. -/
def RawG (w : World) (A : Option Addr) (n : Nat) (R : Nat → Option Addr × Nat × Nat) : Prop :=
  n = 0 ∨ ∃ b off, A = some ⟨b, off, none⟩ ∧ b < w.heap.size ∧ ∀ y < n, w.cell? ⟨b, off + y, none⟩ = some (.slice (R y).1 (R y).2.1 (R y).2.2) ∧ (R y).2.1 ≤ maxLen
theorem rawG_on {w w' : World} {A : Option Addr} {n : Nat} {R : Nat → Option Addr × Nat × Nat} (h : RawG w A n R) (hb : Below w.heap.size w w') : RawG w' A n R := by
  rcases h with h | ⟨b, off, e, hB, hc⟩
  · exact .inl h
  · exact .inr ⟨b, off, e, Nat.lt_of_lt_of_le hB hb.size, fun y hy => ⟨(bcell hb hB).trans (hc y hy).1, (hc y hy).2⟩⟩
theorem cumL_mono (len : Nat → Nat) (k : Nat) : ∀ n, k ≤ n → cumL len k ≤ cumL len n
  | 0, h => by obtain rfl : k = 0 := by omega
               exact Nat.le_refl _
  | n + 1, h => by
    rcases Nat.lt_or_ge k (n + 1) with h1 | h1
    · have := cumL_mono len k n (by omega)
      simp only [cumL]
      omega
    · obtain rfl : k = n + 1 := by omega
      exact Nat.le_refl _
theorem cumL_row (len : Nat → Nat) {n y : Nat} (h : y < n) : len y ≤ cumL len n := by
  have := cumL_mono len (y + 1) n (by omega)
  simp only [cumL] at this
  omega



/-- A grid made at its full size, of whose rows k are there. -/
def GridM (w : World) (base : Nat) (t te : TypeId) (g n k : Nat) (len : Nat → Nat) (F : Nat → Nat → Int) (Bk : Nat → Nat) : Prop :=
  w.ownsRow base t 1 (.slice (some ⟨g, 0, none⟩) n n) n ((List.range n).map fun y => if y < k then Value.slice (some ⟨Bk y, 0, none⟩) (len y) (len y) else .slice none 0 0) ∧
  (∀ y, y < k → base ≤ Bk y ∧ g ≠ Bk y ∧ RowI w (Bk y) te (len y) (F y)) ∧ ∀ y z, y < k → z < k → y ≠ z → Bk y ≠ Bk z
section
variable {w w' : World} {base : Nat} {t te : TypeId} {g n k : Nat} {len : Nat → Nat} {F : Nat → Nat → Int} {Bk : Nat → Nat}
theorem GridM.start (h : w.ownsRow base t 1 (.slice (some ⟨g, 0, none⟩) n n) n (madeCells #[.slice none 0 0] (n * 1)).toList) : GridM w base t te g n 0 len F Bk := by
  refine ⟨?_, fun y hy => by omega, fun y z hy => by omega⟩
  have : (madeCells #[.slice none 0 0] (n * 1)).toList = (List.range n).map fun y => if y < 0 then Value.slice (some ⟨Bk y, 0, none⟩) (len y) (len y) else .slice none 0 0 := by
    apply List.ext_getElem?
    intro i
    by_cases hi : i < n
    · simp [madeCells, hi, Nat.mod_one]
    · simp [madeCells, hi]
  rw [← this]
  exact h
theorem GridM.grid (h : GridM w base t te g n n len F Bk) : Grid w base t te (.slice (some ⟨g, 0, none⟩) n n) n len F Bk len := by
  refine ⟨?_, fun y hy => ⟨(h.2.1 y hy).1, by simpa [Value.ownBlock] using (h.2.1 y hy).2.1, (h.2.1 y hy).2.2⟩, h.2.2⟩
  have := h.1
  rw [show ((List.range n).map fun y => if y < n then Value.slice (some ⟨Bk y, 0, none⟩) (len y) (len y) else .slice none 0 0) = (List.range n).map fun y => Value.slice (some ⟨Bk y, 0, none⟩) (len y) (len y) from List.map_congr_left fun y hy => by simp at hy; simp [hy]] at this
  exact this
theorem GridM.below (h : GridM w base t te g n k len F Bk) (hb : Below w.heap.size w w') : GridM w' base t te g n k len F Bk :=
  ⟨own_below h.1 hb, fun y hy => ⟨(h.2.1 y hy).1, (h.2.1 y hy).2.1, (h.2.1 y hy).2.2.below hb (h.2.1 y hy).2.2.lt⟩, h.2.2⟩
theorem GridM.lt (h : GridM w base t te g n k len F Bk) : g < w.heap.size := by
  obtain ⟨⟨_, ⟨e, _⟩ | ⟨g', cap, cur, e, _, hh, _⟩⟩, _⟩ := h
  · cases e
  · injection e with e _ _; injection e with e; injection e with e _ _; subst e; exact heap_lt hh
theorem GridM.cell (h : GridM w base t te g n k len F Bk) (hk : k < n) : w.cell? ⟨g, k, none⟩ = some (.slice none 0 0) ∧ w.frozen? ⟨g, k, none⟩ = false := by
  refine ⟨?_, h.1.frozenAt k⟩
  rw [h.1.cellAt k (by omega)]
  simp [hk]
/-- The next row is stored. -/
theorem GridM.step (h : GridM w base t te g n k len F Bk) (hk : k < n) {b m : Nat} {f : Nat → Int} (hr : RowI w b te m f) (hb : base ≤ b) (hg : g ≠ b) (hne : ∀ y, y < k → Bk y ≠ b) :
    GridM (w.setCell ⟨g, k, none⟩ (.slice (some ⟨b, 0, none⟩) m m)) base t te g n (k + 1) (fun y => if y = k then m else len y) (fun y => if y = k then f else F y) (fun y => if y = k then b else Bk y) := by
  obtain ⟨h1, h2, h3⟩ := h
  refine ⟨?_, fun y hy => ?_, fun y z hy hz hyz => ?_⟩
  · have := (h1.stored k (.slice (some ⟨b, 0, none⟩) m m)).1
    rw [show ((List.range n).map fun y => if y < k then Value.slice (some ⟨Bk y, 0, none⟩) (len y) (len y) else .slice none 0 0).set k (.slice (some ⟨b, 0, none⟩) m m) = (List.range n).map fun y => if y < k + 1 then Value.slice (some ⟨if y = k then b else Bk y, 0, none⟩) (if y = k then m else len y) (if y = k then m else len y) else .slice none 0 0 from by
      apply List.ext_getElem?
      intro i
      rw [List.getElem?_set]
      by_cases hi : i < n
      · by_cases e : k = i
        · subst e; simp [hi]
        · have e2 : ¬ i = k := fun e' => e e'.symm
          have e3 : (i < k + 1) = (i < k) := by apply propext; omega
          simp [e, e2, e3, hi]
      · have e : ¬ k = i := by omega
        simp [hi, e]] at this
    exact this
  · by_cases e : y = k
    · simp only [e, if_true]
      exact ⟨hb, hg, hr.far (by simpa using hg.symm) _⟩
    · simp only [e, if_false]
      obtain ⟨a1, a2, a3⟩ := h2 y (by omega)
      exact ⟨a1, a2, a3.far (by simpa using a2.symm) _⟩
  · by_cases e1 : y = k
    · have e2 : ¬ z = k := by omega
      simp only [e1, if_true, e2, if_false]
      exact fun e => hne z (by omega) e.symm
    · by_cases e2 : z = k
      · simp only [e1, if_false, e2, if_true]
        exact hne y (by omega)
      · simp only [e1, if_false, e2]
        exact h3 y z (by omega) (by omega) hyz
end
theorem infoIntS : (Tryd.prog.info? 22).map (fun i => (i.zero, i.size, i.bytes)) = some (some (.slice none 0 0), 1, 24) := by kernel_rfl
end Go.Proofs.YtmiefdjbhcpnbaaDoor

namespace Go.Proofs.YtmiefdjbhcpnbaaDoor
def headSigns : List Char := (
  [104, 97, 114, 110, 101, 115, 115, 32, 48, 48, 56, 99, 55, 49, 98, 53, 57, 50, 100, 52, 99, 53, 48, 98, 51, 53, 53, 50, 52, 50, 97, 100, 100, 99,
  55, 98, 51, 53, 49, 99, 98, 100, 49, 53, 49, 97, 98, 50, 52, 97, 55, 100, 52, 102, 49, 97, 99, 100, 52, 100, 102, 55, 101, 97, 97, 56, 57, 54, 101,
  55, 51, 48, 32, 99, 117, 116, 32, 97, 116, 32, 108, 111, 111, 112, 46, 101, 120, 97, 109, 112, 108, 101, 47, 103, 48, 49, 51, 48, 54, 47, 108, 97,
  119, 115, 46, 70, 110, 69, 120, 97, 99, 116, 84, 114, 97, 99, 107, 84, 101, 120, 116, 32, 108, 111, 111, 112, 46, 101, 120, 97, 109, 112, 108, 101,
  47, 103, 48, 49, 51, 48, 54, 47, 108, 97, 119, 115, 46, 70, 110, 69, 120, 97, 99, 116, 80, 97, 114, 115, 101, 84, 114, 97, 99, 107, 32, 108, 111,
  111, 112, 46, 101, 120, 97, 109, 112, 108, 101, 47, 103, 48, 49, 51, 48, 54, 47, 108, 97, 119, 115, 46, 70, 110, 69, 120, 97, 99, 116, 80, 117, 122,
  122, 108, 101, 84, 101, 120, 116, 32, 108, 111, 111, 112, 46, 101, 120, 97, 109, 112, 108, 101, 47, 103, 48, 49, 51, 48, 54, 47, 108, 97, 119, 115,
  46, 70, 110, 69, 120, 97, 99, 116, 80, 97, 114, 115, 101, 80, 117, 122, 122, 108, 101] : List Nat).map Char.ofNat
def headRest : List (List Char) := (
  [[97, 116], [108, 111, 111, 112, 46, 101, 120, 97, 109, 112, 108, 101, 47, 103, 48, 49, 51, 48, 54, 47, 108, 97, 119, 115, 46, 70, 110, 69, 120, 97,
  99, 116, 84, 114, 97, 99, 107, 84, 101, 120, 116], [108, 111, 111, 112, 46, 101, 120, 97, 109, 112, 108, 101, 47, 103, 48, 49, 51, 48, 54, 47, 108,
  97, 119, 115, 46, 70, 110, 69, 120, 97, 99, 116, 80, 97, 114, 115, 101, 84, 114, 97, 99, 107], [108, 111, 111, 112, 46, 101, 120, 97, 109, 112, 108,
  101, 47, 103, 48, 49, 51, 48, 54, 47, 108, 97, 119, 115, 46, 70, 110, 69, 120, 97, 99, 116, 80, 117, 122, 122, 108, 101, 84, 101, 120, 116], [108,
  111, 111, 112, 46, 101, 120, 97, 109, 112, 108, 101, 47, 103, 48, 49, 51, 48, 54, 47, 108, 97, 119, 115, 46, 70, 110, 69, 120, 97, 99, 116, 80, 97,
  114, 115, 101, 80, 117, 122, 122, 108, 101]] : List (List Nat)).map (·.map Char.ofNat)
theorem strip_cut (r : List (List Char)) : stripLifts liftWords ("cut".toList :: r) = ([], "cut".toList :: r) := by kernel_rfl
theorem make_of {P : Program} {r : List (List Char)} (h : behindMainWord (wordsSigns P.initOrder.toList) = "cut".toList :: r) : P.make = some .cut := by
  unfold Program.make
  rw [h]
  kernel_rfl
theorem lifts_of {P : Program} {r : List (List Char)} (h : behindMainWord (wordsSigns P.initOrder.toList) = "cut".toList :: r) : P.liftsFinal = false := by
  unfold Program.liftsFinal Program.headLifts
  rw [h]
  kernel_rfl
theorem enter_of {P : Program} {r : List (List Char)} (h : behindMainWord (wordsSigns P.initOrder.toList) = "cut".toList :: r) (h1 : P.laysLater = false) (h2 : P.bearsReflect = false) (h3 : P.doorFits [] = true) : P.mayEnter = true := by
  unfold Program.mayEnter
  rw [h]
  simp only [strip_cut, h1, h2, h3]
  kernel_rfl
theorem head_init : Tryd.prog.initOrder = String.ofList headSigns := by kernel_rfl
theorem head_list : Tryd.prog.initOrder.toList = headSigns := by rw [head_init, String.toList_ofList]
theorem head_words : behindMainWord (wordsSigns headSigns) = "cut".toList :: headRest := by kernel_rfl
theorem head_cut : behindMainWord (wordsSigns Tryd.prog.initOrder.toList) = "cut".toList :: headRest := by rw [head_list]; exact head_words
theorem head_make : Tryd.prog.make = some .cut := make_of head_cut
theorem head_lifts : Tryd.prog.liftsFinal = false := lifts_of head_cut
theorem head_lays : Tryd.prog.laysLater = false := by kernel_rfl
theorem head_refl : Tryd.prog.bearsReflect = false := by kernel_rfl
theorem head_door : Tryd.prog.doorFits [] = true := by kernel_rfl
theorem head_enter : Tryd.prog.mayEnter = true := enter_of head_cut head_lays head_refl head_door
theorem head_laid : laidOutB Tryd.prog = true := by kernel_rfl
theorem head_maps : mapsRowed Tryd.prog = true := by kernel_rfl
theorem head_own : ownKnob Tryd.prog.godebug = none := by kernel_rfl
end Go.Proofs.YtmiefdjbhcpnbaaDoor

/-
  Rows of structs of four integers (clues): slices that read as lists, rows that the call itself made. Over any program.
-/
import Derived.Test.YteogfondnpfklaaWRow
namespace Go.Proofs.Yteogfondnpfklaa
open Go.RowKit

/-- Four integers. -/
abbrev Qd := Int × Int × Int × Int
/-- The cells of one. -/
def cells4 (c : Qd) : List Value := [.int .i64 c.1, .int .i64 c.2.1, .int .i64 c.2.2.1, .int .i64 c.2.2.2]
def zeroQ : Qd := (0, 0, 0, 0)
/-- Four cells from an address on. -/
def quadAt (w : World) (b o : Nat) (c : Qd) : Prop :=
  w.cell? ⟨b, o, none⟩ = some (.int .i64 c.1) ∧ w.cell? ⟨b, o + 1, none⟩ = some (.int .i64 c.2.1) ∧ w.cell? ⟨b, o + 2, none⟩ = some (.int .i64 c.2.2.1) ∧ w.cell? ⟨b, o + 3, none⟩ = some (.int .i64 c.2.2.2)
theorem quadAt.below {w w' : World} {B b o : Nat} {c : Qd} (h : quadAt w b o c) (hb : Below B w w') (hB : b < B) : quadAt w' b o c :=
  ⟨(bcell hb hB).trans h.1, (bcell hb hB).trans h.2.1, (bcell hb hB).trans h.2.2.1, (bcell hb hB).trans h.2.2.2⟩

/-- A slice at A that reads as the quads L, below block B. -/
def RQ (w : World) (B : Nat) (A : Option Addr) (L : List Qd) : Prop :=
  L.length ≤ 1048576 ∧ (L = [] ∨ ∃ b off, A = some ⟨b, off, none⟩ ∧ b < B ∧ ∀ k (h : k < L.length), quadAt w b (off + k * 4) L[k])
section
variable {w w' : World} {B B' : Nat} {A : Option Addr} {L : List Qd}
theorem RQ.at_ (h : RQ w B A L) (hb : Below B w w') {k : Nat} (hk : k < L.length) : ∃ b off, A = some ⟨b, off, none⟩ ∧ b < B ∧ quadAt w' b (off + k * 4) L[k] := by
  obtain ⟨_, rfl | ⟨b, off, e, hB, hc⟩⟩ := h
  · simp at hk
  · exact ⟨b, off, e, hB, (hc k hk).below hb hB⟩
theorem RQ.below (h : RQ w B A L) (hb : Below B w w') : RQ w' B A L := by
  obtain ⟨h0, h1 | ⟨b, off, e, hB, hc⟩⟩ := h
  · exact ⟨h0, .inl h1⟩
  · exact ⟨h0, .inr ⟨b, off, e, hB, fun k hk => (hc k hk).below hb hB⟩⟩
theorem RQ.more (h : RQ w B A L) (hB : B ≤ B') : RQ w B' A L := by
  obtain ⟨h0, h1 | ⟨b, off, e, hb, hc⟩⟩ := h
  · exact ⟨h0, .inl h1⟩
  · exact ⟨h0, .inr ⟨b, off, e, by omega, hc⟩⟩
theorem RQ.go (h : RQ w w.heap.size A L) (hb : Below w.heap.size w w') : RQ w' w'.heap.size A L := (h.below hb).more hb.size
/-- A part of a slice. -/
theorem RQ.part (h : RQ w B A L) {b off : Nat} (hA : A = some ⟨b, off, none⟩) (i m : Nat) (him : i + m ≤ L.length) : RQ w B (some ⟨b, off + i * 4, none⟩) ((L.drop i).take m) := by
  obtain ⟨h0, h1⟩ := h
  refine ⟨by simp; omega, ?_⟩
  rcases h1 with rfl | ⟨b', off', e, hb, hc⟩
  · left; simp
  · rw [hA] at e
    injection e with e; injection e with e1 e2 _
    subst e1 e2
    refine .inr ⟨b, off + i * 4, rfl, hb, fun k hk => ?_⟩
    have hk' : k < m ∧ i + k < L.length := by simp at hk; omega
    have := hc (i + k) hk'.2
    rw [show off + i * 4 + k * 4 = off + (i + k) * 4 by omega]
    simpa using this
end
/-- Block g begins with n quads, the k-th being F k. -/
def RowQ (w : World) (g : Nat) (t : TypeId) (n : Nat) (F : Nat → Qd) : Prop :=
  ∃ cs, w.heap[g]? = some (.cells cs t (0, 0)) ∧ n * 4 ≤ cs.size ∧ ∀ k < n, cs[k * 4]? = some (.int .i64 (F k).1) ∧ cs[k * 4 + 1]? = some (.int .i64 (F k).2.1) ∧ cs[k * 4 + 2]? = some (.int .i64 (F k).2.2.1) ∧ cs[k * 4 + 3]? = some (.int .i64 (F k).2.2.2)
section
variable {w w' : World} {g : Nat} {t : TypeId} {n : Nat} {F G : Nat → Qd}
theorem RowQ.lt (h : RowQ w g t n F) : g < w.heap.size := by obtain ⟨cs, h, _⟩ := h; exact heap_lt h
theorem RowQ.quad (h : RowQ w g t n F) {k : Nat} (hk : k < n) : quadAt w g (k * 4) (F k) := by
  obtain ⟨cs, h, _, hc⟩ := h
  exact ⟨(cell_of_row w g _ cs t (0, 0) h).trans (hc k hk).1, (cell_of_row w g _ cs t (0, 0) h).trans (hc k hk).2.1, (cell_of_row w g _ cs t (0, 0) h).trans (hc k hk).2.2.1, (cell_of_row w g _ cs t (0, 0) h).trans (hc k hk).2.2.2⟩
theorem RowQ.free (h : RowQ w g t n F) (i : Nat) : w.frozen? ⟨g, i, none⟩ = false := by obtain ⟨cs, h, _⟩ := h; exact frozen_row h
theorem RowQ.keep (h : RowQ w g t n F) (hb : w'.heap[g]? = w.heap[g]?) : RowQ w' g t n F := by obtain ⟨cs, h, r⟩ := h; exact ⟨cs, hb.trans h, r⟩
theorem RowQ.below {B : Nat} (h : RowQ w g t n F) (hb : Below B w w') (hg : g < B) : RowQ w' g t n F := h.keep (hb.block g hg)
theorem RowQ.alloc (h : RowQ w g t n F) (o : Obj) : RowQ (w.alloc o) g t n F := h.keep (Below.heap_alloc w o g h.lt)
theorem RowQ.drew (h : RowQ w g t n F) : RowQ w.drew g t n F := h
theorem RowQ.far (h : RowQ w g t n F) {p : Addr} (hp : g ≠ p.block) (u : Value) : RowQ (w.setCell p u) g t n F := h.keep (Below.heap_setCell w p u g hp)
theorem RowQ.grown {row : Option Nat} (h : RowQ w g t n F) (hg : w.grownBy w' row) (hne : some g ≠ row) : RowQ w' g t n F := h.keep (hg.block g h.lt hne)
theorem RowQ.congr (h : RowQ w g t n F) (he : ∀ k < n, F k = G k) : RowQ w g t n G := by
  obtain ⟨cs, h, hs, hc⟩ := h; exact ⟨cs, h, hs, fun k hk => by rw [← he k hk]; exact hc k hk⟩
theorem RowQ.less (h : RowQ w g t n F) {m : Nat} (hm : m ≤ n) : RowQ w g t m F := by
  obtain ⟨cs, h, hs, hc⟩ := h; exact ⟨cs, h, by omega, fun k hk => hc k (by omega)⟩
/-- All four cells of one are written. -/
theorem RowQ.set (h : RowQ w g t n F) {k : Nat} (hk : k < n) (a b c d : Int) :
    RowQ ((((w.setCell ⟨g, k * 4, none⟩ (.int .i64 a)).setCell ⟨g, k * 4 + 1, none⟩ (.int .i64 b)).setCell ⟨g, k * 4 + 2, none⟩ (.int .i64 c)).setCell ⟨g, k * 4 + 3, none⟩ (.int .i64 d)) g t n (fun i => if i = k then (a, b, c, d) else F i) := by
  obtain ⟨cs, h, hs, hc⟩ := h
  refine ⟨_, heap_set _ g _ _ t _ (heap_set _ g _ _ t _ (heap_set _ g _ _ t _ (heap_set _ g _ _ t _ h))), by simpa using hs, fun i hi => ?_⟩
  have h1 := hc i hi
  by_cases e : i = k
  · subst e
    simp [Array.getElem?_setIfInBounds]
    omega
  · simp only [e, if_false]
    refine ⟨?_, ?_, ?_, ?_⟩
    · rw [Array.getElem?_setIfInBounds_ne (by omega), Array.getElem?_setIfInBounds_ne (by omega), Array.getElem?_setIfInBounds_ne (by omega), Array.getElem?_setIfInBounds_ne (by omega)]; exact h1.1
    · rw [Array.getElem?_setIfInBounds_ne (by omega), Array.getElem?_setIfInBounds_ne (by omega), Array.getElem?_setIfInBounds_ne (by omega), Array.getElem?_setIfInBounds_ne (by omega)]; exact h1.2.1
    · rw [Array.getElem?_setIfInBounds_ne (by omega), Array.getElem?_setIfInBounds_ne (by omega), Array.getElem?_setIfInBounds_ne (by omega), Array.getElem?_setIfInBounds_ne (by omega)]; exact h1.2.2.1
    · rw [Array.getElem?_setIfInBounds_ne (by omega), Array.getElem?_setIfInBounds_ne (by omega), Array.getElem?_setIfInBounds_ne (by omega), Array.getElem?_setIfInBounds_ne (by omega)]; exact h1.2.2.2
theorem RowQ.rq {A : Option Addr} {L : List Qd} (h : RowQ w g t L.length (fun k => L.getD k zeroQ)) (hA : A = some ⟨g, 0, none⟩) (hl : L.length ≤ 1048576) : RQ w w.heap.size A L :=
  ⟨hl, .inr ⟨g, 0, hA, h.lt, fun k hk => by
    have h1 := h.quad hk
    simp only [List.getD_eq_getElem?_getD, List.getElem?_eq_getElem hk, Option.getD_some] at h1
    rw [Nat.zero_add]; exact h1⟩⟩
/-- A slice of n quads that the call itself made, from block lo on; empty: nothing is asked. -/
def OQ (w : World) (lo : Nat) (t : TypeId) (A : Option Addr) (n : Nat) (F : Nat → Qd) : Prop := n = 0 ∨ ∃ g, A = some ⟨g, 0, none⟩ ∧ lo ≤ g ∧ RowQ w g t n F
theorem OQ.get {lo : Nat} {A : Option Addr} (h : OQ w lo t A n F) {k : Nat} (hk : k < n) : ∃ g, A = some ⟨g, 0, none⟩ ∧ lo ≤ g ∧ RowQ w g t n F := by
  rcases h with h | h
  · omega
  · exact h
theorem OQ.below {lo B : Nat} {A : Option Addr} (h : OQ w lo t A n F) (hb : Below B w w') (hB : w.heap.size ≤ B) : OQ w' lo t A n F := by
  rcases h with h | ⟨g, e, hl, h⟩
  · exact .inl h
  · exact .inr ⟨g, e, hl, h.below hb (Nat.lt_of_lt_of_le h.lt hB)⟩
theorem OQ.grown {lo : Nat} {A : Option Addr} {row : Option Nat} (h : OQ w lo t A n F) (hg : w.grownBy w' row) (hne : ∀ g, row = some g → g < lo) : OQ w' lo t A n F := by
  rcases h with h | ⟨g, e, hl, h⟩
  · exact .inl h
  · exact .inr ⟨g, e, hl, h.grown hg (fun e => by have := hne g e.symm; omega)⟩
theorem OQ.congr {lo : Nat} {A : Option Addr} (h : OQ w lo t A n F) (he : ∀ k < n, F k = G k) : OQ w lo t A n G := by
  rcases h with h | ⟨g, e, hl, h⟩
  · exact .inl h
  · exact .inr ⟨g, e, hl, h.congr he⟩
theorem OQ.from_ {lo lo' : Nat} {A : Option Addr} (h : OQ w lo t A n F) (hl : lo' ≤ lo) : OQ w lo' t A n F := by
  rcases h with h | ⟨g, e, h1, h⟩
  · exact .inl h
  · exact .inr ⟨g, e, by omega, h⟩
theorem OQ.rq {lo : Nat} {A : Option Addr} {L : List Qd} (h : OQ w lo t A L.length (fun k => L.getD k zeroQ)) (hl : L.length ≤ 1048576) : RQ w w.heap.size A L := by
  rcases h with h | ⟨g, e, _, h⟩
  · exact ⟨hl, .inl (List.length_eq_zero_iff.1 h)⟩
  · exact h.rq e hl
/-- The cells of quads, one behind the other. -/
def flatQ (L : List Qd) : List Value := L.flatMap cells4
theorem flatQ_app (a b : List Qd) : flatQ (a ++ b) = flatQ a ++ flatQ b := by simp [flatQ]
theorem flatQ_len : ∀ L : List Qd, (flatQ L).length = L.length * 4
  | [] => rfl
  | c :: t => by rw [show flatQ (c :: t) = cells4 c ++ flatQ t from rfl, List.length_append, flatQ_len t]; simp [cells4]; omega
theorem flatQ_at : ∀ (L : List Qd) (k : Nat) (hk : k < L.length), (flatQ L)[k * 4]? = some (.int .i64 L[k].1) ∧ (flatQ L)[k * 4 + 1]? = some (.int .i64 L[k].2.1) ∧ (flatQ L)[k * 4 + 2]? = some (.int .i64 L[k].2.2.1) ∧ (flatQ L)[k * 4 + 3]? = some (.int .i64 L[k].2.2.2)
  | [], k, hk => by simp at hk
  | c :: t, 0, _ => by simp [flatQ, cells4]
  | c :: t, k + 1, hk => by
    have := flatQ_at t k (by simpa using hk)
    have e : flatQ (c :: t) = .int .i64 c.1 :: .int .i64 c.2.1 :: .int .i64 c.2.2.1 :: .int .i64 c.2.2.2 :: flatQ t := rfl
    rw [e, show (k + 1) * 4 = k * 4 + 1 + 1 + 1 + 1 from by omega]
    simpa using this
/-- A slice of quads that owns its row, as append leaves it. -/
theorem own_oq {base n : Nat} {v : Value} {xs : List Qd} (h : w.ownsRow base t 4 v n (flatQ xs)) (hn : xs.length = n) : ∃ A c, v = .slice A xs.length c ∧ OQ w base t A xs.length (fun k => xs.getD k zeroQ) := by
  subst hn
  obtain ⟨h0, ⟨rfl, hz⟩ | ⟨g, cap, cs, rfl, hg, hh, hn, _, hsz, htk⟩⟩ := h
  · exact ⟨none, 0, by rw [hz], .inl hz⟩
  · refine ⟨_, cap, rfl, .inr ⟨g, rfl, hg, cs, hh, by rw [hsz]; exact Nat.mul_le_mul_right 4 hn, fun k hk => ?_⟩⟩
    have hat : ∀ i, i < xs.length * 4 → cs[i]? = (flatQ xs)[i]? := fun i hi => by
      have : (cs.toList.take (xs.length * 4))[i]? = (flatQ xs)[i]? := by rw [htk]
      rw [List.getElem?_take_of_lt hi, Array.getElem?_toList] at this
      exact this
    have hf := flatQ_at xs k hk
    rw [hat _ (by omega), hat _ (by omega), hat _ (by omega), hat _ (by omega), hf.1, hf.2.1, hf.2.2.1, hf.2.2.2]
    simp [List.getElem?_eq_getElem hk]
/-- A new row of zeros. -/
theorem madeQ {base : Nat} {A : Option Addr} {c : Nat} (h : w.ownsRow base t 4 (.slice A n c) n (madeCells #[.int .i64 0, .int .i64 0, .int .i64 0, .int .i64 0] (n * 4)).toList) (hA : A = some ⟨g, 0, none⟩) : RowQ w g t n (fun _ => zeroQ) := by
  obtain ⟨h0, ⟨hv, _⟩ | ⟨g', cap, cs, hv, _, hh, hn, _, hsz, htk⟩⟩ := h
  · subst hA; injection hv with hv; cases hv
  · subst hA
    injection hv with hv _ _
    injection hv with hv; injection hv with hv _ _
    subst hv
    have hcs : ∀ i < n * 4, cs[i]? = some (.int .i64 0) := fun i hi => by
      have : (cs.toList.take (n * 4))[i]? = (madeCells #[.int .i64 0, .int .i64 0, .int .i64 0, .int .i64 0] (n * 4)).toList[i]? := by rw [htk]
      rw [List.getElem?_take_of_lt hi, Array.getElem?_toList, Array.getElem?_toList] at this
      rw [this]
      have hm : i % 4 = 0 ∨ i % 4 = 1 ∨ i % 4 = 2 ∨ i % 4 = 3 := by omega
      rcases hm with hm | hm | hm | hm <;> simp [madeCells, hi, hm]
    refine ⟨cs, hh, by rw [hsz]; exact Nat.mul_le_mul_right 4 hn, fun k hk => ⟨hcs _ (by omega), hcs _ (by omega), hcs _ (by omega), hcs _ (by omega)⟩⟩
end
end Go.Proofs.Yteogfondnpfklaa

/- Several texts, one behind the other: R8 R20 WQuad. -/
import Derived.WalkKit
import Derived.ProofKit
import Derived.OpenShut
import Derived.Lib.SmallJoins
import Derived.Deep.Slices
import Derived.Deep.Fields
import Derived.ChangeSame
import Derived.Carry
import Derived.ChangeSlices
import Derived.Test.YtmiefdjbhcpnbaaDoorZTTam
import Derived.Test.YtmiefdjbhcpnbaaDoorZTTab

namespace Go.Proofs.YtmiefdjbhcpnbaaDoor
open Go.ChangeShapes Go.WideShapes Go.ChangeAt Go.RowKit Go.Deep Go.Joins


section
variable {H : Type} {enc : TypeId × Value → H} {P : Program}
/-- All arguments read behind the call as before it. -/
theorem stays_all (hl : laidOutB P = true) {W W' : World} (hb : Below W.heap.size W W') : ∀ {ts : List TypeId} {vs : List Value} {ds : List (DataW H)} {ps : List MemPlace},
    ts.all (fun t => P.readableRec t && decide (t < P.types.size)) = true → DataW.TrodAll enc P W 0 (fun _ => true) true ts vs ds ps → (∀ x ∈ ps, x.block < W.heap.size) →
    DataW.TrodAll enc P W' 0 (fun b => decide (b < W.heap.size)) true ts vs ds ps
  | [], vs, ds, ps, _, h, _ => by
    obtain ⟨rfl, rfl, rfl⟩ := trodAll_nil h
    exact trodAll_mk0
  | t :: ts, vs, ds, ps, hr, h, hlt => by
    obtain ⟨v, vs', d, ds', p, q, rfl, rfl, rfl, h1, h2⟩ := trodAll_cons h
    simp only [List.all_cons, Bool.and_eq_true, decide_eq_true_eq] at hr
    exact trodAll_cons_mk (Below.trod hl hr.1.1 hr.1.2 h1 hb fun x hx => hlt x (by simp [hx])) (stays_all hl hb (by simpa using hr.2) h2 fun x hx => hlt x (by simp [hx]))

/-- What a law's post asks, once its call returned true and wrote no old memory. -/
theorem law_post {f : Func} {s : ChangeSpec} {W W' : World} {args : Array Value} {ds : List (DataW H)} {before : List MemPlace} {T : TypeId}
    (hl : laidOutB P = true) (hW : DataW.Whole enc P f.params.toList s.vars false W args.toList ds [] before) (hA : DataW.TrodAll enc P W 0 (fun _ => true) true f.params.toList args.toList ds before)
    (hv : s.vars = []) (hp : f.params.toList.all (fun t => P.readableRec t && decide (t < P.types.size)) = true) (hr : f.resultTypes = #[T]) (hT : P.underlying T = some .bool)
    (e1 : (s.fn H (ds ++ [])).results = [.lit (.bool true)]) (e2 : (s.fn H (ds ++ [])).args = ds) (e3 : (s.fn H (ds ++ [])).vars = []) (hb : Below W.heap.size W W') :
    s.post enc P f false true false false W args (.bool true) W' := by
  refine ⟨ds, [], before, [], before, [], hW, ?_, ?_, ?_, hb.frame _, fun h => by cases h⟩
  · rw [e1, hr]
    exact trodAll_mk1 (shut_bool hT true)
  · rw [e2]
    exact stays_all hl hb hp hA (fun x hx => by simpa using hW.lt x hx)
  · rw [e3, hv]
    rfl
end
end Go.Proofs.YtmiefdjbhcpnbaaDoor

namespace Go.Proofs.YtmiefdjbhcpnbaaDoor
open Go.ChangeShapes Go.WideShapes Go.ChangeAt Go.RowKit Go.Deep Go.Joins

/-- A slice of integers that was read. -/
theorem trod_intS {H : Type} {enc : TypeId × Value → H} {W : World} {fuel : Nat} {v : Value} {y : DataW H × List MemPlace} (h : DataW.trod enc Tryd.prog W 0 (fun _ => true) true fuel 22 [v] = some y) :
    ∃ A n c, v = .slice A n c ∧ n ≤ maxLen ∧ (n ≤ 1048576 → ∃ xs : List Int, xs.length = n ∧ RI W W.heap.size A xs) := by
  rcases Go.ChangeShapes.open_ints Tryd.underlying22 Tryd.underlying3 (by kernel_rfl) h with ⟨hcs, _⟩ | ⟨a', len, cap, zs, hcs, _, hl, hm, hz, _, hat, _⟩
  · simp at hcs
    subst hcs
    exact ⟨none, 0, 0, rfl, Nat.zero_le _, fun _ => ⟨[], rfl, by simp, .inl rfl⟩⟩
  · simp at hcs
    subst hcs
    simp only [if_true] at hz
    refine ⟨some a', len, cap, rfl, Nat.le_trans hl hm, fun hn => ⟨zs.take len, by simp; omega, by simp; omega, ?_⟩⟩
    by_cases h0 : len = 0
    · subst h0; exact .inl (by simp)
    · obtain ⟨b, off, spot⟩ := a'
      have h1 := hat 0 (by omega)
      have hspot : spot = none := by simpa [Addr.add] using World.cell?_spot h1
      subst hspot
      refine .inr ⟨b, off, rfl, cell_lt (o := off) (by simpa [Addr.add] using h1), fun k hk => ?_⟩
      have hk' : k < len := by simp at hk; omega
      have h2 := hat k (by omega)
      simp only [List.getElem_take]
      rw [List.getD_eq_getElem?_getD, List.getElem?_eq_getElem (by omega)] at h2
      by_cases hk0 : k = 0
      · subst hk0; simpa [Addr.add] using h2
      · simpa [Addr.add, hk0] using h2

theorem array5 {α : Type} {cs : Array α} (h : cs.size = 5) : ∃ c0 c1 c2 c3 c4, cs = #[c0, c1, c2, c3, c4] := by
  obtain ⟨l⟩ := cs
  match l, h with
  | [c0, c1, c2, c3, c4], _ => exact ⟨c0, c1, c2, c3, c4, rfl⟩
set_option maxRecDepth 100000 in
theorem open_track {H : Type} {enc : TypeId × Value → H} {W : World} {base : Nat} {v : Value} {d : DataW H} {p : List MemPlace} (hval : Value.okWide Tryd.prog W .any base 24 v) (h : DataW.Trod enc Tryd.prog W 0 (fun _ => true) true 24 v d p) :
    ∃ q f k A1 n1 c1 A2 n2 c2, v = .agg #[.int .i64 q, .int .i64 f, .int .i64 k, .slice A1 n1 c1, .slice A2 n2 c2] ∧ n1 ≤ maxLen ∧ n2 ≤ maxLen ∧ (n1 ≤ 1048576 → ∃ st : List Int, st.length = n1 ∧ RI W W.heap.size A1 st) ∧ (n2 ≤ 1048576 → ∃ sf : List Int, sf.length = n2 ∧ RI W W.heap.size A2 sf) := by
  obtain ⟨cs, rfl, hsz⟩ := okWide_struct Tryd.underlying24 hval
  obtain ⟨c0, c1, c2, c3, c4, rfl⟩ := array5 (hsz.trans (by kernel_rfl))
  obtain ⟨fuel, hf⟩ := h
  obtain ⟨ys, n', hn', hy, hlen, hyl, hf⟩ := DataW.trod_struct Tryd.underlying24 hf
  have e0 : Tryd.prog.cellsOf 3 = 1 := by kernel_rfl
  have e1 : Tryd.prog.cellsOf 22 = 1 := by kernel_rfl
  have h0 : DataW.trod enc Tryd.prog W 0 (fun _ => true) true n' 3 [c0] = ys[0]? := by simpa [e0, Value.cells] using hf 0 _ rfl
  have h1 : DataW.trod enc Tryd.prog W 0 (fun _ => true) true n' 3 [c1] = ys[1]? := by simpa [e0, Value.cells] using hf 1 _ rfl
  have h2 : DataW.trod enc Tryd.prog W 0 (fun _ => true) true n' 3 [c2] = ys[2]? := by simpa [e0, Value.cells] using hf 2 _ rfl
  have h3 : DataW.trod enc Tryd.prog W 0 (fun _ => true) true n' 22 [c3] = ys[3]? := by simpa [e1, Value.cells] using hf 3 _ rfl
  have h4 : DataW.trod enc Tryd.prog W 0 (fun _ => true) true n' 22 [c4] = ys[4]? := by simpa [e1, Value.cells] using hf 4 _ rfl
  obtain ⟨n0, q0, _, _⟩ := DataW.trod_int Tryd.underlying3 (h0.trans (List.getElem?_eq_getElem (by rw [hyl]; decide)))
  obtain ⟨n1, q1, _, _⟩ := DataW.trod_int Tryd.underlying3 (h1.trans (List.getElem?_eq_getElem (by rw [hyl]; decide)))
  obtain ⟨n2, q2, _, _⟩ := DataW.trod_int Tryd.underlying3 (h2.trans (List.getElem?_eq_getElem (by rw [hyl]; decide)))
  simp at q0 q1 q2
  subst q0 q1 q2
  obtain ⟨A1, m1, k1, rfl, hm1, hr1⟩ := trod_intS (h3.trans (List.getElem?_eq_getElem (by rw [hyl]; decide)))
  obtain ⟨A2, m2, k2, rfl, hm2, hr2⟩ := trod_intS (h4.trans (List.getElem?_eq_getElem (by rw [hyl]; decide)))
  exact ⟨_, _, _, A1, m1, k1, A2, m2, k2, rfl, hm1, hm2, hr1, hr2⟩

end Go.Proofs.YtmiefdjbhcpnbaaDoor

namespace Go.Proofs.YtmiefdjbhcpnbaaDoor
open Go.RowKit

/-- Four integers. -/
abbrev Qd := Int × Int × Int × Int
/-- The cells of one. -/
def cells4 (c : Qd) : List Value := [.int .i64 c.1, .int .i64 c.2.1, .int .i64 c.2.2.1, .int .i64 c.2.2.2]
def zeroQ : Qd := (0, 0, 0, 0)
/-- Four cells from an address on. -/
def quadAt (w : World) (b o : Nat) (c : Qd) : Prop :=
  w.cell? ⟨b, o, none⟩ = some (.int .i64 c.1) ∧ w.cell? ⟨b, o + 1, none⟩ = some (.int .i64 c.2.1) ∧ w.cell? ⟨b, o + 2, none⟩ = some (.int .i64 c.2.2.1) ∧ w.cell? ⟨b, o + 3, none⟩ = some (.int .i64 c.2.2.2)
theorem quadAt.below {w w' : World} {B b o : Nat} {c : Qd} (h : quadAt w b o c) (hb : Below B w w') (hB : b < B) : quadAt w' b o c :=
  ⟨(bcell hb hB).trans h.1, (bcell hb hB).trans h.2.1, (bcell hb hB).trans h.2.2.1, (bcell hb hB).trans h.2.2.2⟩

/-- A slice at A that reads as the quads L, below block B. -/
def RQ (w : World) (B : Nat) (A : Option Addr) (L : List Qd) : Prop :=
  L.length ≤ 1048576 ∧ (L = [] ∨ ∃ b off, A = some ⟨b, off, none⟩ ∧ b < B ∧ ∀ k (h : k < L.length), quadAt w b (off + k * 4) L[k])
section
variable {w w' : World} {B B' : Nat} {A : Option Addr} {L : List Qd}
theorem RQ.at_ (h : RQ w B A L) (hb : Below B w w') {k : Nat} (hk : k < L.length) : ∃ b off, A = some ⟨b, off, none⟩ ∧ b < B ∧ quadAt w' b (off + k * 4) L[k] := by
  obtain ⟨_, rfl | ⟨b, off, e, hB, hc⟩⟩ := h
  · simp at hk
  · exact ⟨b, off, e, hB, (hc k hk).below hb hB⟩
theorem RQ.below (h : RQ w B A L) (hb : Below B w w') : RQ w' B A L := by
  obtain ⟨h0, h1 | ⟨b, off, e, hB, hc⟩⟩ := h
  · exact ⟨h0, .inl h1⟩
  · exact ⟨h0, .inr ⟨b, off, e, hB, fun k hk => (hc k hk).below hb hB⟩⟩
theorem RQ.more (h : RQ w B A L) (hB : B ≤ B') : RQ w B' A L := by
  obtain ⟨h0, h1 | ⟨b, off, e, hb, hc⟩⟩ := h
  · exact ⟨h0, .inl h1⟩
  · exact ⟨h0, .inr ⟨b, off, e, by omega, hc⟩⟩
theorem RQ.go (h : RQ w w.heap.size A L) (hb : Below w.heap.size w w') : RQ w' w'.heap.size A L := (h.below hb).more hb.size
/-- A part of a slice. -/
theorem RQ.part (h : RQ w B A L) {b off : Nat} (hA : A = some ⟨b, off, none⟩) (i m : Nat) (him : i + m ≤ L.length) : RQ w B (some ⟨b, off + i * 4, none⟩) ((L.drop i).take m) := by
  obtain ⟨h0, h1⟩ := h
  refine ⟨by simp; omega, ?_⟩
  rcases h1 with rfl | ⟨b', off', e, hb, hc⟩
  · left; simp
  · rw [hA] at e
    injection e with e; injection e with e1 e2 _
    subst e1 e2
    refine .inr ⟨b, off + i * 4, rfl, hb, fun k hk => ?_⟩
    have hk' : k < m ∧ i + k < L.length := by simp at hk; omega
    have := hc (i + k) hk'.2
    rw [show off + i * 4 + k * 4 = off + (i + k) * 4 by omega]
    simpa using this
end
/-- Block g begins with n quads, the k-th being F k. -/
def RowQ (w : World) (g : Nat) (t : TypeId) (n : Nat) (F : Nat → Qd) : Prop :=
  ∃ cs, w.heap[g]? = some (.cells cs t (0, 0)) ∧ n * 4 ≤ cs.size ∧ ∀ k < n, cs[k * 4]? = some (.int .i64 (F k).1) ∧ cs[k * 4 + 1]? = some (.int .i64 (F k).2.1) ∧ cs[k * 4 + 2]? = some (.int .i64 (F k).2.2.1) ∧ cs[k * 4 + 3]? = some (.int .i64 (F k).2.2.2)
section
variable {w w' : World} {g : Nat} {t : TypeId} {n : Nat} {F G : Nat → Qd}
theorem RowQ.lt (h : RowQ w g t n F) : g < w.heap.size := by obtain ⟨cs, h, _⟩ := h; exact heap_lt h
theorem RowQ.quad (h : RowQ w g t n F) {k : Nat} (hk : k < n) : quadAt w g (k * 4) (F k) := by
  obtain ⟨cs, h, _, hc⟩ := h
  exact ⟨(cell_of_row w g _ cs t (0, 0) h).trans (hc k hk).1, (cell_of_row w g _ cs t (0, 0) h).trans (hc k hk).2.1, (cell_of_row w g _ cs t (0, 0) h).trans (hc k hk).2.2.1, (cell_of_row w g _ cs t (0, 0) h).trans (hc k hk).2.2.2⟩
theorem RowQ.free (h : RowQ w g t n F) (i : Nat) : w.frozen? ⟨g, i, none⟩ = false := by obtain ⟨cs, h, _⟩ := h; exact frozen_row h
theorem RowQ.keep (h : RowQ w g t n F) (hb : w'.heap[g]? = w.heap[g]?) : RowQ w' g t n F := by obtain ⟨cs, h, r⟩ := h; exact ⟨cs, hb.trans h, r⟩
theorem RowQ.below {B : Nat} (h : RowQ w g t n F) (hb : Below B w w') (hg : g < B) : RowQ w' g t n F := h.keep (hb.block g hg)
theorem RowQ.alloc (h : RowQ w g t n F) (o : Obj) : RowQ (w.alloc o) g t n F := h.keep (Below.heap_alloc w o g h.lt)
theorem RowQ.drew (h : RowQ w g t n F) : RowQ w.drew g t n F := h
theorem RowQ.far (h : RowQ w g t n F) {p : Addr} (hp : g ≠ p.block) (u : Value) : RowQ (w.setCell p u) g t n F := h.keep (Below.heap_setCell w p u g hp)
theorem RowQ.grown {row : Option Nat} (h : RowQ w g t n F) (hg : w.grownBy w' row) (hne : some g ≠ row) : RowQ w' g t n F := h.keep (hg.block g h.lt hne)
theorem RowQ.congr (h : RowQ w g t n F) (he : ∀ k < n, F k = G k) : RowQ w g t n G := by
  obtain ⟨cs, h, hs, hc⟩ := h; exact ⟨cs, h, hs, fun k hk => by rw [← he k hk]; exact hc k hk⟩
theorem RowQ.less (h : RowQ w g t n F) {m : Nat} (hm : m ≤ n) : RowQ w g t m F := by
  obtain ⟨cs, h, hs, hc⟩ := h; exact ⟨cs, h, by omega, fun k hk => hc k (by omega)⟩
/-- All four cells of one are written. -/
theorem RowQ.set (h : RowQ w g t n F) {k : Nat} (hk : k < n) (a b c d : Int) :
    RowQ ((((w.setCell ⟨g, k * 4, none⟩ (.int .i64 a)).setCell ⟨g, k * 4 + 1, none⟩ (.int .i64 b)).setCell ⟨g, k * 4 + 2, none⟩ (.int .i64 c)).setCell ⟨g, k * 4 + 3, none⟩ (.int .i64 d)) g t n (fun i => if i = k then (a, b, c, d) else F i) := by
  obtain ⟨cs, h, hs, hc⟩ := h
  refine ⟨_, heap_set _ g _ _ t _ (heap_set _ g _ _ t _ (heap_set _ g _ _ t _ (heap_set _ g _ _ t _ h))), by simpa using hs, fun i hi => ?_⟩
  have h1 := hc i hi
  by_cases e : i = k
  · subst e
    simp [Array.getElem?_setIfInBounds]
    omega
  · simp only [e, if_false]
    refine ⟨?_, ?_, ?_, ?_⟩
    · rw [Array.getElem?_setIfInBounds_ne (by omega), Array.getElem?_setIfInBounds_ne (by omega), Array.getElem?_setIfInBounds_ne (by omega), Array.getElem?_setIfInBounds_ne (by omega)]; exact h1.1
    · rw [Array.getElem?_setIfInBounds_ne (by omega), Array.getElem?_setIfInBounds_ne (by omega), Array.getElem?_setIfInBounds_ne (by omega), Array.getElem?_setIfInBounds_ne (by omega)]; exact h1.2.1
    · rw [Array.getElem?_setIfInBounds_ne (by omega), Array.getElem?_setIfInBounds_ne (by omega), Array.getElem?_setIfInBounds_ne (by omega), Array.getElem?_setIfInBounds_ne (by omega)]; exact h1.2.2.1
    · rw [Array.getElem?_setIfInBounds_ne (by omega), Array.getElem?_setIfInBounds_ne (by omega), Array.getElem?_setIfInBounds_ne (by omega), Array.getElem?_setIfInBounds_ne (by omega)]; exact h1.2.2.2
theorem RowQ.rq {A : Option Addr} {L : List Qd} (h : RowQ w g t L.length (fun k => L.getD k zeroQ)) (hA : A = some ⟨g, 0, none⟩) (hl : L.length ≤ 1048576) : RQ w w.heap.size A L :=
  ⟨hl, .inr ⟨g, 0, hA, h.lt, fun k hk => by
    have h1 := h.quad hk
    simp only [List.getD_eq_getElem?_getD, List.getElem?_eq_getElem hk, Option.getD_some] at h1
    rw [Nat.zero_add]; exact h1⟩⟩
/-- A slice of n quads that the call itself made, from block lo on; empty: nothing is asked. -/
def OQ (w : World) (lo : Nat) (t : TypeId) (A : Option Addr) (n : Nat) (F : Nat → Qd) : Prop := n = 0 ∨ ∃ g, A = some ⟨g, 0, none⟩ ∧ lo ≤ g ∧ RowQ w g t n F
theorem OQ.get {lo : Nat} {A : Option Addr} (h : OQ w lo t A n F) {k : Nat} (hk : k < n) : ∃ g, A = some ⟨g, 0, none⟩ ∧ lo ≤ g ∧ RowQ w g t n F := by
  rcases h with h | h
  · omega
  · exact h
theorem OQ.below {lo B : Nat} {A : Option Addr} (h : OQ w lo t A n F) (hb : Below B w w') (hB : w.heap.size ≤ B) : OQ w' lo t A n F := by
  rcases h with h | ⟨g, e, hl, h⟩
  · exact .inl h
  · exact .inr ⟨g, e, hl, h.below hb (Nat.lt_of_lt_of_le h.lt hB)⟩
theorem OQ.grown {lo : Nat} {A : Option Addr} {row : Option Nat} (h : OQ w lo t A n F) (hg : w.grownBy w' row) (hne : ∀ g, row = some g → g < lo) : OQ w' lo t A n F := by
  rcases h with h | ⟨g, e, hl, h⟩
  · exact .inl h
  · exact .inr ⟨g, e, hl, h.grown hg (fun e => by have := hne g e.symm; omega)⟩
theorem OQ.congr {lo : Nat} {A : Option Addr} (h : OQ w lo t A n F) (he : ∀ k < n, F k = G k) : OQ w lo t A n G := by
  rcases h with h | ⟨g, e, hl, h⟩
  · exact .inl h
  · exact .inr ⟨g, e, hl, h.congr he⟩
theorem OQ.from_ {lo lo' : Nat} {A : Option Addr} (h : OQ w lo t A n F) (hl : lo' ≤ lo) : OQ w lo' t A n F := by
  rcases h with h | ⟨g, e, h1, h⟩
  · exact .inl h
  · exact .inr ⟨g, e, by omega, h⟩
theorem OQ.rq {lo : Nat} {A : Option Addr} {L : List Qd} (h : OQ w lo t A L.length (fun k => L.getD k zeroQ)) (hl : L.length ≤ 1048576) : RQ w w.heap.size A L := by
  rcases h with h | ⟨g, e, _, h⟩
  · exact ⟨hl, .inl (List.length_eq_zero_iff.1 h)⟩
  · exact h.rq e hl
/-- The cells of quads, one behind the other. -/
def flatQ (L : List Qd) : List Value := L.flatMap cells4
theorem flatQ_app (a b : List Qd) : flatQ (a ++ b) = flatQ a ++ flatQ b := by simp [flatQ]
theorem flatQ_len : ∀ L : List Qd, (flatQ L).length = L.length * 4
  | [] => rfl
  | c :: t => by rw [show flatQ (c :: t) = cells4 c ++ flatQ t from rfl, List.length_append, flatQ_len t]; simp [cells4]; omega
theorem flatQ_at : ∀ (L : List Qd) (k : Nat) (hk : k < L.length), (flatQ L)[k * 4]? = some (.int .i64 L[k].1) ∧ (flatQ L)[k * 4 + 1]? = some (.int .i64 L[k].2.1) ∧ (flatQ L)[k * 4 + 2]? = some (.int .i64 L[k].2.2.1) ∧ (flatQ L)[k * 4 + 3]? = some (.int .i64 L[k].2.2.2)
  | [], k, hk => by simp at hk
  | c :: t, 0, _ => by simp [flatQ, cells4]
  | c :: t, k + 1, hk => by
    have := flatQ_at t k (by simpa using hk)
    have e : flatQ (c :: t) = .int .i64 c.1 :: .int .i64 c.2.1 :: .int .i64 c.2.2.1 :: .int .i64 c.2.2.2 :: flatQ t := rfl
    rw [e, show (k + 1) * 4 = k * 4 + 1 + 1 + 1 + 1 from by omega]
    simpa using this
/-- A slice of quads that owns its row, as append leaves it. -/
theorem own_oq {base n : Nat} {v : Value} {xs : List Qd} (h : w.ownsRow base t 4 v n (flatQ xs)) (hn : xs.length = n) : ∃ A c, v = .slice A xs.length c ∧ OQ w base t A xs.length (fun k => xs.getD k zeroQ) := by
  subst hn
  obtain ⟨h0, ⟨rfl, hz⟩ | ⟨g, cap, cs, rfl, hg, hh, hn, _, hsz, htk⟩⟩ := h
  · exact ⟨none, 0, by rw [hz], .inl hz⟩
  · refine ⟨_, cap, rfl, .inr ⟨g, rfl, hg, cs, hh, by rw [hsz]; exact Nat.mul_le_mul_right 4 hn, fun k hk => ?_⟩⟩
    have hat : ∀ i, i < xs.length * 4 → cs[i]? = (flatQ xs)[i]? := fun i hi => by
      have : (cs.toList.take (xs.length * 4))[i]? = (flatQ xs)[i]? := by rw [htk]
      rw [List.getElem?_take_of_lt hi, Array.getElem?_toList] at this
      exact this
    have hf := flatQ_at xs k hk
    rw [hat _ (by omega), hat _ (by omega), hat _ (by omega), hat _ (by omega), hf.1, hf.2.1, hf.2.2.1, hf.2.2.2]
    simp [List.getElem?_eq_getElem hk]
/-- A new row of zeros. -/
theorem madeQ {base : Nat} {A : Option Addr} {c : Nat} (h : w.ownsRow base t 4 (.slice A n c) n (madeCells #[.int .i64 0, .int .i64 0, .int .i64 0, .int .i64 0] (n * 4)).toList) (hA : A = some ⟨g, 0, none⟩) : RowQ w g t n (fun _ => zeroQ) := by
  obtain ⟨h0, ⟨hv, _⟩ | ⟨g', cap, cs, hv, _, hh, hn, _, hsz, htk⟩⟩ := h
  · subst hA; injection hv with hv; cases hv
  · subst hA
    injection hv with hv _ _
    injection hv with hv; injection hv with hv _ _
    subst hv
    have hcs : ∀ i < n * 4, cs[i]? = some (.int .i64 0) := fun i hi => by
      have : (cs.toList.take (n * 4))[i]? = (madeCells #[.int .i64 0, .int .i64 0, .int .i64 0, .int .i64 0] (n * 4)).toList[i]? := by rw [htk]
      rw [List.getElem?_take_of_lt hi, Array.getElem?_toList, Array.getElem?_toList] at this
      rw [this]
      have hm : i % 4 = 0 ∨ i % 4 = 1 ∨ i % 4 = 2 ∨ i % 4 = 3 := by omega
      rcases hm with hm | hm | hm | hm <;> simp [madeCells, hi, hm]
    refine ⟨cs, hh, by rw [hsz]; exact Nat.mul_le_mul_right 4 hn, fun k hk => ⟨hcs _ (by omega), hcs _ (by omega), hcs _ (by omega), hcs _ (by omega)⟩⟩
end
end Go.Proofs.YtmiefdjbhcpnbaaDoor

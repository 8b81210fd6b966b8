/-
  Rows of boards that the call itself made: each board four cells, its jumps a slice that reads. Over any program. Rows of boards written in place: a block that begins with boards; stores of one, the rest cleared. Over any program.
-/
import Derived.Test.YtjngiinfpoappaaWRow
namespace Go.Proofs.Ytjngiinfpoappaa
open Go.RowKit

/-- A board: squares, faces, over; its jumps. -/
abbrev Brd := (Int × Int × Int) × List (Int × Int)
/-- A board and the value of its jumps. -/
abbrev Bv := Brd × Value
def cellsB (x : Bv) : List Value := [.int .i64 x.1.1.1, .int .i64 x.1.1.2.1, .int .i64 x.1.1.2.2, x.2]
def flatB (L : List Bv) : List Value := L.flatMap cellsB
theorem flatB_app (a b : List Bv) : flatB (a ++ b) = flatB a ++ flatB b := by simp [flatB]
theorem flatB_snoc (a : List Bv) (x : Bv) : flatB (a ++ [x]) = flatB a ++ cellsB x := by simp [flatB]
theorem flatB_len : ∀ L : List Bv, (flatB L).length = L.length * 4
  | [] => rfl
  | c :: t => by rw [show flatB (c :: t) = cellsB c ++ flatB t from rfl, List.length_append, flatB_len t]; simp [cellsB]; omega
theorem flatB_at : ∀ (L : List Bv) (k : Nat) (hk : k < L.length), (flatB L)[k * 4]? = some (.int .i64 L[k].1.1.1) ∧ (flatB L)[k * 4 + 1]? = some (.int .i64 L[k].1.1.2.1) ∧ (flatB L)[k * 4 + 2]? = some (.int .i64 L[k].1.1.2.2) ∧ (flatB L)[k * 4 + 3]? = some L[k].2
  | [], k, hk => by simp at hk
  | c :: t, 0, _ => by simp [flatB, cellsB]
  | c :: t, k + 1, hk => by
    have := flatB_at t k (by simpa using hk)
    have e : flatB (c :: t) = .int .i64 c.1.1.1 :: .int .i64 c.1.1.2.1 :: .int .i64 c.1.1.2.2 :: c.2 :: flatB t := rfl
    rw [e, show (k + 1) * 4 = k * 4 + 1 + 1 + 1 + 1 from by omega]
    simpa using this
/-- A value that is a slice of jumps in a row of its own, of type tj, from block lo on. -/
def JV (w : World) (lo : Nat) (tj : TypeId) (js : List (Int × Int)) (v : Value) : Prop := ∃ A c, v = .slice A js.length c ∧ js.length ≤ c ∧ OJ w lo tj A js.length (fun k => js.getD k (0, 0))
section
variable {w w' : World} {lo : Nat} {t tj : TypeId} {js : List (Int × Int)} {v : Value}
theorem JV.go (h : JV w lo tj js v) (hb : Below w.heap.size w w') : JV w' lo tj js v := by obtain ⟨A, c, e, hc, ho⟩ := h; exact ⟨A, c, e, hc, ho.below hb (Nat.le_refl _)⟩
theorem JV.one (h : JV w lo tj js v) : v.oneCell' = true := by obtain ⟨A, c, rfl, _⟩ := h; rfl
/-- No jumps. -/
theorem JV.nil (w : World) (lo : Nat) (tj : TypeId) : JV w lo tj [] (.slice none 0 0) := ⟨Option.none, 0, rfl, Nat.le_refl _, .inl rfl⟩
/-- A row of another type has grown: the jumps have stayed. -/
theorem JV.grown {base n : Nat} {v0 : Value} {xs : List Value} (h : JV w lo tj js v) (ho : w.ownsRow base t 4 v0 n xs) (hg : w.grownBy w' v0.ownBlock) (ht : tj ≠ t) : JV w' lo tj js v := by
  obtain ⟨A, c, e, hc, hj⟩ := h
  refine ⟨A, c, e, hc, ?_⟩
  rcases hj with h0 | ⟨g, eA, hl, hr⟩
  · exact .inl h0
  · refine .inr ⟨g, eA, hl, hr.grown hg fun hne => ?_⟩
    obtain ⟨cs, hh, _⟩ := hr
    rcases ho.2 with ⟨rfl, _⟩ | ⟨g', cap, cs', rfl, _, hh', _⟩
    · simp [Value.ownBlock] at hne
    · simp only [Value.ownBlock] at hne
      injection hne with hne
      subst hne
      rw [hh'] at hh
      injection hh with hh
      injection hh with _ hh _
      exact ht hh.symm
end
/-- A slice v of boards (rows of type t) in a row of the call's own, from block lo on; their jumps lie in rows from block lj on. -/
def OwnB (w : World) (lo lj : Nat) (t tj : TypeId) (v : Value) (L : List Brd) : Prop :=
  ∃ xs : List Bv, xs.map (·.1) = L ∧ w.ownsRow lo t 4 v L.length (flatB xs) ∧ ∀ x ∈ xs, JV w lj tj x.1.2 x.2
section
variable {w w' : World} {lo lj : Nat} {t tj : TypeId} {v : Value} {L : List Brd}
theorem OwnB.nil (w : World) (lo lj : Nat) (t tj : TypeId) : OwnB w lo lj t tj (.slice none 0 0) [] := ⟨[], rfl, World.ownsRow_nil _ _ _ _, fun x hx => by cases hx⟩
theorem OwnB.go (h : OwnB w lo lj t tj v L) (hb : Below w.heap.size w w') : OwnB w' lo lj t tj v L := by
  obtain ⟨xs, e, ho, hx⟩ := h
  exact ⟨xs, e, own_below ho hb, fun x hm => (hx x hm).go hb⟩
theorem OwnB.slice (h : OwnB w lo lj t tj v L) : ∃ A c, v = .slice A L.length c ∧ L.length ≤ c := by
  obtain ⟨xs, _, ho, _⟩ := h
  rcases ho.2 with ⟨rfl, h0⟩ | ⟨g', cap, cs, rfl, _, _, hn, _⟩
  · exact ⟨none, 0, by rw [h0], by omega⟩
  · exact ⟨_, _, rfl, hn⟩
/-- The k-th board reads. -/
theorem OwnB.at_ (h : OwnB w lo lj t tj v L) {k : Nat} (hk : k < L.length) : ∃ g c vk, v = .slice (some ⟨g, 0, none⟩) L.length c ∧ lo ≤ g ∧ g < w.heap.size ∧ JV w lj tj L[k].2 vk ∧
    w.cell? ⟨g, k * 4, none⟩ = some (.int .i64 L[k].1.1) ∧ w.cell? ⟨g, k * 4 + 1, none⟩ = some (.int .i64 L[k].1.2.1) ∧ w.cell? ⟨g, k * 4 + 2, none⟩ = some (.int .i64 L[k].1.2.2) ∧ w.cell? ⟨g, k * 4 + 3, none⟩ = some vk := by
  obtain ⟨xs, e, ho, hx⟩ := h
  have hlen : xs.length = L.length := by rw [← e]; simp
  have hkx : k < xs.length := by omega
  have ek : L[k] = xs[k].1 := by simp [← e]
  rcases ho.2 with ⟨_, h0⟩ | ⟨g, cap, cs, rfl, hg, hh, hn, _, hsz, htk⟩
  · omega
  · refine ⟨g, cap, xs[k].2, rfl, hg, heap_lt hh, by rw [ek]; exact hx _ (List.getElem_mem hkx), ?_⟩
    have hat : ∀ i, i < xs.length * 4 → w.cell? ⟨g, i, none⟩ = (flatB xs)[i]? := fun i hi => by
      rw [cell_of_row w g i _ _ _ hh]
      have : (cs.toList.take (L.length * 4))[i]? = (flatB xs)[i]? := by rw [htk]
      rw [List.getElem?_take_of_lt (by omega), Array.getElem?_toList] at this
      exact this
    have hf := flatB_at xs k hkx
    rw [ek, hat _ (by omega), hat _ (by omega), hat _ (by omega), hat _ (by omega)]
    exact hf
/-- One board more, as append leaves it. -/
theorem OwnB.snoc {v0 v' : Value} {xs : List Bv} {x : Bv} (e : xs.map (·.1) = L) (ho : w.ownsRow lo t 4 v0 L.length (flatB xs)) (hxs : ∀ y ∈ xs, JV w lj tj y.1.2 y.2) (hx : JV w lj tj x.1.2 x.2) (hg : w.grownBy w' v0.ownBlock) (ht : tj ≠ t)
    (h : w'.ownsRow lo t 4 v' (L.length + 1) (flatB xs ++ cellsB x)) : OwnB w' lo lj t tj v' (L ++ [x.1]) := by
  refine ⟨xs ++ [x], by simp [e], by rw [flatB_snoc, List.length_append]; exact h, fun y hy => ?_⟩
  rcases List.mem_append.1 hy with hy | hy
  · exact (hxs y hy).grown ho hg ht
  · obtain rfl := List.mem_singleton.1 hy
    exact hx.grown ho hg ht
theorem cellsB_new (w : World) (t : TypeId) (x : Bv) (g : Nat) (hg : g = w.heap.size) : ∀ (j : Nat) u, (cellsB x)[j]? = some u → (w.alloc (.cells #[.int .i64 x.1.1.1, .int .i64 x.1.1.2.1, .int .i64 x.1.1.2.2, x.2] t)).cell? ((⟨g, 0, none⟩ : Addr).add j) = some u := by
  intro j u hu
  rw [Addr.add_lit, Nat.zero_add, cell_of_row _ g j _ _ _ (heap_alloc_at w _ g hg)]
  simpa [cellsB] using hu
theorem cellsB_one (x : Bv) (h : x.2.oneCell' = true) : ∀ u ∈ cellsB x, u.oneCell' = true := by
  intro u hu
  simp only [cellsB, List.mem_cons, List.not_mem_nil, or_false] at hu
  rcases hu with rfl | rfl | rfl | rfl
  · rfl
  · rfl
  · rfl
  · exact h
end
end Go.Proofs.Ytjngiinfpoappaa

namespace Go.Proofs.Ytjngiinfpoappaa
open Go.RowKit

/-- Block b, of room for cap boards, begins with the boards zs. -/
def RV (w : World) (b : Nat) (t : TypeId) (cap : Nat) (zs : List Bv) : Prop :=
  ∃ cs, w.heap[b]? = some (.cells cs t (0, 0)) ∧ cs.size = cap * 4 ∧ zs.length ≤ cap ∧ cs.toList.take (zs.length * 4) = flatB zs
theorem flatB_set (x : Bv) : ∀ (zs : List Bv) (k : Nat), ((((flatB zs).set (k * 4) (.int .i64 x.1.1.1)).set (k * 4 + 1) (.int .i64 x.1.1.2.1)).set (k * 4 + 2) (.int .i64 x.1.1.2.2)).set (k * 4 + 3) x.2 = flatB (zs.set k x)
  | [], k => by simp [flatB]
  | c :: t, 0 => by simp [flatB, cellsB]
  | c :: t, k + 1 => by
    have := flatB_set x t k
    have e : flatB (c :: t) = .int .i64 c.1.1.1 :: .int .i64 c.1.1.2.1 :: .int .i64 c.1.1.2.2 :: c.2 :: flatB t := rfl
    have e2 : flatB ((c :: t).set (k + 1) x) = .int .i64 c.1.1.1 :: .int .i64 c.1.1.2.1 :: .int .i64 c.1.1.2.2 :: c.2 :: flatB (t.set k x) := rfl
    rw [e, e2, ← this, show (k + 1) * 4 = k * 4 + 1 + 1 + 1 + 1 from by omega, show k * 4 + 1 + 1 + 1 + 1 + 1 = (k * 4 + 1) + 1 + 1 + 1 + 1 from rfl, show k * 4 + 1 + 1 + 1 + 1 + 2 = (k * 4 + 2) + 1 + 1 + 1 + 1 from by omega, show k * 4 + 1 + 1 + 1 + 1 + 3 = (k * 4 + 3) + 1 + 1 + 1 + 1 from by omega]
    simp only [List.set_cons_succ]
section
variable {w w' : World} {b : Nat} {t : TypeId} {cap : Nat} {zs : List Bv}
theorem RV.lt (h : RV w b t cap zs) : b < w.heap.size := by obtain ⟨cs, h, _⟩ := h; exact heap_lt h
theorem RV.free (h : RV w b t cap zs) (i : Nat) : w.frozen? ⟨b, i, none⟩ = false := by obtain ⟨cs, h, _⟩ := h; exact frozen_row h
theorem RV.keep (h : RV w b t cap zs) (hb : w'.heap[b]? = w.heap[b]?) : RV w' b t cap zs := by obtain ⟨cs, h, r⟩ := h; exact ⟨cs, hb.trans h, r⟩
theorem RV.below {B : Nat} (h : RV w b t cap zs) (hb : Below B w w') (hg : b < B) : RV w' b t cap zs := h.keep (hb.block b hg)
theorem RV.alloc (h : RV w b t cap zs) (o : Obj) : RV (w.alloc o) b t cap zs := h.keep (Below.heap_alloc w o b h.lt)
theorem RV.at_ (h : RV w b t cap zs) {k : Nat} (hk : k < zs.length) : w.cell? ⟨b, k * 4, none⟩ = some (.int .i64 zs[k].1.1.1) ∧ w.cell? ⟨b, k * 4 + 1, none⟩ = some (.int .i64 zs[k].1.1.2.1) ∧ w.cell? ⟨b, k * 4 + 2, none⟩ = some (.int .i64 zs[k].1.1.2.2) ∧ w.cell? ⟨b, k * 4 + 3, none⟩ = some zs[k].2 := by
  obtain ⟨cs, hh, hs, hn, htk⟩ := h
  have hat : ∀ i, i < zs.length * 4 → w.cell? ⟨b, i, none⟩ = (flatB zs)[i]? := fun i hi => by
    rw [cell_of_row w b i _ _ _ hh]
    have : (cs.toList.take (zs.length * 4))[i]? = (flatB zs)[i]? := by rw [htk]
    rw [List.getElem?_take_of_lt (by omega), Array.getElem?_toList] at this
    exact this
  have hf := flatB_at zs k hk
  rw [hat _ (by omega), hat _ (by omega), hat _ (by omega), hat _ (by omega)]
  exact hf
/-- One board is written. -/
theorem RV.set (h : RV w b t cap zs) (k : Nat) (x : Bv) :
    RV ((((w.setCell ⟨b, k * 4, none⟩ (.int .i64 x.1.1.1)).setCell ⟨b, k * 4 + 1, none⟩ (.int .i64 x.1.1.2.1)).setCell ⟨b, k * 4 + 2, none⟩ (.int .i64 x.1.1.2.2)).setCell ⟨b, k * 4 + 3, none⟩ x.2) b t cap (zs.set k x) := by
  obtain ⟨cs, h, hs, hn, htk⟩ := h
  refine ⟨_, heap_set _ b _ _ t _ (heap_set _ b _ _ t _ (heap_set _ b _ _ t _ (heap_set _ b _ _ t _ h))), by simpa using hs, by simpa using hn, ?_⟩
  rw [List.length_set, ← flatB_set, ← htk]
  simp only [Array.toList_setIfInBounds, List.take_set]
/-- The rest is cleared. -/
theorem RV.less (h : RV w b t cap zs) (i : Nat) : RV w b t cap (zs.take i) := by
  obtain ⟨cs, h, hs, hn, htk⟩ := h
  refine ⟨cs, h, hs, by simp; omega, ?_⟩
  have e : flatB zs = flatB (zs.take i) ++ flatB (zs.drop i) := by rw [← flatB_app, List.take_append_drop]
  have hl : (zs.take i).length * 4 = (flatB (zs.take i)).length := (flatB_len _).symm
  have h2 : cs.toList.take ((zs.take i).length * 4) = (cs.toList.take (zs.length * 4)).take ((zs.take i).length * 4) := by
    rw [List.take_take, Nat.min_eq_left (by simp; omega)]
  rw [h2, htk, e, hl, List.take_left]
/-- A row of another type has changed: the jumps have stayed. -/
theorem JV.grownT {lo : Nat} {tj : TypeId} {js : List (Int × Int)} {v : Value} (h : JV w lo tj js v) (hr : RV w b t cap zs) (hg : w.grownBy w' (some b)) (ht : tj ≠ t) : JV w' lo tj js v := by
  obtain ⟨A, c, e, hc, hj⟩ := h
  refine ⟨A, c, e, hc, ?_⟩
  rcases hj with h0 | ⟨g, eA, hl, hrj⟩
  · exact .inl h0
  · refine .inr ⟨g, eA, hl, hrj.grown hg fun hne => ?_⟩
    obtain ⟨cs, hh, _⟩ := hrj
    obtain ⟨cs', hh', _⟩ := hr
    injection hne with hne
    subst hne
    rw [hh'] at hh
    injection hh with hh
    injection hh with _ hh _
    exact ht hh.symm
theorem OwnB.rv {lo lj : Nat} {tj : TypeId} {v : Value} {L : List Brd} (h : OwnB w lo lj t tj v L) (hL : 0 < L.length) : ∃ b cap xs, v = .slice (some ⟨b, 0, none⟩) L.length cap ∧ lo ≤ b ∧ cap ≤ maxLen ∧ L.length ≤ cap ∧ xs.map (·.1) = L ∧ RV w b t cap xs ∧ ∀ x ∈ xs, JV w lj tj x.1.2 x.2 := by
  obtain ⟨xs, e, ho, hx⟩ := h
  have hlen : xs.length = L.length := by rw [← e]; simp
  rcases ho.2 with ⟨_, h0⟩ | ⟨g, cap, cs, rfl, hg, hh, hn, hm, hsz, htk⟩
  · omega
  · exact ⟨g, cap, xs, rfl, hg, hm, hn, e, ⟨cs, hh, hsz, by omega, by rw [hlen]; exact htk⟩, hx⟩
theorem RV.own {lo lj : Nat} {tj : TypeId} (h : RV w b t cap zs) (hlo : lo ≤ b) (hm : cap ≤ maxLen) (hx : ∀ x ∈ zs, JV w lj tj x.1.2 x.2) : OwnB w lo lj t tj (.slice (some ⟨b, 0, none⟩) (zs.map (·.1)).length cap) (zs.map (·.1)) := by
  obtain ⟨cs, hh, hs, hn, htk⟩ := h
  refine ⟨zs, rfl, ⟨by rw [flatB_len]; simp, .inr ⟨b, cap, cs, rfl, hlo, hh, by simpa using hn, hm, hs, ?_⟩⟩, hx⟩
  simpa using htk
end
end Go.Proofs.Ytjngiinfpoappaa

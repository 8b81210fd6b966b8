/-
  Rows of booleans that the call itself made, and arrays of 101 of them. Over any program.
-/
import Derived.Test.YteogfondnpfklaaWBig
namespace Go.Proofs.Yteogfondnpfklaa
open Go.RowKit

/-- Block g begins with n booleans, the k-th being F k. -/
def RowB (w : World) (g : Nat) (t : TypeId) (n : Nat) (F : Nat → Bool) : Prop :=
  ∃ cs, w.heap[g]? = some (.cells cs t (0, 0)) ∧ n ≤ cs.size ∧ ∀ k < n, cs[k]? = some (.bool (F k))
section
variable {w w' : World} {g : Nat} {t : TypeId} {n : Nat} {F G : Nat → Bool}
theorem RowB.lt (h : RowB w g t n F) : g < w.heap.size := by obtain ⟨cs, h, _⟩ := h; exact heap_lt h
theorem RowB.cell (h : RowB w g t n F) {k : Nat} (hk : k < n) : w.cell? ⟨g, k, none⟩ = some (.bool (F k)) := by
  obtain ⟨cs, h, _, hc⟩ := h; exact (cell_of_row w g _ cs t (0, 0) h).trans (hc k hk)
theorem RowB.free (h : RowB w g t n F) (i : Nat) : w.frozen? ⟨g, i, none⟩ = false := by obtain ⟨cs, h, _⟩ := h; exact frozen_row h
theorem RowB.keep (h : RowB w g t n F) (hb : w'.heap[g]? = w.heap[g]?) : RowB w' g t n F := by obtain ⟨cs, h, r⟩ := h; exact ⟨cs, hb.trans h, r⟩
theorem RowB.below {B : Nat} (h : RowB w g t n F) (hb : Below B w w') (hg : g < B) : RowB w' g t n F := h.keep (hb.block g hg)
theorem RowB.alloc (h : RowB w g t n F) (o : Obj) : RowB (w.alloc o) g t n F := h.keep (Below.heap_alloc w o g h.lt)
theorem RowB.drew (h : RowB w g t n F) : RowB w.drew g t n F := h
theorem RowB.far (h : RowB w g t n F) {p : Addr} (hp : g ≠ p.block) (u : Value) : RowB (w.setCell p u) g t n F := h.keep (Below.heap_setCell w p u g hp)
theorem RowB.grown {row : Option Nat} (h : RowB w g t n F) (hg : w.grownBy w' row) (hne : some g ≠ row) : RowB w' g t n F := h.keep (hg.block g h.lt hne)
theorem RowB.congr (h : RowB w g t n F) (he : ∀ k < n, F k = G k) : RowB w g t n G := by
  obtain ⟨cs, h, hs, hc⟩ := h; exact ⟨cs, h, hs, fun k hk => by rw [← he k hk]; exact hc k hk⟩
theorem RowB.set (h : RowB w g t n F) {k : Nat} (hk : k < n) (a : Bool) : RowB (w.setCell ⟨g, k, none⟩ (.bool a)) g t n (fun i => if i = k then a else F i) := by
  obtain ⟨cs, h, hs, hc⟩ := h
  refine ⟨_, heap_set _ g _ _ t _ h, by simpa using hs, fun i hi => ?_⟩
  have h1 := hc i hi
  by_cases e : i = k
  · subst e
    simp [Array.getElem?_setIfInBounds]
    omega
  · have e1 : ¬ k = i := fun h => e h.symm
    simp [e, e1, h1]
theorem madeB {base : Nat} {A : Option Addr} {c : Nat} (h : w.ownsRow base t 1 (.slice A n c) n (madeCells #[.bool false] (n * 1)).toList) (hA : A = some ⟨g, 0, none⟩) : RowB w g t n (fun _ => false) := by
  obtain ⟨h0, ⟨hv, _⟩ | ⟨g', cap, cs, hv, _, hh, hn, _, hsz, htk⟩⟩ := h
  · subst hA; injection hv with hv; cases hv
  · subst hA
    injection hv with hv _ _
    injection hv with hv; injection hv with hv _ _
    subst hv
    refine ⟨cs, hh, by omega, fun k hk => ?_⟩
    have : (cs.toList.take (n * 1))[k]? = (madeCells #[.bool false] (n * 1)).toList[k]? := by rw [htk]
    rw [List.getElem?_take_of_lt (by omega), Array.getElem?_toList, Array.getElem?_toList] at this
    rw [this]
    simp [madeCells, hk, Nat.mod_one]
end
/-- 101 booleans. -/
def arrT (P : Nat → Bool) : Array Value := ((List.range 101).map (fun i => Value.bool (P i))).toArray
theorem arrT_size (P : Nat → Bool) : (arrT P).size = 101 := by simp [arrT]
theorem arrT_at (P : Nat → Bool) {i : Nat} (hi : i < 101) : (arrT P)[i]? = some (.bool (P i)) := by simp [arrT, hi]
theorem arrT_one (P : Nat → Bool) : ∀ u ∈ (arrT P).toList, u.oneCell' = true := by
  intro u hu
  simp only [arrT, List.mem_map] at hu
  obtain ⟨i, _, rfl⟩ := hu
  rfl
theorem arrT_set (P : Nat → Bool) {k : Nat} (hk : k < 101) (v : Bool) : (arrT P).setIfInBounds k (.bool v) = arrT (fun i => if i = k then v else P i) := by
  apply Array.ext_getElem?
  intro i
  rw [Array.getElem?_setIfInBounds, arrT_size]
  by_cases hi : k = i
  · subst hi
    rw [if_pos rfl, if_pos hk, arrT_at _ hk, if_pos rfl]
  · rw [if_neg hi]
    by_cases hj : i < 101
    · rw [arrT_at _ hj, arrT_at _ hj, if_neg (fun e => hi e.symm)]
    · rw [Array.getElem?_eq_none (by rw [arrT_size]; omega), Array.getElem?_eq_none (by rw [arrT_size]; omega)]
/-- A slice of numbers that owns its row, written out. -/
theorem own_open {w : World} {t base n : Nat} {v : Value} {xs : List Nat} (h : w.ownsRow base t 1 v n (xs.map (fun i : Nat => Value.int .i64 i))) (hn : xs.length = n) (h0 : 0 < n) :
    ∃ g c, v = .slice (some ⟨g, 0, none⟩) n c ∧ base ≤ g ∧ n ≤ c ∧ g < w.heap.size ∧ ∀ k (hk : k < xs.length), w.cell? ⟨g, k, none⟩ = some (.int .i64 (xs[k] : Nat)) := by
  subst hn
  obtain ⟨_, ⟨rfl, hz⟩ | ⟨g, cap, cs, rfl, hg, hh, hn, _, hsz, htk⟩⟩ := h
  · omega
  · refine ⟨g, cap, rfl, hg, hn, heap_lt hh, fun k hk => ?_⟩
    have : (cs.toList.take (xs.length * 1))[k]? = (xs.map (fun i : Nat => Value.int .i64 i))[k]? := by rw [htk]
    rw [List.getElem?_take_of_lt (by omega), Array.getElem?_toList] at this
    rw [cell_of_row w g _ cs t (0, 0) hh, this]
    simp [List.getElem?_eq_getElem hk]
theorem results_cell1k {P : Program} {fn : Func} {p : Tmp} {ty : TypeId} (h : fn.results = #[.cell p ty]) (tmps : Array Value) (w : World) (g : Nat) (t : TypeId) (cs : Array Value) (fr : Nat × Nat) (d : TypeDesc)
    (hp : tmps.getD p undef = .pointer (some ⟨g, 0, none⟩)) (hg : w.heap[g]? = some (.cells cs t fr))
    (hu : P.underlying ty = some d) (hd : (match d with | .struct _ | .array _ _ => true | _ => false) = true) (hi : (P.info? ty).map (·.size) = some cs.size) :
    (results fn tmps).run P w = .ok (.agg cs) w := by
  have hp' : tmps[p]?.getD undef = .pointer (some ⟨g, 0, none⟩) := by simpa using hp
  simp [results, h, hp', asAddr, run_loadVar_row w g t ty cs fr d hg hu hd hi]
end Go.Proofs.Yteogfondnpfklaa

/- Several texts, one behind the other: WBig WB WThr C1i C6a. -/
import Derived.Laws.CopyRow
import Derived.Deep.WholeRow
import Derived.Test.YtnohpclaccaijabChecked
import Derived.BigQuiet
import Derived.Deep.QuietTactic
import Derived.Deep.CutRange
import Derived.Test.YtnohpclaccaijabZdaa

namespace Go.Proofs.Ytnohpclaccaijab
open Go.RowKit

theorem grownBy_setRow (w : World) (g : Nat) (cs : Array Value) : w.grownBy (w.setRow g cs) (some g) :=
  ⟨rfl, rfl, rfl, by simp, fun k _ hne => by
    have hk : ¬ k = g := fun e => hne (by rw [e])
    simp [World.setRow, Array.getElem?_modify, Ne.symm hk]⟩

section
variable {P : Program} {ops : Array Oper} {rest : List Oper} {o : Oper} {a : Act} {w : World} {Q : Exit → Act → World → Prop}
/-- A whole struct is stored into a block of its own. -/
theorem wpList_store_row (hgd : o.guard = none) (ty : TypeId) (x v : Operand) (ho : o.op = .store ty x v) (g : Nat) (hx : a.eval x = .pointer (some ⟨g, 0, none⟩)) (t : TypeId) (cur vs : Array Value)
    (hv : a.eval v = .agg vs) (hg : w.heap[g]? = some (.cells cur t (0, 0))) (hs : vs.size = cur.size) (hi : (P.info? ty).map (·.size) = some vs.size) (h1 : ∀ u ∈ vs.toList, u.oneCell' = true)
    (h : ∀ w', w'.heap[g]? = some (.cells vs t (0, 0)) → w.grownBy w' (some g) → w'.heap.size = w.heap.size → wpList P ops Q rest (a.put o.dst undef) w') : wpList P ops Q (o :: rest) a w := by
  refine wpList_plain hgd fun K hK => ?_
  have hst := run_storeCells_at (P := P) g 0 t vs.toList 0 cur w hg (by simp [hs]) h1
  have hst' : (storeCells ⟨g, 0, none⟩ vs.toList 0).run P w = .ok () (w.setRow g vs) := by
    rw [hst]
    congr 2
    apply Array.ext'
    simp [hs]
  cases hq : P.info? ty with
  | none => simp [hq] at hi
  | some i =>
    have hsz : i.size = vs.size := by simpa [hq] using hi
    unfold Oper.wp execOp
    simp only [ho, hx, hv, Instr.storeAt, Instr.sureAddr, storeVar, Value.cells, Sem.run_bind, Sem.run_pure, Result.andThen_ok]
    simp [sizeOf, typeInfo, hq, hsz, hst', Sem.run_bind, Result.andThen]
    exact hK _ _ (h _ (setRow_heap w g cur vs t (0, 0) hg) (grownBy_setRow w g vs) (by simp))
end

/-- Two results: a struct in a block of its own, and a slot. -/
theorem results_cell_slot {P : Program} {fn : Func} {p q : Tmp} {ty : TypeId} (h : fn.results = #[.cell p ty, .tmp q]) (tmps : Array Value) (w : World) (g : Nat) (t : TypeId) (cs : Array Value) (fr : Nat × Nat) (d : TypeDesc) (v : Value)
    (hp : tmps.getD p undef = .pointer (some ⟨g, 0, none⟩)) (hv : tmps.getD q undef = v) (hg : w.heap[g]? = some (.cells cs t fr))
    (hu : P.underlying ty = some d) (hd : (match d with | .struct _ | .array _ _ => true | _ => false) = true) (hi : (P.info? ty).map (·.size) = some cs.size) :
    (results fn tmps).run P w = .ok (.tuple #[.agg cs, v]) w := by
  have hp' : tmps[p]?.getD undef = .pointer (some ⟨g, 0, none⟩) := by simpa using hp
  have hv' : tmps[q]?.getD undef = v := by simpa using hv
  simp [results, h, hp', hv', asAddr, run_loadVar_row w g t ty cs fr d hg hu hd hi]

/-- The cells of a course: its squares, faces and Over, and where a token goes from each of 101 squares. -/
def crsCells (s f o : Int) (G : Nat → Int) : Array Value := ([Value.int .i64 s, .int .i64 f, .int .i64 o] ++ (List.range 101).map (fun i => Value.int .i64 (G i))).toArray
theorem crs_size (s f o : Int) (G : Nat → Int) : (crsCells s f o G).size = 104 := by simp [crsCells]
theorem crs_0 (s f o : Int) (G : Nat → Int) : (crsCells s f o G)[0]? = some (.int .i64 s) := rfl
theorem crs_1 (s f o : Int) (G : Nat → Int) : (crsCells s f o G)[1]? = some (.int .i64 f) := rfl
theorem crs_2 (s f o : Int) (G : Nat → Int) : (crsCells s f o G)[2]? = some (.int .i64 o) := rfl
theorem crs_at (s f o : Int) (G : Nat → Int) (i : Nat) (hi : i < 101) : (crsCells s f o G)[3 + i]? = some (.int .i64 (G i)) := by
  simp only [crsCells, List.getElem?_toArray]
  rw [List.getElem?_append_right (by simp)]
  simp [hi]
theorem crs_one (s f o : Int) (G : Nat → Int) : ∀ u ∈ (crsCells s f o G).toList, u.oneCell' = true := by
  intro u hu
  simp only [crsCells, List.mem_append, List.mem_map] at hu
  rcases hu with hu | ⟨i, _, rfl⟩
  · simp at hu
    rcases hu with rfl | rfl | rfl <;> rfl
  · rfl
theorem crs_set (s f o : Int) (G : Nat → Int) (i : Nat) (hi : i < 101) (v : Int) : (crsCells s f o G).setIfInBounds (3 + i) (.int .i64 v) = crsCells s f o (fun j => if j = i then v else G j) := by
  apply Array.ext_getElem?
  intro k
  rw [Array.getElem?_setIfInBounds, crs_size]
  by_cases hk : 3 + i = k
  · subst hk
    rw [if_pos rfl, if_pos (by omega), crs_at _ _ _ _ _ hi, if_pos rfl]
  · rw [if_neg hk]
    rcases Nat.lt_or_ge k 3 with h3 | h3
    · match k, h3 with
      | 0, _ => rfl
      | 1, _ => rfl
      | 2, _ => rfl
    · obtain ⟨j, rfl⟩ : ∃ j, k = 3 + j := ⟨k - 3, by omega⟩
      by_cases hj : j < 101
      · rw [crs_at _ _ _ _ _ hj, crs_at _ _ _ _ _ hj, if_neg (by omega)]
      · rw [Array.getElem?_eq_none (by rw [crs_size]; omega), Array.getElem?_eq_none (by rw [crs_size]; omega)]
theorem crs_congr (s f o : Int) {G G' : Nat → Int} (h : ∀ i < 101, G i = G' i) : crsCells s f o G = crsCells s f o G' := by
  unfold crsCells
  rw [List.map_congr_left (fun i hi => by rw [h i (by simpa using hi)])]
end Go.Proofs.Ytnohpclaccaijab

namespace Go.Proofs.Ytnohpclaccaijab
open Go.RowKit

/-- Block g begins with n booleans, the k-th being F k. -/
def RowB (w : World) (g : Nat) (t : TypeId) (n : Nat) (F : Nat → Bool) : Prop :=
  ∃ cs, w.heap[g]? = some (.cells cs t (0, 0)) ∧ n ≤ cs.size ∧ ∀ k < n, cs[k]? = some (.bool (F k))
section
variable {w w' : World} {g : Nat} {t : TypeId} {n : Nat} {F G : Nat → Bool}
theorem RowB.lt (h : RowB w g t n F) : g < w.heap.size := by obtain ⟨cs, h, _⟩ := h; exact heap_lt h
theorem RowB.cell (h : RowB w g t n F) {k : Nat} (hk : k < n) : w.cell? ⟨g, k, none⟩ = some (.bool (F k)) := by
  obtain ⟨cs, h, _, hc⟩ := h; exact (cell_of_row w g _ cs t (0, 0) h).trans (hc k hk)
theorem RowB.free (h : RowB w g t n F) (i : Nat) : w.frozen? ⟨g, i, none⟩ = false := by obtain ⟨cs, h, _⟩ := h; exact frozen_row h
theorem RowB.keep (h : RowB w g t n F) (hb : w'.heap[g]? = w.heap[g]?) : RowB w' g t n F := by obtain ⟨cs, h, r⟩ := h; exact ⟨cs, hb.trans h, r⟩
theorem RowB.below {B : Nat} (h : RowB w g t n F) (hb : Below B w w') (hg : g < B) : RowB w' g t n F := h.keep (hb.block g hg)
theorem RowB.alloc (h : RowB w g t n F) (o : Obj) : RowB (w.alloc o) g t n F := h.keep (Below.heap_alloc w o g h.lt)
theorem RowB.drew (h : RowB w g t n F) : RowB w.drew g t n F := h
theorem RowB.far (h : RowB w g t n F) {p : Addr} (hp : g ≠ p.block) (u : Value) : RowB (w.setCell p u) g t n F := h.keep (Below.heap_setCell w p u g hp)
theorem RowB.grown {row : Option Nat} (h : RowB w g t n F) (hg : w.grownBy w' row) (hne : some g ≠ row) : RowB w' g t n F := h.keep (hg.block g h.lt hne)
theorem RowB.congr (h : RowB w g t n F) (he : ∀ k < n, F k = G k) : RowB w g t n G := by
  obtain ⟨cs, h, hs, hc⟩ := h; exact ⟨cs, h, hs, fun k hk => by rw [← he k hk]; exact hc k hk⟩
theorem RowB.set (h : RowB w g t n F) {k : Nat} (hk : k < n) (a : Bool) : RowB (w.setCell ⟨g, k, none⟩ (.bool a)) g t n (fun i => if i = k then a else F i) := by
  obtain ⟨cs, h, hs, hc⟩ := h
  refine ⟨_, heap_set _ g _ _ t _ h, by simpa using hs, fun i hi => ?_⟩
  have h1 := hc i hi
  by_cases e : i = k
  · subst e
    simp [Array.getElem?_setIfInBounds]
    omega
  · have e1 : ¬ k = i := fun h => e h.symm
    simp [e, e1, h1]
theorem madeB {base : Nat} {A : Option Addr} {c : Nat} (h : w.ownsRow base t 1 (.slice A n c) n (madeCells #[.bool false] (n * 1)).toList) (hA : A = some ⟨g, 0, none⟩) : RowB w g t n (fun _ => false) := by
  obtain ⟨h0, ⟨hv, _⟩ | ⟨g', cap, cs, hv, _, hh, hn, _, hsz, htk⟩⟩ := h
  · subst hA; injection hv with hv; cases hv
  · subst hA
    injection hv with hv _ _
    injection hv with hv; injection hv with hv _ _
    subst hv
    refine ⟨cs, hh, by omega, fun k hk => ?_⟩
    have : (cs.toList.take (n * 1))[k]? = (madeCells #[.bool false] (n * 1)).toList[k]? := by rw [htk]
    rw [List.getElem?_take_of_lt (by omega), Array.getElem?_toList, Array.getElem?_toList] at this
    rw [this]
    simp [madeCells, hk, Nat.mod_one]
end
/-- 101 booleans. -/
def arrT (P : Nat → Bool) : Array Value := ((List.range 101).map (fun i => Value.bool (P i))).toArray
theorem arrT_size (P : Nat → Bool) : (arrT P).size = 101 := by simp [arrT]
theorem arrT_at (P : Nat → Bool) {i : Nat} (hi : i < 101) : (arrT P)[i]? = some (.bool (P i)) := by simp [arrT, hi]
theorem arrT_one (P : Nat → Bool) : ∀ u ∈ (arrT P).toList, u.oneCell' = true := by
  intro u hu
  simp only [arrT, List.mem_map] at hu
  obtain ⟨i, _, rfl⟩ := hu
  rfl
theorem arrT_set (P : Nat → Bool) {k : Nat} (hk : k < 101) (v : Bool) : (arrT P).setIfInBounds k (.bool v) = arrT (fun i => if i = k then v else P i) := by
  apply Array.ext_getElem?
  intro i
  rw [Array.getElem?_setIfInBounds, arrT_size]
  by_cases hi : k = i
  · subst hi
    rw [if_pos rfl, if_pos hk, arrT_at _ hk, if_pos rfl]
  · rw [if_neg hi]
    by_cases hj : i < 101
    · rw [arrT_at _ hj, arrT_at _ hj, if_neg (fun e => hi e.symm)]
    · rw [Array.getElem?_eq_none (by rw [arrT_size]; omega), Array.getElem?_eq_none (by rw [arrT_size]; omega)]
/-- A slice of numbers that owns its row, written out. -/
theorem own_open {w : World} {t base n : Nat} {v : Value} {xs : List Nat} (h : w.ownsRow base t 1 v n (xs.map (fun i : Nat => Value.int .i64 i))) (hn : xs.length = n) (h0 : 0 < n) :
    ∃ g c, v = .slice (some ⟨g, 0, none⟩) n c ∧ base ≤ g ∧ n ≤ c ∧ g < w.heap.size ∧ ∀ k (hk : k < xs.length), w.cell? ⟨g, k, none⟩ = some (.int .i64 (xs[k] : Nat)) := by
  subst hn
  obtain ⟨_, ⟨rfl, hz⟩ | ⟨g, cap, cs, rfl, hg, hh, hn, _, hsz, htk⟩⟩ := h
  · omega
  · refine ⟨g, cap, rfl, hg, hn, heap_lt hh, fun k hk => ?_⟩
    have : (cs.toList.take (xs.length * 1))[k]? = (xs.map (fun i : Nat => Value.int .i64 i))[k]? := by rw [htk]
    rw [List.getElem?_take_of_lt (by omega), Array.getElem?_toList] at this
    rw [cell_of_row w g _ cs t (0, 0) hh, this]
    simp [List.getElem?_eq_getElem hk]
theorem results_cell1k {P : Program} {fn : Func} {p : Tmp} {ty : TypeId} (h : fn.results = #[.cell p ty]) (tmps : Array Value) (w : World) (g : Nat) (t : TypeId) (cs : Array Value) (fr : Nat × Nat) (d : TypeDesc)
    (hp : tmps.getD p undef = .pointer (some ⟨g, 0, none⟩)) (hg : w.heap[g]? = some (.cells cs t fr))
    (hu : P.underlying ty = some d) (hd : (match d with | .struct _ | .array _ _ => true | _ => false) = true) (hi : (P.info? ty).map (·.size) = some cs.size) :
    (results fn tmps).run P w = .ok (.agg cs) w := by
  have hp' : tmps[p]?.getD undef = .pointer (some ⟨g, 0, none⟩) := by simpa using hp
  simp [results, h, hp', asAddr, run_loadVar_row w g t ty cs fr d hg hu hd hi]
end Go.Proofs.Ytnohpclaccaijab

namespace Go.Proofs.Ytnohpclaccaijab
open Go.RowKit

def thC (T : Nat → Nat) : Array Value := ((List.range 8).map (fun i => Value.int .i64 (T i))).toArray
def updT (T : Nat → Nat) (a v : Nat) : Nat → Nat := fun i => if i = a then v else T i
section
variable {S T : Nat → Nat}
theorem thC_size (T : Nat → Nat) : (thC T).size = 8 := by simp [thC]
theorem thC_at (T : Nat → Nat) {i : Nat} (hi : i < 8) : (thC T)[i]? = some (.int .i64 (T i)) := by simp [thC, hi]
theorem thC_one (T : Nat → Nat) : ∀ u ∈ (thC T).toList, u.oneCell' = true := by
  intro u hu
  simp only [thC, List.mem_map] at hu
  obtain ⟨i, _, rfl⟩ := hu
  rfl
theorem thC_congr (h : ∀ i < 8, S i = T i) : thC S = thC T := by
  apply Array.ext_getElem?
  intro i
  by_cases hi : i < 8
  · rw [thC_at S hi, thC_at T hi, h i hi]
  · rw [Array.getElem?_eq_none (by rw [thC_size]; omega), Array.getElem?_eq_none (by rw [thC_size]; omega)]
theorem thC_set (T : Nat → Nat) {a : Nat} (ha : a < 8) (v : Nat) : (thC T).setIfInBounds a (.int .i64 v) = thC (updT T a v) := by
  apply Array.ext_getElem?
  intro i
  rw [Array.getElem?_setIfInBounds, thC_size]
  by_cases hi : a = i
  · subst hi
    rw [if_pos rfl, if_pos ha, thC_at _ ha]
    simp [updT]
  · rw [if_neg hi]
    by_cases hj : i < 8
    · rw [thC_at _ hj, thC_at _ hj]
      have : ¬ i = a := fun e => hi e.symm
      simp [updT, this]
    · rw [Array.getElem?_eq_none (by rw [thC_size]; omega), Array.getElem?_eq_none (by rw [thC_size]; omega)]
end
/-- Block g is a throw. -/
def TA (w : World) (g : Nat) (t : TypeId) (T : Nat → Nat) : Prop := w.heap[g]? = some (.cells (thC T) t (0, 0))
section
variable {w w' : World} {g B : Nat} {t : TypeId} {S T : Nat → Nat}
theorem TA.lt (h : TA w g t T) : g < w.heap.size := heap_lt h
theorem TA.at_ (h : TA w g t T) {i : Nat} (hi : i < 8) : w.cell? ⟨g, i, none⟩ = some (.int .i64 (T i)) := (cell_of_row _ _ _ _ _ _ h).trans (thC_at T hi)
theorem TA.free (h : TA w g t T) (i : Nat) : w.frozen? ⟨g, i, none⟩ = false := frozen_row h
theorem TA.keep (h : TA w g t T) (hb : w'.heap[g]? = w.heap[g]?) : TA w' g t T := hb.trans h
theorem TA.below (h : TA w g t T) (hb : Below B w w') (hg : g < B) : TA w' g t T := (hb.block g hg).trans h
theorem TA.grown {row : Option Nat} (h : TA w g t T) (hg : w.grownBy w' row) (hne : some g ≠ row) : TA w' g t T := (hg.block g h.lt hne).trans h
theorem TA.alloc (h : TA w g t T) (o : Obj) : TA (w.alloc o) g t T := (Below.heap_alloc w o g h.lt).trans h
theorem TA.drewN (h : TA w g t T) (n : Nat) : TA (w.drewN n) g t T := h
theorem TA.far (h : TA w g t T) {p : Addr} (hp : g ≠ p.block) (u : Value) : TA (w.setCell p u) g t T := h.keep (Below.heap_setCell w p u g hp)
theorem TA.set (h : TA w g t T) {a : Nat} (ha : a < 8) (v : Nat) : TA (w.setCell ⟨g, a, none⟩ (.int .i64 v)) g t (updT T a v) := by
  have := heap_set w g a _ _ (.int .i64 v) h
  rw [thC_set T ha] at this
  exact this
theorem TA.congr (h : TA w g t T) (he : ∀ i < 8, S i = T i) : TA w g t S := by
  unfold TA at h ⊢
  rw [h, thC_congr he]
end
theorem zeroThr : (#[.int .i64 0, .int .i64 0, .int .i64 0, .int .i64 0, .int .i64 0, .int .i64 0, .int .i64 0, .int .i64 0] : Array Value) = thC (fun _ => 0) := by kernel_rfl
end Go.Proofs.Ytnohpclaccaijab

namespace Go.Proofs.Ytnohpclaccaijab
open Go.RowKit

theorem infoInt1 : (Try.prog.info? 3).map (fun i => (i.zero, i.size, i.bytes)) = some (some (.int .i64 0), 1, 8) := by kernel_rfl
theorem cell_new1 (w : World) (v : Value) (t : TypeId) : ∀ (j : Nat) u, [v][j]? = some u → (w.alloc (.cells #[v] t)).cell? ((⟨w.heap.size, 0, none⟩ : Addr).add j) = some u := by
  intro j u h
  match j, h with
  | 0, h => simp at h; subst h; simp [Addr.add, World.cell?_alloc_at _ _ _ _ rfl]
theorem one_int (x : Int) : ∀ u ∈ [Value.int .i64 x], u.oneCell' = true := by intro u hu; simp at hu; subst hu; rfl

/-- What LandingsOf hands back. -/
def IntsBack (w : World) (R : List Int × Bool) (e : Ending) (w' : World) : Prop :=
  ∃ A' c', e = .returned (.tuple #[.slice A' R.1.length c', .bool R.2]) ∧ OI w' w.heap.size 3 A' R.1.length (fun k => R.1.getD k 0) ∧ Below w.heap.size w w'
end Go.Proofs.Ytnohpclaccaijab

namespace Go.Proofs.Ytnohpclaccaijab
open Go.RowKit

def cupB (d f : Int) : Bool := decide (1 ≤ d ∧ d ≤ 8 ∧ 1 ≤ f ∧ f ≤ 12)
theorem cupB_iff {d f : Int} : cupB d f = true ↔ 1 ≤ d ∧ d ≤ 8 ∧ 1 ≤ f ∧ f ≤ 12 := by simp [cupB]
theorem cupB_nat {d f : Int} (h : cupB d f = true) : ∃ m n : Nat, d = m ∧ f = n ∧ 1 ≤ m ∧ m ≤ 8 ∧ 1 ≤ n ∧ n ≤ 12 := by
  have := cupB_iff.1 h
  exact ⟨d.toNat, f.toNat, by omega, by omega, by omega, by omega, by omega, by omega⟩

theorem cupOf_yes (d f : Int) (w : World) (h : cupB d f = true) :
    Calls Try.prog 58 #[.int .i64 d, .int .i64 f] w fun e w' => e = .returned (.tuple #[.agg #[.int .i64 d, .int .i64 f], .bool true]) ∧ Below w.heap.size w w' := by
  obtain ⟨h1, h2, h3, h4⟩ := cupB_iff.1 h
  clear h
  go_enter Try.func58, Try.ntmps58
  go_wp2
  exact bodyPost_ret (v := .tuple #[.agg #[.int .i64 d, .int .i64 f], .bool true]) (by simp [results, Try.results58, go_sem]) rfl ⟨rfl, below1 _ _⟩
theorem cupOf_no (d f : Int) (w : World) (h : cupB d f = false) :
    Calls Try.prog 58 #[.int .i64 d, .int .i64 f] w fun e w' => e = .returned (.tuple #[.agg #[.int .i64 0, .int .i64 0], .bool false]) ∧ Below w.heap.size w w' := by
  have hn : d < 1 ∨ 8 < d ∨ f < 1 ∨ 12 < f := by
    have : ¬ (1 ≤ d ∧ d ≤ 8 ∧ 1 ≤ f ∧ f ≤ 12) := fun e => by rw [cupB_iff.2 e] at h; cases h
    omega
  clear h
  by_cases h1 : d < 1
  · go_enter Try.func58, Try.ntmps58
    go_wp2
    exact bodyPost_ret (v := .tuple #[.agg #[.int .i64 0, .int .i64 0], .bool false]) (by simp [results, Try.results58, go_sem]) rfl ⟨rfl, below1 _ _⟩
  by_cases h2 : 8 < d
  · go_enter Try.func58, Try.ntmps58
    go_wp2
    exact bodyPost_ret (v := .tuple #[.agg #[.int .i64 0, .int .i64 0], .bool false]) (by simp [results, Try.results58, go_sem]) rfl ⟨rfl, below1 _ _⟩
  by_cases h3 : f < 1
  · go_enter Try.func58, Try.ntmps58
    go_wp2
    exact bodyPost_ret (v := .tuple #[.agg #[.int .i64 0, .int .i64 0], .bool false]) (by simp [results, Try.results58, go_sem]) rfl ⟨rfl, below1 _ _⟩
  have h4 : 12 < f := by omega
  go_enter Try.func58, Try.ntmps58
  go_wp2
  exact bodyPost_ret (v := .tuple #[.agg #[.int .i64 0, .int .i64 0], .bool false]) (by simp [results, Try.results58, go_sem]) rfl ⟨rfl, below1 _ _⟩

def sumB (s : Int) : Bool := decide (0 ≤ s ∧ s ≤ 200)
theorem sumB_iff {s : Int} : sumB s = true ↔ 0 ≤ s ∧ s ≤ 200 := by simp [sumB]
theorem isSum_any (s : Int) (w : World) : Calls Try.prog 66 #[.int .i64 s] w fun e w' => e = .returned (.bool (sumB s)) ∧ w = w' := by
  by_cases h : 0 ≤ s
  · have hb : sumB s = decide (s ≤ 200) := by simp [sumB, h]
    rw [hb]
    clear hb
    go_enter Try.func66, Try.ntmps66
    go_wp2
    go_ret
    exact ⟨rfl, rfl⟩
  · have hb : sumB s = false := by simp [sumB, h]
    rw [hb]
    clear hb
    go_enter Try.func66, Try.ntmps66
    go_wp2
    go_ret
    exact ⟨rfl, rfl⟩

theorem sizeThr : (Try.prog.info? 67).map (·.size) = some 8 := by kernel_rfl
set_option maxRecDepth 100000 in
set_option maxHeartbeats 400000 in
theorem alike_any (d f face : Nat) (w : World) (hd : d ≤ 8) :
    Calls Try.prog 95 #[.agg #[.int .i64 d, .int .i64 f], .int .i64 face] w fun e w' => e = .returned (.agg (thC (fun i => if i < d then face else 0))) ∧ Below w.heap.size w w' := by
  have hz := zeroThr
  go_enter Try.func95, Try.ntmps95
  go_wp2_with fail
  go_loopw [6, 9] (fun _ i wr => ∃ k : Nat, k ≤ d ∧ i = .int .i64 k ∧ Below w.heap.size w wr ∧ TA wr (w.heap.size + 1) 67 (fun _ => 0) ∧ TA wr (w.heap.size + 2) 67 (fun i => if i < k then face else 0)) (fun _ i _ => d - (intOf i).toNat)
  case atStart => exact ⟨0, Nat.zero_le _, rfl, below3 _ _ _ _, (Below.heap_alloc _ _ _ (by simp)).trans (heap_alloc_at _ _ _ (by simp)), TA.congr (T := fun _ => 0) (heap_alloc_at _ _ _ (by simp)) (fun i _ => by simp)⟩
  case round =>
    obtain ⟨k, hk, rfl, hB, hR, hT⟩ := hrel
    have hk8 : (k : Int) < 8 ∨ ¬ k < d := by omega
    have cd := hB
    by_cases hlt : k < d
    · have c1 := hT.at_ (show k < 8 by omega)
      have c2 := hT.free k
      have hk8 : (k : Int) < 8 := by omega
      go_wp2
      go_roundw
      case rel => exact ⟨k + 1, by omega, by go_num, hB.setCell (show w.heap.size ≤ w.heap.size + 1 + 1 by omega) _, hR.far (by simp) _, (hT.set (by omega) face).congr (fun i _ => by simp only [updT]; by_cases h1 : i = k <;> by_cases h2 : i < k <;> simp [h1, h2] <;> omega)⟩
      case measure => simp [intOf]; omega
    · obtain rfl : k = d := by omega
      go_wp2_with (first | (refine wpList_load_row rfl 67 (.tmp 5) rfl (w.heap.size + 2) rfl _ _ _ _ hT Try.underlying67 rfl ?_ ?_; (rw [thC_size]; exact sizeThr)) | (refine wpList_store_row rfl 67 (.tmp 4) (.tmp 16) rfl (w.heap.size + 1) rfl _ _ _ rfl hR ?_ ?_ (thC_one _) ?_; (rw [thC_size, thC_size]); (rw [thC_size]; exact sizeThr); intro w4 hC4 hg4 hs4))
      exact bodyPost_ret (v := .agg (thC (fun i => if i < k then face else 0))) (results_cell1k Try.results95 _ _ _ _ _ _ _ rfl hC4 Try.underlying67 rfl (by rw [thC_size]; exact sizeThr)) rfl
        ⟨rfl, hB.grown hg4 hB.size (fun k h => by cases h; omega)⟩
end Go.Proofs.Ytnohpclaccaijab

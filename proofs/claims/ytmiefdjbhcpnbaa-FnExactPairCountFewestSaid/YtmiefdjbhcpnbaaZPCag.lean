/- Several texts, one behind the other: C1i WB WRows WSeek C5m C5c. -/
import Derived.Test.YtmiefdjbhcpnbaaChecked
import Derived.Maps.AppendAt
import Derived.Test.YtmiefdjbhcpnbaaZPCad
import Derived.Test.YtmiefdjbhcpnbaaZPCaf

namespace Go.Proofs.Ytmiefdjbhcpnbaa
open Go.RowKit

theorem infoInt1 : (Try.prog.info? 3).map (fun i => (i.zero, i.size, i.bytes)) = some (some (.int .i64 0), 1, 8) := by kernel_rfl
theorem cell_new1 (w : World) (v : Value) (t : TypeId) : ∀ (j : Nat) u, [v][j]? = some u → (w.alloc (.cells #[v] t)).cell? ((⟨w.heap.size, 0, none⟩ : Addr).add j) = some u := by
  intro j u h
  match j, h with
  | 0, h => simp at h; subst h; simp [Addr.add, World.cell?_alloc_at _ _ _ _ rfl]
theorem one_int (x : Int) : ∀ u ∈ [Value.int .i64 x], u.oneCell' = true := by intro u hu; simp at hu; subst hu; rfl

/-- What LandingsOf hands back. -/
def IntsBack (w : World) (R : List Int × Bool) (e : Ending) (w' : World) : Prop :=
  ∃ A' c', e = .returned (.tuple #[.slice A' R.1.length c', .bool R.2]) ∧ OI w' w.heap.size 3 A' R.1.length (fun k => R.1.getD k 0) ∧ Below w.heap.size w w'
end Go.Proofs.Ytmiefdjbhcpnbaa

namespace Go.Proofs.Ytmiefdjbhcpnbaa
open Go.RowKit

/-- Block g begins with n booleans, the k-th being F k. -/
def RowB (w : World) (g : Nat) (t : TypeId) (n : Nat) (F : Nat → Bool) : Prop :=
  ∃ cs, w.heap[g]? = some (.cells cs t (0, 0)) ∧ n ≤ cs.size ∧ ∀ k < n, cs[k]? = some (.bool (F k))
section
variable {w w' : World} {g : Nat} {t : TypeId} {n : Nat} {F G : Nat → Bool}
theorem RowB.lt (h : RowB w g t n F) : g < w.heap.size := by obtain ⟨cs, h, _⟩ := h; exact heap_lt h
theorem RowB.cell (h : RowB w g t n F) {k : Nat} (hk : k < n) : w.cell? ⟨g, k, none⟩ = some (.bool (F k)) := by
  obtain ⟨cs, h, _, hc⟩ := h; exact (cell_of_row w g _ cs t (0, 0) h).trans (hc k hk)
theorem RowB.free (h : RowB w g t n F) (i : Nat) : w.frozen? ⟨g, i, none⟩ = false := by obtain ⟨cs, h, _⟩ := h; exact frozen_row h
theorem RowB.keep (h : RowB w g t n F) (hb : w'.heap[g]? = w.heap[g]?) : RowB w' g t n F := by obtain ⟨cs, h, r⟩ := h; exact ⟨cs, hb.trans h, r⟩
theorem RowB.below {B : Nat} (h : RowB w g t n F) (hb : Below B w w') (hg : g < B) : RowB w' g t n F := h.keep (hb.block g hg)
theorem RowB.alloc (h : RowB w g t n F) (o : Obj) : RowB (w.alloc o) g t n F := h.keep (Below.heap_alloc w o g h.lt)
theorem RowB.drew (h : RowB w g t n F) : RowB w.drew g t n F := h
theorem RowB.far (h : RowB w g t n F) {p : Addr} (hp : g ≠ p.block) (u : Value) : RowB (w.setCell p u) g t n F := h.keep (Below.heap_setCell w p u g hp)
theorem RowB.grown {row : Option Nat} (h : RowB w g t n F) (hg : w.grownBy w' row) (hne : some g ≠ row) : RowB w' g t n F := h.keep (hg.block g h.lt hne)
theorem RowB.congr (h : RowB w g t n F) (he : ∀ k < n, F k = G k) : RowB w g t n G := by
  obtain ⟨cs, h, hs, hc⟩ := h; exact ⟨cs, h, hs, fun k hk => by rw [← he k hk]; exact hc k hk⟩
theorem RowB.set (h : RowB w g t n F) {k : Nat} (hk : k < n) (a : Bool) : RowB (w.setCell ⟨g, k, none⟩ (.bool a)) g t n (fun i => if i = k then a else F i) := by
  obtain ⟨cs, h, hs, hc⟩ := h
  refine ⟨_, heap_set _ g _ _ t _ h, by simpa using hs, fun i hi => ?_⟩
  have h1 := hc i hi
  by_cases e : i = k
  · subst e
    simp [Array.getElem?_setIfInBounds]
    omega
  · have e1 : ¬ k = i := fun h => e h.symm
    simp [e, e1, h1]
theorem madeB {base : Nat} {A : Option Addr} {c : Nat} (h : w.ownsRow base t 1 (.slice A n c) n (madeCells #[.bool false] (n * 1)).toList) (hA : A = some ⟨g, 0, none⟩) : RowB w g t n (fun _ => false) := by
  obtain ⟨h0, ⟨hv, _⟩ | ⟨g', cap, cs, hv, _, hh, hn, _, hsz, htk⟩⟩ := h
  · subst hA; injection hv with hv; cases hv
  · subst hA
    injection hv with hv _ _
    injection hv with hv; injection hv with hv _ _
    subst hv
    refine ⟨cs, hh, by omega, fun k hk => ?_⟩
    have : (cs.toList.take (n * 1))[k]? = (madeCells #[.bool false] (n * 1)).toList[k]? := by rw [htk]
    rw [List.getElem?_take_of_lt (by omega), Array.getElem?_toList, Array.getElem?_toList] at this
    rw [this]
    simp [madeCells, hk, Nat.mod_one]
end
/-- 101 booleans. -/
def arrT (P : Nat → Bool) : Array Value := ((List.range 101).map (fun i => Value.bool (P i))).toArray
theorem arrT_size (P : Nat → Bool) : (arrT P).size = 101 := by simp [arrT]
theorem arrT_at (P : Nat → Bool) {i : Nat} (hi : i < 101) : (arrT P)[i]? = some (.bool (P i)) := by simp [arrT, hi]
theorem arrT_one (P : Nat → Bool) : ∀ u ∈ (arrT P).toList, u.oneCell' = true := by
  intro u hu
  simp only [arrT, List.mem_map] at hu
  obtain ⟨i, _, rfl⟩ := hu
  rfl
theorem arrT_set (P : Nat → Bool) {k : Nat} (hk : k < 101) (v : Bool) : (arrT P).setIfInBounds k (.bool v) = arrT (fun i => if i = k then v else P i) := by
  apply Array.ext_getElem?
  intro i
  rw [Array.getElem?_setIfInBounds, arrT_size]
  by_cases hi : k = i
  · subst hi
    rw [if_pos rfl, if_pos hk, arrT_at _ hk, if_pos rfl]
  · rw [if_neg hi]
    by_cases hj : i < 101
    · rw [arrT_at _ hj, arrT_at _ hj, if_neg (fun e => hi e.symm)]
    · rw [Array.getElem?_eq_none (by rw [arrT_size]; omega), Array.getElem?_eq_none (by rw [arrT_size]; omega)]
/-- A slice of numbers that owns its row, written out. -/
theorem own_open {w : World} {t base n : Nat} {v : Value} {xs : List Nat} (h : w.ownsRow base t 1 v n (xs.map (fun i : Nat => Value.int .i64 i))) (hn : xs.length = n) (h0 : 0 < n) :
    ∃ g c, v = .slice (some ⟨g, 0, none⟩) n c ∧ base ≤ g ∧ n ≤ c ∧ g < w.heap.size ∧ ∀ k (hk : k < xs.length), w.cell? ⟨g, k, none⟩ = some (.int .i64 (xs[k] : Nat)) := by
  subst hn
  obtain ⟨_, ⟨rfl, hz⟩ | ⟨g, cap, cs, rfl, hg, hh, hn, _, hsz, htk⟩⟩ := h
  · omega
  · refine ⟨g, cap, rfl, hg, hn, heap_lt hh, fun k hk => ?_⟩
    have : (cs.toList.take (xs.length * 1))[k]? = (xs.map (fun i : Nat => Value.int .i64 i))[k]? := by rw [htk]
    rw [List.getElem?_take_of_lt (by omega), Array.getElem?_toList] at this
    rw [cell_of_row w g _ cs t (0, 0) hh, this]
    simp [List.getElem?_eq_getElem hk]
theorem results_cell1k {P : Program} {fn : Func} {p : Tmp} {ty : TypeId} (h : fn.results = #[.cell p ty]) (tmps : Array Value) (w : World) (g : Nat) (t : TypeId) (cs : Array Value) (fr : Nat × Nat) (d : TypeDesc)
    (hp : tmps.getD p undef = .pointer (some ⟨g, 0, none⟩)) (hg : w.heap[g]? = some (.cells cs t fr))
    (hu : P.underlying ty = some d) (hd : (match d with | .struct _ | .array _ _ => true | _ => false) = true) (hi : (P.info? ty).map (·.size) = some cs.size) :
    (results fn tmps).run P w = .ok (.agg cs) w := by
  have hp' : tmps[p]?.getD undef = .pointer (some ⟨g, 0, none⟩) := by simpa using hp
  simp [results, h, hp', asAddr, run_loadVar_row w g t ty cs fr d hg hu hd hi]
end Go.Proofs.Ytmiefdjbhcpnbaa

namespace Go.Proofs.Ytmiefdjbhcpnbaa
open Go.RowKit

/-- Block g holds n slices, from block base on; the y-th one owns the numbers Lst y; no two of them share a block. -/
def Rows2 (w : World) (base g : Nat) (t te : TypeId) (n : Nat) (Lst : Nat → List Nat) : Prop :=
  ∃ (cs : Array Value) (V : Nat → Value), w.heap[g]? = some (.cells cs t (0, 0)) ∧ n ≤ cs.size ∧ g < base ∧ (∀ y < n, cs[y]? = some (V y)) ∧
    (∀ y < n, w.ownsRow base te 1 (V y) (Lst y).length ((Lst y).map (fun i : Nat => Value.int .i64 i))) ∧ ∀ y < n, ∀ z < n, y ≠ z → ∀ b, (V y).ownBlock = some b → (V z).ownBlock ≠ some b
section
variable {w w1 : World} {base g : Nat} {t te : TypeId} {n : Nat} {Lst : Nat → List Nat}
theorem Rows2.lt (h : Rows2 w base g t te n Lst) : g < w.heap.size := by obtain ⟨cs, V, h, _⟩ := h; exact heap_lt h
theorem Rows2.drew (h : Rows2 w base g t te n Lst) : Rows2 w.drew base g t te n Lst := h
theorem Rows2.keep (h : Rows2 w base g t te n Lst) {row : Option Nat} (hg : w.grownBy w1 row) (hr : ∀ k, row = some k → k < base ∧ k ≠ g) : Rows2 w1 base g t te n Lst := by
  obtain ⟨cs, V, h1, h2, h3, h4, h5, h6⟩ := h
  exact ⟨cs, V, (hg.block _ (heap_lt h1) (fun e => (hr _ e.symm).2 rfl)).trans h1, h2, h3, h4, fun y hy => (h5 y hy).kept hg (by
    cases hb : (V y).ownBlock with
    | none => exact .inl rfl
    | some b =>
      refine .inr fun e => ?_
      have h7 := own_from (h5 y hy) b hb
      have := hr b e.symm
      omega), h6⟩
theorem Rows2.below (h : Rows2 w base g t te n Lst) (hx : Below w.heap.size w w1) : Rows2 w1 base g t te n Lst := by
  obtain ⟨cs, V, h1, h2, h3, h4, h5, h6⟩ := h
  exact ⟨cs, V, (hx.block _ (heap_lt h1)).trans h1, h2, h3, h4, fun y hy => own_below (h5 y hy) hx, h6⟩
theorem Rows2.alloc (h : Rows2 w base g t te n Lst) (o : Obj) : Rows2 (w.alloc o) base g t te n Lst := h.below (below1 _ _)
theorem Rows2.far (h : Rows2 w base g t te n Lst) {p : Addr} (hp : p.block < base) (hg : p.block ≠ g) (u : Value) : Rows2 (w.setCell p u) base g t te n Lst := by
  obtain ⟨cs, V, h1, h2, h3, h4, h5, h6⟩ := h
  exact ⟨cs, V, (Below.heap_setCell _ _ _ _ (Ne.symm hg)).trans h1, h2, h3, h4, fun y hy => ownsRow_setCell_below (h5 y hy) hp u, h6⟩
/-- One row, and what it is good for: an append to it. -/
theorem Rows2.row (h : Rows2 w base g t te n Lst) {y : Nat} (hy : y < n) : ∃ v, w.cell? ⟨g, y, none⟩ = some v ∧ w.frozen? ⟨g, y, none⟩ = false ∧ w.ownsRow base te 1 v (Lst y).length ((Lst y).map (fun i : Nat => Value.int .i64 i)) ∧
    ∀ (o : Obj) (w2 : World) (v' : Value) (x : Nat), (w.alloc o).grownBy w2 v.ownBlock → w2.ownsRow base te 1 v' ((Lst y).length + 1) ((Lst y).map (fun i : Nat => Value.int .i64 i) ++ [.int .i64 (x : Int)]) → (v'.ownBlock = v.ownBlock ∨ v'.ownBlock = some (w.alloc o).heap.size) → base ≤ w.heap.size →
      Rows2 (w2.setCell ⟨g, y, none⟩ v') base g t te n (fun z => if z = y then Lst y ++ [x] else Lst z) := by
  obtain ⟨cs, V, h1, h2, h3, h4, h5, h6⟩ := h
  refine ⟨V y, (cell_of_row _ _ _ _ _ _ h1).trans (h4 y hy), frozen_row h1, h5 y hy, fun o w2 v' x hg hown hb hbase => ?_⟩
  have lg := heap_lt h1
  have hg2 : w2.heap[g]? = some (.cells cs t (0, 0)) := (hg.block g (by simp; omega) (fun e => by have := own_from (h5 y hy) g e.symm; omega)).trans ((Below.heap_alloc _ _ _ lg).trans h1)
  refine ⟨cs.setIfInBounds y v', fun z => if z = y then v' else V z, heap_set _ _ _ _ _ _ hg2, by simpa using h2, h3, fun z hz => ?_, fun z hz => ?_, fun a ha b hb' hab k hk => ?_⟩
  · by_cases e : z = y
    · subst e
      simp [Array.getElem?_setIfInBounds]
      omega
    · have e1 : ¬ y = z := fun h => e h.symm
      simp [e, e1, h4 z hz]
  · by_cases e : z = y
    · simp only [e, if_true]
      rw [List.length_append, List.map_append]
      exact ownsRow_setCell_below hown h3 v'
    · simp only [e, if_false]
      exact ownsRow_setCell_below (((h5 z hz).alloc o).kept hg (by
        cases hq : (V z).ownBlock with
        | none => exact .inl rfl
        | some q => exact .inr fun he => h6 z hz y hy e q hq he.symm)) h3 v'
  · have hold : ∀ z < n, ∀ q, (V z).ownBlock = some q → q < w.heap.size := fun z hz q hq => by
      rcases (h5 z hz).2 with ⟨e, _⟩ | ⟨g', cap, cs', e, _, hh, _⟩
      · rw [e] at hq; cases hq
      · rw [e] at hq; injection hq with hq; subst hq; exact heap_lt hh
    by_cases e1 : a = y
    · have e2 : ¬ b = y := fun e => hab (by rw [e1, e])
      simp only [e1, if_true] at hk
      simp only [e2, if_false]
      intro hkb
      rcases hb with hb | hb
      · exact h6 y hy b hb' (fun e => e2 e.symm) k (by rw [← hb, hk]) hkb
      · rw [hb] at hk
        injection hk with hk
        have := hold b hb' k hkb
        simp at hk
        omega
    · simp only [e1, if_false] at hk
      by_cases e2 : b = y
      · simp only [e2, if_true]
        intro hkb
        rcases hb with hb | hb
        · exact h6 a ha y hy e1 k hk (by rw [← hb, hkb])
        · rw [hb] at hkb
          injection hkb with hkb
          have := hold a ha k hk
          simp at hkb
          omega
      · simp only [e2, if_false]
        exact h6 a ha b hb' hab k hk
/-- A new row of nil slices. -/
theorem Rows2.made {A : Option Addr} {c base0 : Nat} (h : w.ownsRow base0 t 1 (.slice A n c) n (madeCells #[.slice none 0 0] (n * 1)).toList) (hA : A = some ⟨g, 0, none⟩) (hb : g < base) : Rows2 w base g t te n (fun _ => []) := by
  obtain ⟨h0, ⟨hv, _⟩ | ⟨g', cap, cs, hv, _, hh, hn, _, hsz, htk⟩⟩ := h
  · subst hA; injection hv with hv; cases hv
  · subst hA
    injection hv with hv _ _
    injection hv with hv; injection hv with hv _ _
    subst hv
    refine ⟨cs, fun _ => .slice none 0 0, hh, by omega, hb, fun k hk => ?_, fun y _ => World.ownsRow_nil _ _ _ _, fun _ _ _ _ _ b hb => by cases hb⟩
    have : (cs.toList.take (n * 1))[k]? = (madeCells #[.slice none 0 0] (n * 1)).toList[k]? := by rw [htk]
    rw [List.getElem?_take_of_lt (by omega), Array.getElem?_toList, Array.getElem?_toList] at this
    rw [this]
    simp [madeCells, hk, Nat.mod_one]
end
end Go.Proofs.Ytmiefdjbhcpnbaa

namespace Go.Proofs.Ytmiefdjbhcpnbaa
open Go.RowKit

theorem infoBoolS : (Try.prog.info? 4).map (fun i => (i.zero, i.size, i.bytes)) = some (some (.bool false), 1, 1) := by kernel_rfl
theorem infoRowS : (Try.prog.info? 25).map (fun i => (i.zero, i.size, i.bytes)) = some (some (.slice none 0 0), 1, 24) := by kernel_rfl
theorem wantedS {o : Oper} {y : Nat → Option Bool} (hg : o.guard = none) : Region.wanted o y = true := by unfold Region.wanted; rw [hg]
/-- Numbers as cells. -/
def natS (l : List Nat) : List Value := l.map (fun i : Nat => Value.int .i64 i)
theorem cell_newS (w : World) (v : Value) (t : TypeId) {g : Nat} (hg : g = w.heap.size) : ∀ (j : Nat) u, [v][j]? = some u → (w.alloc (.cells #[v] t)).cell? ((⟨g, 0, none⟩ : Addr).add j) = some u := by subst hg; exact cell_new1 w v t
theorem natS_snoc (l : List Nat) (y : Nat) : natS (l ++ [y]) = natS l ++ [.int .i64 (y : Int)] := by simp [natS]
theorem own_sliceS {w : World} {base e size n : Nat} {v : Value} {xs : List Value} (h : w.ownsRow base e size v n xs) : ∃ A c, v = .slice A n c := by
  rcases h.2 with ⟨rfl, h0⟩ | ⟨g', cap, cs, rfl, _⟩
  · exact ⟨none, 0, by rw [h0]⟩
  · exact ⟨_, _, rfl⟩
theorem Rows2.lookS {w : World} {base g n : Nat} {t te : TypeId} {Lst : Nat → List Nat} (h : Rows2 w base g t te n Lst) {y : Nat} (hy : y < n) : ∃ A c, w.cell? ⟨g, y, none⟩ = some (.slice A (Lst y).length c) ∧
    ∀ i (hi : i < (Lst y).length), ∃ b, A = some ⟨b, 0, none⟩ ∧ base ≤ b ∧ b < w.heap.size ∧ w.cell? ⟨b, i, none⟩ = some (.int .i64 ((Lst y)[i] : Nat)) := by
  obtain ⟨v, v1, _, v3, _⟩ := h.row hy
  by_cases h0 : 0 < (Lst y).length
  · obtain ⟨b, c, rfl, h1, _, h3, h4⟩ := own_open v3 rfl h0
    exact ⟨_, c, v1, fun i hi => ⟨b, rfl, h1, h3, h4 i hi⟩⟩
  · obtain ⟨A, c, rfl⟩ := own_sliceS v3
    exact ⟨A, c, v1, fun i hi => by omega⟩
theorem own_ltS {w : World} {base e size n : Nat} {v : Value} {xs : List Value} (h : w.ownsRow base e size v n xs) : ∀ g, v.ownBlock = some g → g < w.heap.size := by
  intro g hg
  rcases h.2 with ⟨rfl, _⟩ | ⟨g', cap, cs, rfl, _, hh, _⟩
  · cases hg
  · injection hg with hg
    subst hg
    exact heap_lt hh

/-- An append to a slice of the call's own, at an operation of a region that is walked by hand, with where the new slice lies. -/
theorem wpK_append_at {P : Program} {w : World} {o : Oper} {a : Act} {K : Act → World → Prop} {Q : Exit → Act → World → Prop} (s x : Operand) (t : TypeId) (ho : o.op = .call { callee := .builtin .append, args := #[s, x], argTypes := #[t, t] })
    (base : Nat) (e : TypeId) (i : TypeInfo) (z : Value) (size bytes : Nat) (ht : P.underlying t = some (.slice e)) (hi : P.info? e = some i) (hz : i.zero = some z) (hsize : i.size = size) (hby : i.bytes = bytes) (hzs : z.cells.size = size) (hsz : 0 < size)
    (v : Value) (n : Nat) (xs : List Value) (hs : a.eval s = v) (hown : w.ownsRow base e size v n xs) (ad : Addr) (m c : Nat) (news : List Value) (hx : a.eval x = .slice (some ad) m c) (hl : news.length = m * size) (hnews : ∀ j u, news[j]? = some u → w.cell? (ad.add j) = some u) (h1 : ∀ u ∈ news, u.oneCell' = true)
    (h63 : n + m ≤ maxLen) (hbytes : (n + m) * bytes ≤ 140737488355328) (hbase : base ≤ w.heap.size)
    (h : ∀ v' w', w'.ownsRow base e size v' (n + m) (xs ++ news) → w.grownBy w' v.ownBlock → (v'.ownBlock = v.ownBlock ∨ v'.ownBlock = some w.heap.size) → K (a.put o.dst v') w') : o.wp P a w K Q := by
  obtain ⟨v', w', hr, h2, h3, _, h5⟩ := run_append_own_at (P := P) w base t o.type e i z size bytes ht hi hz hsize hby hzs hsz v n xs hown ad m c news hl hnews h1 h63 hbytes hbase
  unfold Oper.wp execOp
  simp only [ho, resolve, invoke, builtin, Sem.run_bind, Sem.run_pure, Result.andThen_ok, List.map_toArray, List.map_cons, List.map_nil, hs, hx, hr]
  exact h v' w' h2 h3 h5
end Go.Proofs.Ytmiefdjbhcpnbaa

namespace Go.Proofs.Ytmiefdjbhcpnbaa
open Go.RowKit

/-- The tokens that can move by a face: among the first k. -/
def movK (s a b face : Int) (k : Nat) : List Int := (if 1 ≤ k ∧ a + face ≤ s then [0] else []) ++ (if 2 ≤ k ∧ b + face ≤ s then [1] else [])
theorem movK_len (s a b face : Int) (k : Nat) : (movK s a b face k).length ≤ 2 := by
  unfold movK
  split <;> split <;> simp

theorem idx_both0 (x y : Int) (w : World) : (Instr.index 56 (.agg #[.int .i64 x, .int .i64 y]) (.int .i64 0)).run Try.prog w = .ok (.int .i64 x) w := by kernel_rfl
theorem idx_both1 (x y : Int) (w : World) : (Instr.index 56 (.agg #[.int .i64 x, .int .i64 y]) (.int .i64 1)).run Try.prog w = .ok (.int .i64 y) w := by kernel_rfl
set_option maxRecDepth 100000 in
set_option maxHeartbeats 1000000 in
theorem movers_any (g : Nat) (s f o : Int) (G : Nat → Int) (a b face : Int) (w : World) (hC : CV w g s f o G) (ha0 : 0 ≤ a) (ha : a ≤ 100) (hb0 : 0 ≤ b) (hb : b ≤ 100) (hf0 : 0 ≤ face) (hf : face ≤ 8) :
    Calls Try.prog 59 #[.pointer (some ⟨g, 0, none⟩), .agg #[.int .i64 a, .int .i64 b], .int .i64 face] w fun e w' =>
      ∃ A c, e = .returned (.slice A (movK s a b face 2).length c) ∧ OI w' w.heap.size 3 A (movK s a b face 2).length (fun k => (movK s a b face 2).getD k 0) ∧ Below w.heap.size w w' := by
  obtain ⟨i0, hi, hz0, hz1, hz2⟩ := info_parts infoInt1
  have hgl : g < w.heap.size := cell_lt hC.sq
  have hx0 := idx_both0 a b
  have hx1 := idx_both1 a b
  go_enter Try.func59, Try.ntmps59
  go_wp2_with fail
  go_loopw [7, 8, 9, 11] (fun v _ _ i wr => ∃ k : Nat, k ≤ 2 ∧ i = .int .i64 (k : Int) ∧ Below w.heap.size w wr ∧ wr.ownsRow w.heap.size 3 1 v (movK s a b face k).length ((movK s a b face k).map (Value.int .i64))) (fun _ _ _ i _ => 2 - (intOf i).toNat)
  case atStart => exact ⟨0, by omega, rfl, below1 _ _, World.ownsRow_nil _ _ _ _⟩
  case round =>
    obtain ⟨k, hk, rfl, hB, hown⟩ := hrel
    have c0 := (bcell hB hgl).trans hC.sq
    have hsz := hB.size
    have hlen := movK_len s a b face k
    have hf' := own_from hown
    rcases (show k = 0 ∨ k = 1 ∨ k = 2 by omega) with rfl | rfl | rfl
    · have w0 : IntKind.i64.wrap (a + face) = a + face := IntWalk.i64_in _ (by omega)
      by_cases h : a + face ≤ s
      · go_wp2_with (at_builtin; go_loud (refine wpList_append_own _ rfl _ _ 25 rfl w.heap.size 3 i0 (.int .i64 0) 1 8 Try.underlying25 hi hz0 hz1 hz2 rfl (by decide) _ _ _ rfl (hown.alloc _) ⟨wr.heap.size, 0, none⟩ 1 1 [.int .i64 0] rfl rfl (cell_new1 _ _ _) (one_int _) (by unfold maxLen; omega) (by omega) (by simp; omega) ?_; intro v1 w4 hown4 hg4 _))
        go_roundw
        case rel => exact ⟨1, by omega, rfl, (hB.alloc (by omega) _).grown hg4 (by simp; omega) (fun j hj => hf' j hj), by simpa [movK, h] using hown4⟩
        case measure => simp [intOf]
      · go_wp2_with fail
        go_roundw
        case rel => exact ⟨1, by omega, rfl, hB, by simpa [movK, h] using hown⟩
        case measure => simp [intOf]
    · have w0 : IntKind.i64.wrap (b + face) = b + face := IntWalk.i64_in _ (by omega)
      by_cases h : b + face ≤ s
      · go_wp2_with (at_builtin; go_loud (refine wpList_append_own _ rfl _ _ 25 rfl w.heap.size 3 i0 (.int .i64 0) 1 8 Try.underlying25 hi hz0 hz1 hz2 rfl (by decide) _ _ _ rfl (hown.alloc _) ⟨wr.heap.size, 0, none⟩ 1 1 [.int .i64 1] rfl rfl (cell_new1 _ _ _) (one_int _) (by unfold maxLen; omega) (by omega) (by simp; omega) ?_; intro v1 w4 hown4 hg4 _))
        go_roundw
        case rel => exact ⟨2, by omega, rfl, (hB.alloc (by omega) _).grown hg4 (by simp; omega) (fun j hj => hf' j hj), by
          have e : movK s a b face 2 = movK s a b face 1 ++ [1] := by simp [movK, h]
          rw [e, List.length_append, List.map_append]; exact hown4⟩
        case measure => simp [intOf]
      · go_wp2_with fail
        go_roundw
        case rel => exact ⟨2, by omega, rfl, hB, by
          have e : movK s a b face 2 = movK s a b face 1 := by simp [movK, h]
          rw [e]; exact hown⟩
        case measure => simp [intOf]
    · go_wp2_with fail
      obtain ⟨A', c', rfl, ho⟩ := own_oi hown rfl
      go_ret
      exact ⟨A', c', rfl, ho, hB⟩
end Go.Proofs.Ytmiefdjbhcpnbaa

namespace Go.Proofs.Ytmiefdjbhcpnbaa
open Go.RowKit

def movesR (s f a b face : Int) : List Int × Bool := if pairOk s f a b && inB face 1 f then (movK s a b face 2, true) else ([], false)
theorem movesR_len (s f a b face : Int) : (movesR s f a b face).1.length ≤ 1048576 := by
  unfold movesR
  split
  · have := movK_len s a b face 2
    simp only; omega
  · simp



end Go.Proofs.Ytmiefdjbhcpnbaa

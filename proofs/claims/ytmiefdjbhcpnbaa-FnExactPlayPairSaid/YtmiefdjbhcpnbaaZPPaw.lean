/- Several texts, one behind the other: WGrid C5zw C5zx. -/
import Derived.Maps.AppendAt
import Derived.Test.YtmiefdjbhcpnbaaZPPad
import Derived.Test.YtmiefdjbhcpnbaaZPPav
import Derived.Test.YtmiefdjbhcpnbaaZPPau

namespace Go.Proofs.Ytmiefdjbhcpnbaa
open Go.RowKit

/-- A slice v of n slices, each row in a block of its own, from block base on: row y is in block Bk y, has len y numbers, the j-th being F y j. -/
def Grid (w : World) (base : Nat) (t te : TypeId) (v : Value) (n : Nat) (len : Nat → Nat) (F : Nat → Nat → Int) (Bk C : Nat → Nat) : Prop :=
  w.ownsRow base t 1 v n ((List.range n).map fun y => Value.slice (some ⟨Bk y, 0, none⟩) (len y) (C y)) ∧
  (∀ y, y < n → base ≤ Bk y ∧ v.ownBlock ≠ some (Bk y) ∧ RowI w (Bk y) te (len y) (F y)) ∧ ∀ y z, y < n → z < n → y ≠ z → Bk y ≠ Bk z
section
variable {w w' w2 : World} {base : Nat} {t te : TypeId} {v : Value} {n : Nat} {len len' : Nat → Nat} {F F' : Nat → Nat → Int} {Bk C : Nat → Nat}
theorem Grid.nil (w : World) (base : Nat) (t te : TypeId) (len : Nat → Nat) (F : Nat → Nat → Int) (Bk C : Nat → Nat) : Grid w base t te (.slice none 0 0) 0 len F Bk C :=
  ⟨World.ownsRow_nil _ _ _ _, fun y h => by omega, fun y z h => by omega⟩
theorem Grid.slice (h : Grid w base t te v n len F Bk C) : ∃ A c, v = .slice A n c := by
  rcases h.1.2 with ⟨rfl, h0⟩ | ⟨g', cap, cs, rfl, _⟩
  · exact ⟨none, 0, by rw [h0]⟩
  · exact ⟨_, _, rfl⟩
theorem Grid.below (h : Grid w base t te v n len F Bk C) (hb : Below w.heap.size w w') : Grid w' base t te v n len F Bk C :=
  ⟨own_below h.1 hb, fun y hy => ⟨(h.2.1 y hy).1, (h.2.1 y hy).2.1, (h.2.1 y hy).2.2.below hb (h.2.1 y hy).2.2.lt⟩, h.2.2⟩
theorem Grid.alloc (h : Grid w base t te v n len F Bk C) (o : Obj) : Grid (w.alloc o) base t te v n len F Bk C := h.below (below1 _ _)
theorem Grid.from_ (h : Grid w base t te v n len F Bk C) : ∀ g, v.ownBlock = some g → base ≤ g := own_from h.1
theorem Grid.lt (h : Grid w base t te v n len F Bk C) : ∀ g, v.ownBlock = some g → g < w.heap.size := by
  intro g hg
  rcases h.1.2 with ⟨rfl, _⟩ | ⟨g', cap, cs, rfl, _, hh, _⟩
  · cases hg
  · injection hg with hg; subst hg; exact heap_lt hh
theorem rowTwo (w : World) (t : TypeId) (x y : Int) : RowI (w.alloc (.cells #[.int .i64 x, .int .i64 y] t)) w.heap.size t 2 (fun j => if j = 0 then x else y) :=
  ⟨_, heap_alloc_new w _, by simp, fun k hk => by
    rcases (show k = 0 ∨ k = 1 by omega) with rfl | rfl <;> simp⟩
/-- A write elsewhere, below the grid's memory. -/
theorem Grid.grown (h : Grid w base t te v n len F Bk C) {row : Option Nat} (hg : w.grownBy w' row) (hr : ∀ k, row = some k → k < base) : Grid w' base t te v n len F Bk C :=
  ⟨h.1.kept hg (by
    cases hv : v.ownBlock with
    | none => exact .inl rfl
    | some b => exact .inr fun e => by have := h.from_ b hv; have := hr b e.symm; omega), fun y hy => ⟨(h.2.1 y hy).1, (h.2.1 y hy).2.1, (h.2.1 y hy).2.2.grown hg (fun e => by have := (h.2.1 y hy).1; have := hr _ e.symm; omega)⟩, h.2.2⟩
theorem Grid.congr (h : Grid w base t te v n len F Bk C) (hl : ∀ y < n, len y = len' y) (hF : ∀ y < n, ∀ j < len y, F y j = F' y j) : Grid w base t te v n len' F' Bk C := by
  obtain ⟨h1, h2, h3⟩ := h
  refine ⟨?_, fun y hy => ⟨(h2 y hy).1, (h2 y hy).2.1, ?_⟩, h3⟩
  · rw [show ((List.range n).map fun y => Value.slice (some ⟨Bk y, 0, none⟩) (len' y) (C y)) = (List.range n).map fun y => Value.slice (some ⟨Bk y, 0, none⟩) (len y) (C y) from List.map_congr_left fun y hy => by rw [hl y (by simpa using hy)]]
    exact h1
  · rw [← hl y hy]
    exact (h2 y hy).2.2.congr (hF y hy)
/-- A row is appended that lies in a block of its own. -/
theorem Grid.push (h : Grid w base t te v n len F Bk C) {g cap m : Nat} {f : Nat → Int} (hrow : RowI w g te m f) (hg0 : base ≤ g) (hgv : v.ownBlock ≠ some g) (hgB : ∀ y, y < n → Bk y ≠ g) {o : Obj} {v' : Value}
    (hown : w2.ownsRow base t 1 v' (n + 1) (((List.range n).map fun y => Value.slice (some ⟨Bk y, 0, none⟩) (len y) (C y)) ++ [Value.slice (some ⟨g, 0, none⟩) m cap])) (hg : (w.alloc o).grownBy w2 v.ownBlock)
    (hb : v'.ownBlock = v.ownBlock ∨ v'.ownBlock = some (w.alloc o).heap.size) :
    Grid w2 base t te v' (n + 1) (fun y => if y = n then m else len y) (fun y => if y = n then f else F y) (fun y => if y = n then g else Bk y) (fun y => if y = n then cap else C y) := by
  obtain ⟨h1, h2, h3⟩ := h
  have ng : ∀ b, b < w.heap.size → v.ownBlock ≠ some b → v'.ownBlock ≠ some b := fun b hb1 hb2 => by
    rcases hb with e | e
    · rw [e]; exact hb2
    · rw [e]; simp; omega
  refine ⟨?_, fun y hy => ?_, fun y z hy hz hne => ?_⟩
  · rw [List.range_succ, List.map_append]
    simp only [List.map_cons, List.map_nil, if_true]
    rw [show ((List.range n).map fun y => Value.slice (some ⟨if y = n then g else Bk y, 0, none⟩) (if y = n then m else len y) (if y = n then cap else C y)) = (List.range n).map fun y => Value.slice (some ⟨Bk y, 0, none⟩) (len y) (C y) from List.map_congr_left fun y hy => by
      have : ¬ y = n := by have := List.mem_range.1 hy; omega
      simp [this]]
    exact hown
  · by_cases e : y = n
    · simp only [e, if_true]
      exact ⟨hg0, ng g hrow.lt hgv, (hrow.alloc o).grown hg (fun e => hgv e.symm)⟩
    · simp only [e, if_false]
      obtain ⟨a1, a2, a3⟩ := h2 y (by omega)
      exact ⟨a1, ng _ a3.lt a2, (a3.alloc o).grown hg (fun e => a2 e.symm)⟩
  · by_cases e1 : y = n
    · have e2 : ¬ z = n := by omega
      simp only [e1, if_true, e2, if_false]
      exact fun e => hgB z (by omega) e.symm
    · by_cases e2 : z = n
      · simp only [e1, if_false, e2, if_true]
        exact hgB y (by omega)
      · simp only [e1, if_false, e2]
        exact h3 y z (by omega) (by omega) hne
/-- One row, and how it is written. -/
theorem Grid.row (h : Grid w base t te v n len F Bk C) {y : Nat} (hy : y < n) : ∃ g, v = .slice (some ⟨g, 0, none⟩) n (match v with | .slice _ _ c => c | _ => 0) ∧ base ≤ g ∧ g < w.heap.size ∧ w.cell? ⟨g, y, none⟩ = some (.slice (some ⟨Bk y, 0, none⟩) (len y) (C y)) ∧ RowI w (Bk y) te (len y) (F y) := by
  obtain ⟨⟨h0, ⟨rfl, hz⟩ | ⟨g, cap, cs, rfl, hg, hh, hn, _, hsz, htk⟩⟩, h2, h3⟩ := h
  · omega
  · refine ⟨g, rfl, hg, heap_lt hh, ?_, (h2 y hy).2.2⟩
    have : (cs.toList.take (n * 1))[y]? = ((List.range n).map fun y => Value.slice (some ⟨Bk y, 0, none⟩) (len y) (C y))[y]? := by rw [htk]
    rw [List.getElem?_take_of_lt (by omega), Array.getElem?_toList] at this
    rw [cell_of_row w g _ cs t (0, 0) hh, this]
    simp [hy]
theorem Grid.setRow (h : Grid w base t te v n len F Bk C) {y : Nat} (hy : y < n) {f : Nat → Int} (hg : w.grownBy w' (some (Bk y))) (hr : RowI w' (Bk y) te (len y) f) : Grid w' base t te v n len (fun z => if z = y then f else F z) Bk C := by
  obtain ⟨h1, h2, h3⟩ := h
  refine ⟨h1.kept hg (by
    cases hv : v.ownBlock with
    | none => exact .inl rfl
    | some b => exact .inr fun e => (h2 y hy).2.1 (by rw [hv, e])), fun z hz => ⟨(h2 z hz).1, (h2 z hz).2.1, ?_⟩, h3⟩
  by_cases e : z = y
  · subst e; simp only [if_true]; exact hr
  · simp only [e, if_false]
    exact (h2 z hz).2.2.grown hg (fun e2 => e ((Classical.not_not.1 fun hne => h3 z y hz hy hne (by injection e2))))
end
/-- A slice at A that reads as the rows L, below block B. -/
def RG (w : World) (B : Nat) (A : Option Addr) (L : List (List Int)) : Prop :=
  L.length ≤ 1048576 ∧ (L = [] ∨ ∃ b off, A = some ⟨b, off, none⟩ ∧ b < B ∧ ∀ y (h : y < L.length), ∃ A' c', w.cell? ⟨b, off + y, none⟩ = some (.slice A' L[y].length c') ∧ RI w B A' L[y])
section
variable {w w' : World} {B B' : Nat} {A : Option Addr} {L : List (List Int)}
theorem RG.at_ (h : RG w B A L) (hb : Below B w w') {y : Nat} (hy : y < L.length) : ∃ b off A' c', A = some ⟨b, off, none⟩ ∧ b < B ∧ w'.cell? ⟨b, off + y, none⟩ = some (.slice A' L[y].length c') ∧ RI w' B A' L[y] := by
  obtain ⟨_, rfl | ⟨b, off, e, hB, hc⟩⟩ := h
  · simp at hy
  · obtain ⟨A', c', h1, h2⟩ := hc y hy
    exact ⟨b, off, A', c', e, hB, (bcell hb hB).trans h1, h2.below hb⟩
theorem RG.below (h : RG w B A L) (hb : Below B w w') : RG w' B A L := by
  obtain ⟨h0, h1 | ⟨b, off, e, hB, hc⟩⟩ := h
  · exact ⟨h0, .inl h1⟩
  · refine ⟨h0, .inr ⟨b, off, e, hB, fun y hy => ?_⟩⟩
    obtain ⟨A', c', h1, h2⟩ := hc y hy
    exact ⟨A', c', (bcell hb hB).trans h1, h2.below hb⟩
theorem RG.more (h : RG w B A L) (hB : B ≤ B') : RG w B' A L := by
  obtain ⟨h0, h1 | ⟨b, off, e, hb, hc⟩⟩ := h
  · exact ⟨h0, .inl h1⟩
  · refine ⟨h0, .inr ⟨b, off, e, by omega, fun y hy => ?_⟩⟩
    obtain ⟨A', c', h1, h2⟩ := hc y hy
    exact ⟨A', c', h1, h2.more hB⟩
theorem Grid.rg {base : Nat} {t te : TypeId} {c : Nat} {len : Nat → Nat} {F : Nat → Nat → Int} {Bk C : Nat → Nat} (h : Grid w base t te (.slice A L.length c) L.length len F Bk C) (hL : L.length ≤ 1048576)
    (hl : ∀ y (hy : y < L.length), len y = L[y].length ∧ L[y].length ≤ 1048576 ∧ ∀ j (hj : j < L[y].length), F y j = L[y][j]) : RG w w.heap.size A L := by
  refine ⟨hL, ?_⟩
  by_cases h0 : L = []
  · exact .inl h0
  · have hp : 0 < L.length := List.length_pos_iff.2 h0
    obtain ⟨g, e, _, hgl, _⟩ := h.row hp
    simp only at e
    injection e with e1 _ _
    refine .inr ⟨g, 0, e1, hgl, fun y hy => ?_⟩
    obtain ⟨g', e', _, _, hc, hr⟩ := h.row hy
    simp only at e'
    injection e' with e1' _ _
    rw [e1] at e1'
    injection e1' with e1'
    injection e1' with e1' _ _
    subst e1'
    obtain ⟨a1, a2, a3⟩ := hl y hy
    rw [a1] at hc hr
    refine ⟨_, _, by rw [Nat.zero_add]; exact hc, ?_⟩
    exact RowI.ri (hr.congr (fun j hj => by rw [a3 j hj, List.getD_eq_getElem?_getD, List.getElem?_eq_getElem hj]; rfl)) rfl a2
end
end Go.Proofs.Ytmiefdjbhcpnbaa

namespace Go.Proofs.Ytmiefdjbhcpnbaa
open Go.RowKit

theorem infoSlP : (Try.prog.info? 25).map (fun i => (i.zero, i.size, i.bytes)) = some (some (.slice none 0 0), 1, 24) := by kernel_rfl
theorem one_sliceP (A : Option Addr) (n c : Nat) : ∀ u ∈ [Value.slice A n c], u.oneCell' = true := by intro u hu; simp at hu; subst hu; rfl
theorem cell_new3P (w : World) (o1 o2 : Obj) (v : Value) (t : TypeId) : ∀ (j : Nat) u, [v][j]? = some u → (((w.alloc o1).alloc o2).alloc (.cells #[v] t)).cell? ((⟨w.heap.size + 1 + 1, 0, none⟩ : Addr).add j) = some u := by
  intro j u h
  match j, h with
  | 0, h => simp at h; subst h; rw [Addr.add_lit, cell_of_row _ _ _ #[v] t (0, 0) (heap_alloc_at _ _ _ (by simp))]; rfl
theorem gridP_mono {w : World} {base base' : Nat} {t te : TypeId} {v : Value} {n : Nat} {len : Nat → Nat} {F : Nat → Nat → Int} {Bk C : Nat → Nat} (h : Grid w base t te v n len F Bk C) (hb : base' ≤ base) : Grid w base' t te v n len F Bk C :=
  ⟨own_lo h.1 hb, fun y hy => ⟨Nat.le_trans hb (h.2.1 y hy).1, (h.2.1 y hy).2⟩, h.2.2⟩
/-- The numbers of a place in the path. -/
def pathF (l : List Fr) (y i : Nat) : Int := if i = 0 then ((l.getD y (0, 0)).1 : Int) else ((l.getD y (0, 0)).2 : Int)
set_option maxRecDepth 100000 in
set_option maxHeartbeats 1000000 in
theorem implPlayPair_no (s f a b : Int) (A : Option Addr) (n c : Nat) (w : World) (hp : pairOk s f a b = false) :
    Calls Try.prog 11 #[.int .i64 s, .int .i64 f, .int .i64 a, .int .i64 b, .slice A n c] w fun e w' => e = .returned (.tuple #[.slice none 0 0, .bool false]) ∧ Below w.heap.size w w' := by
  have HC := Lib.hid (fun W => bestPath_no s f a b A n c W hp)
  clear hp
  go_enter Try.func11, Try.ntmps11
  go_wp2_with fail
  refine (HC.out _).mono ?_
  rintro e w2 ⟨rfl, hx2⟩
  go_wp2
  exact bodyPost_ret (v := .tuple #[.slice none 0 0, .bool false]) (by simp [results, Try.results11]) rfl ⟨rfl, hx2⟩
set_option maxRecDepth 100000 in
set_option maxHeartbeats 1000000 in
theorem implPlayPair_bad (s f a b : Nat) (A : Option Addr) (c : Nat) (xs : List Int) (w : World) (hx : RI w w.heap.size A xs) (hp : pairOk s f a b = true) (hs1 : 1 ≤ s) (hs : s ≤ 6) (hf1 : 1 ≤ f) (hf : f ≤ 4) (hbad : playOk s f a b xs = false) :
    Calls Try.prog 11 #[.int .i64 s, .int .i64 f, .int .i64 a, .int .i64 b, .slice A xs.length c] w fun e w' => e = .returned (.tuple #[.slice none 0 0, .bool false]) ∧ Below w.heap.size w w' := by
  have HC := Lib.hid (bestPath_bad s f a b A c xs w hx hp hs1 hs hf1 hf hbad)
  clear hp hbad hx
  go_enter Try.func11, Try.ntmps11
  go_wp2_with fail
  refine HC.out.mono ?_
  rintro e w2 ⟨rfl, hx2⟩
  go_wp2
  exact bodyPost_ret (v := .tuple #[.slice none 0 0, .bool false]) (by simp [results, Try.results11]) rfl ⟨rfl, hx2⟩
set_option maxRecDepth 100000 in
set_option maxHeartbeats 1000000 in
theorem implPlayPair_yes (s f a b : Nat) (A : Option Addr) (c : Nat) (fs : List Nat) (xs : List Int) (hxs : xs = fs.map fun n : Nat => (n : Int)) (T : Tab) (hT : T = bT true s f) (w : World) (hx : RI w w.heap.size A xs) (hp : pairOk s f a b = true) (hs1 : 1 ≤ s) (hs : s ≤ 6) (hf1 : 1 ≤ f) (hf : f ≤ 4) (ha : a ≤ s) (hb : b ≤ s) (hlen : fs.length ≤ 60) (hfs : ∀ n ∈ fs, 1 ≤ n ∧ n ≤ f) :
    Calls Try.prog 11 #[.int .i64 s, .int .i64 f, .int .i64 a, .int .i64 b, .slice A xs.length c] w fun e w' => ∃ A' c' Bk C, e = .returned (.tuple #[.slice A' (pathP (allT T s) s (a, b) fs).length c', .bool true]) ∧ Grid w' w.heap.size 25 3 (.slice A' (pathP (allT T s) s (a, b) fs).length c') (pathP (allT T s) s (a, b) fs).length (fun _ => 2) (pathF (pathP (allT T s) s (a, b) fs)) Bk C ∧ Below w.heap.size w w' := by
  have HC := Lib.hid (bestPath_yes s f a b A c fs xs hxs T hT w hx hp hs1 hs hf1 hf ha hb hlen hfs)
  have hpl : (pathP (allT T s) s (a, b) fs).length = fs.length + 1 := pathP_len _ _ _ _
  obtain ⟨l, hl⟩ : ∃ l, l = pathP (allT T s) s (a, b) fs := ⟨_, rfl⟩
  rw [← hl] at HC hpl ⊢
  obtain ⟨i0, hi, hz0, hz1, hz2⟩ := info_parts infoSlP
  clear hT hp hx hxs hfs hl
  go_enter Try.func11, Try.ntmps11
  go_wp2_with fail
  refine HC.out.mono ?_
  rintro e w2 ⟨v, rfl, hown, hx2⟩
  obtain ⟨g, cc, rfl, hg1, hg2, hrb⟩ := own_rb hown hpl (by omega) (by omega)
  have hl61 : l.length ≤ 61 := by omega
  clear HC hown hpl
  go_wp2_with fail
  go_loopw [14, 30] (fun v i wr => ∃ (k : Nat) (Bk C : Nat → Nat), k ≤ l.length ∧ i = .int .i64 (k : Int) ∧ Below w2.heap.size w2 wr ∧ Grid wr w2.heap.size 25 3 v k (fun _ => 2) (pathF l) Bk C) (fun _ i _ => l.length - (intOf i).toNat)
  case atStart => exact ⟨0, fun _ => 0, fun _ => 0, Nat.zero_le _, rfl, Below.refl _ _, Grid.nil _ _ _ _ _ _ _ _⟩
  case round =>
    obtain ⟨k, Bk, C, hk, rfl, hB, hG⟩ := hrel
    have hsz := hB.size
    obtain ⟨Av, cv, rfl⟩ := hG.slice
    by_cases hlt : k < l.length
    · obtain ⟨c1, c2⟩ := hrb.2.2 k hlt
      have d1 := (bcell hB hg2).trans c1
      have d2 := (bcell hB hg2).trans c2
      have hgl : g < wr.heap.size := by omega
      have hqd : l.getD k (0, 0) = l[k] := by rw [List.getD_eq_getElem?_getD, List.getElem?_eq_getElem hlt]; rfl
      obtain ⟨q, hq⟩ : ∃ q, q = l[k] := ⟨_, rfl⟩
      rw [← hq] at d1 d2 hqd
      have HQ := Lib.hid hqd
      have HRB := Lib.hid hrb
      clear c1 c2 hq hqd hrb
      have hGa := ((hG.alloc (.cells #[.int .i64 (q.1 : Nat), .int .i64 (q.2 : Nat)] 56)).alloc (.cells #[.int .i64 (q.1 : Nat), .int .i64 (q.2 : Nat)] 3)).alloc (.cells #[.slice (some ⟨wr.heap.size + 1, 0, none⟩) 2 2] 25)
      go_wp2_with (at_builtin; go_loud (refine wpList_append_own_at _ rfl _ _ 26 rfl w2.heap.size 25 i0 (.slice none 0 0) 1 24 Try.underlying26 hi hz0 hz1 hz2 rfl (by decide) _ _ _ rfl hGa.1 ⟨wr.heap.size + 1 + 1, 0, none⟩ 1 1 [.slice (some ⟨wr.heap.size + 1, 0, none⟩) 2 2] rfl rfl (cell_new3P _ _ _ _ _) (one_sliceP _ _ _) (by unfold maxLen; omega) (by omega) (by simp; omega) ?_; intro v1 w4 hown4 hg4 _ hb4))
      go_roundw
      case rel =>
        have hrow := rowTwo (wr.alloc (.cells #[.int .i64 (q.1 : Nat), .int .i64 (q.2 : Nat)] 56)) 3 (q.1 : Nat) (q.2 : Nat)
        rw [World.size_alloc] at hrow
        have hp := Grid.push ((hG.alloc (.cells #[.int .i64 (q.1 : Nat), .int .i64 (q.2 : Nat)] 56)).alloc (.cells #[.int .i64 (q.1 : Nat), .int .i64 (q.2 : Nat)] 3)) hrow (by omega) (fun e => by have := hG.lt _ e; omega) (fun y hy e => by have := (hG.2.1 y hy).2.2.lt; omega) hown4 hg4 hb4
        refine ⟨k + 1, _, _, by omega, by go_num, (((hB.alloc hsz _).alloc (by simp; omega) _).alloc (by simp; omega) _).grown hg4 (by simp; omega) (fun i h => hG.from_ i h), hp.congr (fun y _ => by split <;> rfl) (fun y hy i hi => ?_)⟩
        by_cases e : y = k
        · subst e
          simp only [if_true, pathF, HQ.out]
        · simp only [e, if_false]
      case measure => simp [intOf]; omega
    · obtain rfl : k = l.length := by omega
      go_wp2
      exact bodyPost_ret (v := .tuple #[.slice Av l.length cv, .bool true]) (by simp [results, Try.results11]) rfl ⟨Av, cv, Bk, C, rfl, gridP_mono hG hx2.size, hx2.trans (hB.mono hx2.size)⟩
end Go.Proofs.Ytmiefdjbhcpnbaa

namespace Go.Proofs.Ytmiefdjbhcpnbaa
open Go.RowKit

theorem pathP_at (T : Tab) (s : Nat) : ∀ (fs : List Nat) (q : Nat × Nat) (k : Nat), k ≤ fs.length → (pathP T s q fs).getD k (0, 0) = endP T s q (fs.take k)
  | [], q, k, hk => by
    obtain rfl : k = 0 := by simpa using hk
    rfl
  | face :: l, q, 0, _ => rfl
  | face :: l, q, k + 1, hk => by
    show ((q :: pathP T s (nextP T s q face) l).getD (k + 1) (0, 0)) = endP T s (nextP T s q face) (l.take k)
    rw [← pathP_at T s l (nextP T s q face) k (by simpa using hk)]
    rfl
/-- A grid of one row of two, made of a literal. -/
theorem gridOne (w : World) (x y : Int) (F : Nat → Nat → Int) (h0 : F 0 0 = x) (h1 : F 0 1 = y) (base : Nat) (hb : base ≤ w.heap.size) : Grid ((w.alloc (.cells #[.int .i64 x, .int .i64 y] 3)).alloc (.cells #[.slice (some ⟨w.heap.size, 0, none⟩) 2 2] 25)) base 25 3 (.slice (some ⟨w.heap.size + 1, 0, none⟩) 1 1) 1 (fun _ => 2) F (fun _ => w.heap.size) (fun _ => 2) := by
  refine ⟨⟨rfl, .inr ⟨w.heap.size + 1, 1, #[.slice (some ⟨w.heap.size, 0, none⟩) 2 2], rfl, by omega, heap_alloc_at _ _ _ (by simp), Nat.le_refl _, by decide, rfl, rfl⟩⟩, fun y' hy => ⟨hb, fun e => by simp [Value.ownBlock] at e, ?_⟩, fun y z hy hz hne => by omega⟩
  obtain rfl : y' = 0 := by omega
  have h := (rowTwo w 3 x y).alloc (.cells #[.slice (some ⟨w.heap.size, 0, none⟩) 2 2] 25)
  obtain ⟨cs, e1, e2, e3⟩ := h
  refine ⟨cs, e1, e2, fun k hk => ?_⟩
  have hk : k < 2 := hk
  rw [e3 k hk]
  rcases (show k = 0 ∨ k = 1 by omega) with rfl | rfl
  · rw [h0]; rfl
  · rw [h1]; rfl
/-- What is one place further: the model's step by who moves. -/
theorem nextP_none {T : Tab} {s face : Nat} {q : Nat × Nat} (h : movP chShort T s q.1 q.2 face = none) : nextP T s q face = q := by unfold nextP; rw [h]; rfl
theorem nextP_some {T : Tab} {s face tok : Nat} {q : Nat × Nat} (h : movP chShort T s q.1 q.2 face = some tok) : nextP T s q face = (if tok = 0 then q.1 + face else q.1, if tok = 0 then q.2 else q.2 + face) := by unfold nextP stepO; rw [h]; by_cases e : tok = 0 <;> simp [e]
end Go.Proofs.Ytmiefdjbhcpnbaa

/- Several texts, one behind the other: WGrid L9. -/
import Derived.Maps.AppendAt
import Derived.StillTailTactics
import Derived.Test.YtmiefdjbhcpnbaaDoorZTTab
import Derived.Test.YtmiefdjbhcpnbaaDoorZTTak

namespace Go.Proofs.YtmiefdjbhcpnbaaDoor
open Go.RowKit

/-- A slice v of n slices, each row in a block of its own, from block base on: row y is in block Bk y, has len y numbers, the j-th being F y j. -/
def Grid (w : World) (base : Nat) (t te : TypeId) (v : Value) (n : Nat) (len : Nat → Nat) (F : Nat → Nat → Int) (Bk C : Nat → Nat) : Prop :=
  w.ownsRow base t 1 v n ((List.range n).map fun y => Value.slice (some ⟨Bk y, 0, none⟩) (len y) (C y)) ∧
  (∀ y, y < n → base ≤ Bk y ∧ v.ownBlock ≠ some (Bk y) ∧ RowI w (Bk y) te (len y) (F y)) ∧ ∀ y z, y < n → z < n → y ≠ z → Bk y ≠ Bk z
section
variable {w w' w2 : World} {base : Nat} {t te : TypeId} {v : Value} {n : Nat} {len len' : Nat → Nat} {F F' : Nat → Nat → Int} {Bk C : Nat → Nat}
theorem Grid.nil (w : World) (base : Nat) (t te : TypeId) (len : Nat → Nat) (F : Nat → Nat → Int) (Bk C : Nat → Nat) : Grid w base t te (.slice none 0 0) 0 len F Bk C :=
  ⟨World.ownsRow_nil _ _ _ _, fun y h => by omega, fun y z h => by omega⟩
theorem Grid.slice (h : Grid w base t te v n len F Bk C) : ∃ A c, v = .slice A n c := by
  rcases h.1.2 with ⟨rfl, h0⟩ | ⟨g', cap, cs, rfl, _⟩
  · exact ⟨none, 0, by rw [h0]⟩
  · exact ⟨_, _, rfl⟩
theorem Grid.below (h : Grid w base t te v n len F Bk C) (hb : Below w.heap.size w w') : Grid w' base t te v n len F Bk C :=
  ⟨own_below h.1 hb, fun y hy => ⟨(h.2.1 y hy).1, (h.2.1 y hy).2.1, (h.2.1 y hy).2.2.below hb (h.2.1 y hy).2.2.lt⟩, h.2.2⟩
theorem Grid.alloc (h : Grid w base t te v n len F Bk C) (o : Obj) : Grid (w.alloc o) base t te v n len F Bk C := h.below (below1 _ _)
theorem Grid.from_ (h : Grid w base t te v n len F Bk C) : ∀ g, v.ownBlock = some g → base ≤ g := own_from h.1
theorem Grid.lt (h : Grid w base t te v n len F Bk C) : ∀ g, v.ownBlock = some g → g < w.heap.size := by
  intro g hg
  rcases h.1.2 with ⟨rfl, _⟩ | ⟨g', cap, cs, rfl, _, hh, _⟩
  · cases hg
  · injection hg with hg; subst hg; exact heap_lt hh
theorem rowTwo (w : World) (t : TypeId) (x y : Int) : RowI (w.alloc (.cells #[.int .i64 x, .int .i64 y] t)) w.heap.size t 2 (fun j => if j = 0 then x else y) :=
  ⟨_, heap_alloc_new w _, by simp, fun k hk => by
    rcases (show k = 0 ∨ k = 1 by omega) with rfl | rfl <;> simp⟩
/-- A write elsewhere, below the grid's memory. -/
theorem Grid.grown (h : Grid w base t te v n len F Bk C) {row : Option Nat} (hg : w.grownBy w' row) (hr : ∀ k, row = some k → k < base) : Grid w' base t te v n len F Bk C :=
  ⟨h.1.kept hg (by
    cases hv : v.ownBlock with
    | none => exact .inl rfl
    | some b => exact .inr fun e => by have := h.from_ b hv; have := hr b e.symm; omega), fun y hy => ⟨(h.2.1 y hy).1, (h.2.1 y hy).2.1, (h.2.1 y hy).2.2.grown hg (fun e => by have := (h.2.1 y hy).1; have := hr _ e.symm; omega)⟩, h.2.2⟩
theorem Grid.congr (h : Grid w base t te v n len F Bk C) (hl : ∀ y < n, len y = len' y) (hF : ∀ y < n, ∀ j < len y, F y j = F' y j) : Grid w base t te v n len' F' Bk C := by
  obtain ⟨h1, h2, h3⟩ := h
  refine ⟨?_, fun y hy => ⟨(h2 y hy).1, (h2 y hy).2.1, ?_⟩, h3⟩
  · rw [show ((List.range n).map fun y => Value.slice (some ⟨Bk y, 0, none⟩) (len' y) (C y)) = (List.range n).map fun y => Value.slice (some ⟨Bk y, 0, none⟩) (len y) (C y) from List.map_congr_left fun y hy => by rw [hl y (by simpa using hy)]]
    exact h1
  · rw [← hl y hy]
    exact (h2 y hy).2.2.congr (hF y hy)
/-- A row is appended that lies in a block of its own. -/
theorem Grid.push (h : Grid w base t te v n len F Bk C) {g cap m : Nat} {f : Nat → Int} (hrow : RowI w g te m f) (hg0 : base ≤ g) (hgv : v.ownBlock ≠ some g) (hgB : ∀ y, y < n → Bk y ≠ g) {o : Obj} {v' : Value}
    (hown : w2.ownsRow base t 1 v' (n + 1) (((List.range n).map fun y => Value.slice (some ⟨Bk y, 0, none⟩) (len y) (C y)) ++ [Value.slice (some ⟨g, 0, none⟩) m cap])) (hg : (w.alloc o).grownBy w2 v.ownBlock)
    (hb : v'.ownBlock = v.ownBlock ∨ v'.ownBlock = some (w.alloc o).heap.size) :
    Grid w2 base t te v' (n + 1) (fun y => if y = n then m else len y) (fun y => if y = n then f else F y) (fun y => if y = n then g else Bk y) (fun y => if y = n then cap else C y) := by
  obtain ⟨h1, h2, h3⟩ := h
  have ng : ∀ b, b < w.heap.size → v.ownBlock ≠ some b → v'.ownBlock ≠ some b := fun b hb1 hb2 => by
    rcases hb with e | e
    · rw [e]; exact hb2
    · rw [e]; simp; omega
  refine ⟨?_, fun y hy => ?_, fun y z hy hz hne => ?_⟩
  · rw [List.range_succ, List.map_append]
    simp only [List.map_cons, List.map_nil, if_true]
    rw [show ((List.range n).map fun y => Value.slice (some ⟨if y = n then g else Bk y, 0, none⟩) (if y = n then m else len y) (if y = n then cap else C y)) = (List.range n).map fun y => Value.slice (some ⟨Bk y, 0, none⟩) (len y) (C y) from List.map_congr_left fun y hy => by
      have : ¬ y = n := by have := List.mem_range.1 hy; omega
      simp [this]]
    exact hown
  · by_cases e : y = n
    · simp only [e, if_true]
      exact ⟨hg0, ng g hrow.lt hgv, (hrow.alloc o).grown hg (fun e => hgv e.symm)⟩
    · simp only [e, if_false]
      obtain ⟨a1, a2, a3⟩ := h2 y (by omega)
      exact ⟨a1, ng _ a3.lt a2, (a3.alloc o).grown hg (fun e => a2 e.symm)⟩
  · by_cases e1 : y = n
    · have e2 : ¬ z = n := by omega
      simp only [e1, if_true, e2, if_false]
      exact fun e => hgB z (by omega) e.symm
    · by_cases e2 : z = n
      · simp only [e1, if_false, e2, if_true]
        exact hgB y (by omega)
      · simp only [e1, if_false, e2]
        exact h3 y z (by omega) (by omega) hne
/-- One row, and how it is written. -/
theorem Grid.row (h : Grid w base t te v n len F Bk C) {y : Nat} (hy : y < n) : ∃ g, v = .slice (some ⟨g, 0, none⟩) n (match v with | .slice _ _ c => c | _ => 0) ∧ base ≤ g ∧ g < w.heap.size ∧ w.cell? ⟨g, y, none⟩ = some (.slice (some ⟨Bk y, 0, none⟩) (len y) (C y)) ∧ RowI w (Bk y) te (len y) (F y) := by
  obtain ⟨⟨h0, ⟨rfl, hz⟩ | ⟨g, cap, cs, rfl, hg, hh, hn, _, hsz, htk⟩⟩, h2, h3⟩ := h
  · omega
  · refine ⟨g, rfl, hg, heap_lt hh, ?_, (h2 y hy).2.2⟩
    have : (cs.toList.take (n * 1))[y]? = ((List.range n).map fun y => Value.slice (some ⟨Bk y, 0, none⟩) (len y) (C y))[y]? := by rw [htk]
    rw [List.getElem?_take_of_lt (by omega), Array.getElem?_toList] at this
    rw [cell_of_row w g _ cs t (0, 0) hh, this]
    simp [hy]
theorem Grid.setRow (h : Grid w base t te v n len F Bk C) {y : Nat} (hy : y < n) {f : Nat → Int} (hg : w.grownBy w' (some (Bk y))) (hr : RowI w' (Bk y) te (len y) f) : Grid w' base t te v n len (fun z => if z = y then f else F z) Bk C := by
  obtain ⟨h1, h2, h3⟩ := h
  refine ⟨h1.kept hg (by
    cases hv : v.ownBlock with
    | none => exact .inl rfl
    | some b => exact .inr fun e => (h2 y hy).2.1 (by rw [hv, e])), fun z hz => ⟨(h2 z hz).1, (h2 z hz).2.1, ?_⟩, h3⟩
  by_cases e : z = y
  · subst e; simp only [if_true]; exact hr
  · simp only [e, if_false]
    exact (h2 z hz).2.2.grown hg (fun e2 => e ((Classical.not_not.1 fun hne => h3 z y hz hy hne (by injection e2))))
end
/-- A slice at A that reads as the rows L, below block B. -/
def RG (w : World) (B : Nat) (A : Option Addr) (L : List (List Int)) : Prop :=
  L.length ≤ 1048576 ∧ (L = [] ∨ ∃ b off, A = some ⟨b, off, none⟩ ∧ b < B ∧ ∀ y (h : y < L.length), ∃ A' c', w.cell? ⟨b, off + y, none⟩ = some (.slice A' L[y].length c') ∧ RI w B A' L[y])
section
variable {w w' : World} {B B' : Nat} {A : Option Addr} {L : List (List Int)}
theorem RG.at_ (h : RG w B A L) (hb : Below B w w') {y : Nat} (hy : y < L.length) : ∃ b off A' c', A = some ⟨b, off, none⟩ ∧ b < B ∧ w'.cell? ⟨b, off + y, none⟩ = some (.slice A' L[y].length c') ∧ RI w' B A' L[y] := by
  obtain ⟨_, rfl | ⟨b, off, e, hB, hc⟩⟩ := h
  · simp at hy
  · obtain ⟨A', c', h1, h2⟩ := hc y hy
    exact ⟨b, off, A', c', e, hB, (bcell hb hB).trans h1, h2.below hb⟩
theorem RG.below (h : RG w B A L) (hb : Below B w w') : RG w' B A L := by
  obtain ⟨h0, h1 | ⟨b, off, e, hB, hc⟩⟩ := h
  · exact ⟨h0, .inl h1⟩
  · refine ⟨h0, .inr ⟨b, off, e, hB, fun y hy => ?_⟩⟩
    obtain ⟨A', c', h1, h2⟩ := hc y hy
    exact ⟨A', c', (bcell hb hB).trans h1, h2.below hb⟩
theorem RG.more (h : RG w B A L) (hB : B ≤ B') : RG w B' A L := by
  obtain ⟨h0, h1 | ⟨b, off, e, hb, hc⟩⟩ := h
  · exact ⟨h0, .inl h1⟩
  · refine ⟨h0, .inr ⟨b, off, e, by omega, fun y hy => ?_⟩⟩
    obtain ⟨A', c', h1, h2⟩ := hc y hy
    exact ⟨A', c', h1, h2.more hB⟩
theorem Grid.rg {base : Nat} {t te : TypeId} {c : Nat} {len : Nat → Nat} {F : Nat → Nat → Int} {Bk C : Nat → Nat} (h : Grid w base t te (.slice A L.length c) L.length len F Bk C) (hL : L.length ≤ 1048576)
    (hl : ∀ y (hy : y < L.length), len y = L[y].length ∧ L[y].length ≤ 1048576 ∧ ∀ j (hj : j < L[y].length), F y j = L[y][j]) : RG w w.heap.size A L := by
  refine ⟨hL, ?_⟩
  by_cases h0 : L = []
  · exact .inl h0
  · have hp : 0 < L.length := List.length_pos_iff.2 h0
    obtain ⟨g, e, _, hgl, _⟩ := h.row hp
    simp only at e
    injection e with e1 _ _
    refine .inr ⟨g, 0, e1, hgl, fun y hy => ?_⟩
    obtain ⟨g', e', _, _, hc, hr⟩ := h.row hy
    simp only at e'
    injection e' with e1' _ _
    rw [e1] at e1'
    injection e1' with e1'
    injection e1' with e1' _ _
    subst e1'
    obtain ⟨a1, a2, a3⟩ := hl y hy
    rw [a1] at hc hr
    refine ⟨_, _, by rw [Nat.zero_add]; exact hc, ?_⟩
    exact RowI.ri (hr.congr (fun j hj => by rw [a3 j hj, List.getD_eq_getElem?_getD, List.getElem?_eq_getElem hj]; rfl)) rfl a2
end
end Go.Proofs.YtmiefdjbhcpnbaaDoor

namespace Go.Proofs.YtmiefdjbhcpnbaaDoor
open Go.RowKit

set_option maxHeartbeats 400000 in
theorem markRow_any (b n c : Nat) (F : Nat → Int) (k0 : Int) (w : World) (h : RowI w b 3 n F) (hn : n ≤ 1048576) (h0 : 0 ≤ k0) (h1 : k0 ≤ 10000000000000) :
    Calls Tryd.prog 37 #[.slice (some ⟨b, 0, none⟩) n c, .int .i64 k0] w fun e w' => e = .returned (.int .i64 (k0 + n)) ∧ RowI w' b 3 n (marksI k0) ∧ w.grownBy w' (some b) ∧ w'.heap.size = w.heap.size := by
  go_enter Tryd.func37, Tryd.ntmps37
  go_wp2
  go_loopw [1, 5] (fun v i wr => ∃ k : Nat, k ≤ n ∧ i = .int .i64 k ∧ v = .int .i64 (k0 + k) ∧ RowI wr b 3 n (fun j => if j < k then marksI k0 j else F j) ∧ Hid (w.grownBy wr (some b)) ∧ Hid (wr.heap.size = w.heap.size)) (fun _ i _ => n - (intOf i).toNat)
  case atStart => exact ⟨0, Nat.zero_le _, rfl, by simp, h.congr (by simp), Lib.hid (grown_refl _ _), Lib.hid rfl⟩
  case round =>
    obtain ⟨k, hk, rfl, rfl, hr, hg, hsz⟩ := hrel
    by_cases hlt : k < n
    · have c1 := hr.cell hlt
      have f1 := hr.free k
      go_wp2
      go_roundw
      case rel => exact ⟨k + 1, by omega, by go_num, by go_num, (hr.set hlt _).congr (fun j hj => by
        by_cases e : j = k
        · subst e; simp [marksI]
        · have e2 : (j < k + 1) = (j < k) := by apply propext; omega
          simp [e, e2]), Lib.hid (grown_setCell hg.out ⟨b, k, none⟩ _ rfl), Lib.hid (by simp; exact hsz.out)⟩
      case measure => simp [intOf]; omega
    · obtain rfl : k = n := by omega
      go_wp2
      go_ret
      exact ⟨rfl, hr.congr (fun j hj => by simp [hj]), hg.out, hsz.out⟩

/-- The numbers of the rows ahead of one. -/
def cumL (len : Nat → Nat) : Nat → Nat
  | 0 => 0
  | y + 1 => cumL len y + len y
theorem cumL_le (len : Nat → Nat) (m : Nat) : ∀ n, (∀ y < n, len y ≤ m) → cumL len n ≤ n * m
  | 0, _ => by simp [cumL]
  | n + 1, h => by
    have h1 := cumL_le len m n (fun y hy => h y (by omega))
    have h2 := h n (by omega)
    simp only [cumL, Nat.add_mul, Nat.one_mul]
    omega
def marksG (k0 : Int) (len : Nat → Nat) (y j : Nat) : Int := k0 + cumL len y + j




/-- The rows of a grid as lists. -/
def gridL (n : Nat) (len : Nat → Nat) (F : Nat → Nat → Int) : List (List Int) := (List.range n).map fun y => (List.range (len y)).map (F y)
theorem gridL_len (n : Nat) (len : Nat → Nat) (F : Nat → Nat → Int) : (gridL n len F).length = n := by simp [gridL]
theorem Grid.rgL {w : World} {base n c : Nat} {t te : TypeId} {A : Option Addr} {len : Nat → Nat} {F : Nat → Nat → Int} {Bk C : Nat → Nat} (h : Grid w base t te (.slice A n c) n len F Bk C) (hn : n ≤ 1048576) (hl : ∀ y, len y ≤ 1048576) : RG w w.heap.size A (gridL n len F) := by
  have e := gridL_len n len F
  have h' : Grid w base t te (.slice A (gridL n len F).length c) (gridL n len F).length len F Bk C := by rw [e]; exact h
  refine h'.rg (by rw [e]; exact hn) (fun y hy => ?_)
  have : (gridL n len F)[y] = (List.range (len y)).map (F y) := by simp [gridL]
  refine ⟨by rw [this]; simp, by rw [this]; simpa using hl y, fun j hj => ?_⟩
  simp [gridL]
end Go.Proofs.YtmiefdjbhcpnbaaDoor

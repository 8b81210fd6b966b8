/- Several texts, one behind the other: T1 WBig WRing. -/
import Derived.Laws.CopyRow
import Derived.Deep.WholeRow
import Derived.Test.YtmiefdjbhcpnbaaDoorZTTaf
import Derived.Test.YtmiefdjbhcpnbaaDoorZTTag
import Derived.Test.YtmiefdjbhcpnbaaDoorZTTab

namespace Go.Proofs.YtmiefdjbhcpnbaaDoor
open Go.RowKit

set_option maxRecDepth 100000 in
set_option maxHeartbeats 1000000 in
theorem trList_any (A : Option Addr) (n c : Nat) (xs : List Int) (hn : n = xs.length) (w : World) (hx : RI w w.heap.size A xs) (hb : ∀ x ∈ xs, 0 ≤ x ∧ x ≤ 999) :
    Calls Tryd.prog 56 #[.slice A n c] w fun e w' => e = .returned (.string (comB xs)) ∧ Below w.heap.size w w' := by
  have hl := hx.1
  subst hn
  have HB := Lib.hid hb
  clear hb
  go_enter Tryd.func56, Tryd.ntmps56
  go_wp2
  go_loopw [3, 8] (fun r i wr => ∃ k : Nat, k ≤ xs.length ∧ i = .int .i64 (k : Int) ∧ r = .string (comB (xs.take k)) ∧ Below w.heap.size w wr) (fun _ i _ => xs.length - (intOf i).toNat)
  case atStart => exact ⟨0, Nat.zero_le _, rfl, rfl, Below.refl _ _⟩
  case round =>
    obtain ⟨k, hk, rfl, rfl, hB⟩ := hrel
    have hsz := hB.size
    by_cases hlt : k < xs.length
    · obtain ⟨b, off, rfl, hbw, c1⟩ := hx.at_ hB hlt
      have hxk := HB.out xs[k] (List.getElem_mem hlt)
      have HX := Lib.hid hxk
      have l1 := comL_len (xs.take k) fun x hx => (HB.out x (List.mem_of_mem_take hx)).2
      rw [List.length_take] at l1
      have l2 := numL_len xs[k] hxk.2
      have hmin : min k xs.length ≤ 1048576 := by omega
      by_cases h0 : k = 0
      · subst h0
        have a1 := addL Tryd.prog [] (numL xs[0]) (by simp; omega)
        have hstep := comL_one xs hlt
        obtain ⟨x, hxe⟩ : ∃ x, x = xs[0] := ⟨_, rfl⟩
        have HXE := Lib.hid hxe
        rw [← hxe] at a1 HX c1 hstep
        rw [Nat.add_zero] at c1
        have e1 : comB (xs.take 0) = ⟨#[]⟩ := rfl
        have e2 : (⟨([] : List UInt8).toArray⟩ : ByteArray) = ⟨#[]⟩ := rfl
        have a2 : ∀ W, (Op.stringOp .add ⟨#[]⟩ (numB x)).run Tryd.prog W = .ok (.string (comB (xs.take 1))) W := fun W => by
          have := a1 W
          rw [e2, List.nil_append] at this
          show _ = Result.ok (Value.string ⟨(comL (xs.take 1)).toArray⟩) W
          rw [hstep]
          exact this
        rw [e1]
        clear a1 l1 l2 hstep e1 e2 hxe hxk hmin
        go_wp2_with (go_at_call 57; refine (l1Num_any 2 _ _ HX.out.1 (by have := HX.out.2; omega) HX.out.2).mono ?_; rintro e w2 ⟨rfl, hx2⟩)
        go_roundw
        case rel => exact ⟨1, hlt, rfl, rfl, hB.trans (hx2.mono hsz)⟩
        case measure => simp [intOf]; omega
      · have a1 := addL Tryd.prog (comL (xs.take k)) [44] (by simp; omega)
        have a3 := addL Tryd.prog (comL (xs.take k) ++ [44]) (numL xs[k]) (by simp; omega)
        have hstep := comL_step xs k hlt (by omega)
        obtain ⟨x, hxe⟩ : ∃ x, x = xs[k] := ⟨_, rfl⟩
        have HXE := Lib.hid hxe
        rw [← hxe] at a3 HX c1 hstep
        obtain ⟨s1, hs1⟩ : ∃ s1 : ByteArray, s1 = ⟨(comL (xs.take k) ++ [44]).toArray⟩ := ⟨_, rfl⟩
        rw [← hs1] at a1 a3
        have a2 : ∀ W, (Op.stringOp .add (comB (xs.take k)) ⟨#[44]⟩).run Tryd.prog W = .ok (.string s1) W := a1
        have a4 : ∀ W, (Op.stringOp .add s1 (numB x)).run Tryd.prog W = .ok (.string (comB (xs.take (k + 1)))) W := fun W => by
          have := a3 W
          rw [List.append_assoc, List.singleton_append, ← hstep] at this
          exact this
        have k0 : (0 : Int) < (k : Int) := by omega
        have k1 : 0 < k := by omega
        clear a1 a3 l1 l2 hstep hs1 hxe hxk hmin h0
        go_wp2_with (go_at_call 57; refine (l1Num_any 2 _ _ HX.out.1 (by have := HX.out.2; omega) HX.out.2).mono ?_; rintro e w2 ⟨rfl, hx2⟩)
        go_roundw
        case rel => exact ⟨k + 1, hlt, by go_num, rfl, hB.trans (hx2.mono hsz)⟩
        case measure => simp [intOf]; omega
    · obtain rfl : k = xs.length := by omega
      go_wp2
      go_ret
      exact ⟨by simp, hB⟩
/-- A list as a text, '-' for none. -/
def lstL (xs : List Int) : List UInt8 := if xs = [] then [45] else comL xs
def lstB (xs : List Int) : ByteArray := ⟨(lstL xs).toArray⟩
theorem itoa_any {w : World} (ht : Tens w) (n : Int) (h0 : 0 ≤ n) (h1 : n ≤ 999) :
    Calls Tryd.prog 30 #[.int .i64 n] w fun e w' => e = .returned (.string (numB n)) ∧ Below w.heap.size w w' := by
  refine (Any.strconv_Itoa Tryd.laysItoa n (by omega) (by omega) w ht).mono ?_
  rintro e w' ⟨rfl, k, os, rfl⟩
  refine ⟨?_, Lib.below_grow w.heap.size w (Nat.le_refl _) k os⟩
  unfold Lib.itoa numB numL
  rw [if_neg (by omega)]
set_option maxRecDepth 100000 in
set_option maxHeartbeats 1000000 in
theorem listText_any (A : Option Addr) (n c : Nat) (xs : List Int) (hn : n = xs.length) (w : World) (hx : RI w w.heap.size A xs) (hb : ∀ x ∈ xs, 0 ≤ x ∧ x ≤ 999) (ht : Tens w) :
    Calls Tryd.prog 31 #[.slice A n c] w fun e w' => e = .returned (.string (lstB xs)) ∧ Below w.heap.size w w' := by
  have hl := hx.1
  subst hn
  by_cases hnil : xs = []
  · subst hnil
    go_enter Tryd.func31, Tryd.ntmps31
    go_wp2
    go_ret
    exact ⟨rfl, Below.refl _ _⟩
  · have hpos : 0 < xs.length := List.length_pos_iff.2 hnil
    have e0 : ((xs.length : Int) == 0) = false := beq_eq_false_iff_ne.2 (by omega)
    obtain ⟨i0, hi, hz0, hz1, hz2⟩ := info_parts infoStr1
    have HB := Lib.hid hb
    have HT := Lib.hid ht
    have HN := Lib.hid hnil
    clear hb ht hnil
    go_enter Tryd.func31, Tryd.ntmps31
    go_wp2_with (at_make; go_loud (refine wpList_make_own _ rfl _ _ 65 rfl w.heap.size 9 i0 (.string ⟨#[]⟩) 1 Tryd.underlying65 hi hz0 hz1 _ _ _ xs.length rfl rfl rfl (by rw [hz2]; omega) (by unfold maxLen; omega) (Nat.le_refl _) ?_; intro w1 hown hgrow))
    have hB1 : Below w.heap.size w w1 := (Below.refl _ _).grown hgrow (Nat.le_refl _) (fun j h => by cases h)
    go_loopw [3, 14] (fun v i wr => ∃ k : Nat, k ≤ xs.length ∧ i = .int .i64 (k : Int) ∧ Below w.heap.size w wr ∧ Hid (wr.ownsRow w.heap.size 9 1 v k (((xs.take k).map numL).map strV))) (fun _ i _ => xs.length - (intOf i).toNat)
    case atStart => exact ⟨0, Nat.zero_le _, rfl, hB1, Lib.hid hown⟩
    case round =>
      clear hB1 hown hgrow
      obtain ⟨k, hk, rfl, hB, HO⟩ := hrel
      have hsz := hB.size
      obtain ⟨Av, cv, rfl⟩ := own_sliceT HO.out
      by_cases hlt : k < xs.length
      · obtain ⟨b, off, rfl, hbw, c1⟩ := hx.at_ hB hlt
        have HX := Lib.hid (HB.out xs[k] (List.getElem_mem hlt))
        have hT := HT.out.on hB
        have ho := HO.out
        obtain ⟨x, hxe⟩ : ∃ x, x = xs[k] := ⟨_, rfl⟩
        have HXE := Lib.hid hxe
        rw [← hxe] at HX c1
        clear hxe
        go_wp2_with (first | (go_at_call 30; refine (itoa_any hT _ HX.out.1 HX.out.2).mono ?_; rintro e w2 ⟨rfl, hx2⟩; have ho2 := own_below (own_below ho hx2) (below1 w2 (.cells #[.string (numB x)] 9))) | (at_builtin; go_loud (refine wpList_append_own_at _ rfl _ _ 65 rfl w.heap.size 9 i0 (.string ⟨#[]⟩) 1 16 Tryd.underlying65 hi hz0 hz1 hz2 rfl (by decide) _ _ _ rfl ho2 ⟨w2.heap.size, 0, none⟩ 1 1 [.string (numB x)] rfl rfl (cell_new1T _ _ _) (one_strT _) (by unfold maxLen; omega) (by omega) (by have := hx2.size; simp; omega) ?_; intro v3 w3 ho3 hg3 _ hb3)))
        have hB3 : Below w.heap.size w w3 := ((hB.trans (hx2.mono hsz)).alloc (by have := hx2.size; omega) _).grown hg3 (by have := hx2.size; simp; omega) (fun i h => own_from ho i h)
        have ho4 : w3.ownsRow w.heap.size 9 1 v3 (k + 1) (((xs.take (k + 1)).map numL).map strV) := by
          rw [List.take_succ_eq_append_getElem hlt, List.map_append, List.map_append, ← HXE.out]
          exact ho3
        have HO4 := Lib.hid ho4
        clear ho3 ho4 hg3 hb3
        go_roundw
        case rel => exact ⟨k + 1, hlt, by go_num, hB3, HO4⟩
        case measure => simp [intOf]; omega
      · obtain rfl : k = xs.length := by omega
        have ho := HO.out
        rw [List.take_length] at ho
        obtain ⟨g, cc, e, ⟨hg1, hg2⟩, hr⟩ := own_rows ho (by simpa using HN.out)
        rw [List.length_map] at e hg2
        injection e with e1 e3 e2
        clear e3
        subst e1 e2
        have hlen := comL_len xs fun x hx => (HB.out x hx).2
        have hc := join_any g cv (xs.map numL) 44 wr hr (by simpa using hg2) (by simpa using hl) (by have : (joinL 44 (xs.map numL)).length ≤ 4 * xs.length := hlen; omega)
        rw [List.length_map] at hc
        have HC := Lib.hid hc
        clear hc ho hr hlen hg2
        go_wp2_with (go_at_call 45; refine HC.out.mono ?_; rintro e w5 ⟨rfl, hx5⟩)
        go_ret
        refine ⟨?_, hB.trans (hx5.mono hsz)⟩
        unfold lstB lstL
        rw [if_neg HN.out]
        rfl
end Go.Proofs.YtmiefdjbhcpnbaaDoor

namespace Go.Proofs.YtmiefdjbhcpnbaaDoor
open Go.RowKit

theorem grownBy_setRow (w : World) (g : Nat) (cs : Array Value) : w.grownBy (w.setRow g cs) (some g) :=
  ⟨rfl, rfl, rfl, by simp, fun k _ hne => by
    have hk : ¬ k = g := fun e => hne (by rw [e])
    simp [World.setRow, Array.getElem?_modify, Ne.symm hk]⟩

section
variable {P : Program} {ops : Array Oper} {rest : List Oper} {o : Oper} {a : Act} {w : World} {Q : Exit → Act → World → Prop}
/-- A whole struct is stored into a block of its own. -/
theorem wpList_store_row (hgd : o.guard = none) (ty : TypeId) (x v : Operand) (ho : o.op = .store ty x v) (g : Nat) (hx : a.eval x = .pointer (some ⟨g, 0, none⟩)) (t : TypeId) (cur vs : Array Value)
    (hv : a.eval v = .agg vs) (hg : w.heap[g]? = some (.cells cur t (0, 0))) (hs : vs.size = cur.size) (hi : (P.info? ty).map (·.size) = some vs.size) (h1 : ∀ u ∈ vs.toList, u.oneCell' = true)
    (h : ∀ w', w'.heap[g]? = some (.cells vs t (0, 0)) → w.grownBy w' (some g) → w'.heap.size = w.heap.size → wpList P ops Q rest (a.put o.dst undef) w') : wpList P ops Q (o :: rest) a w := by
  refine wpList_plain hgd fun K hK => ?_
  have hst := run_storeCells_at (P := P) g 0 t vs.toList 0 cur w hg (by simp [hs]) h1
  have hst' : (storeCells ⟨g, 0, none⟩ vs.toList 0).run P w = .ok () (w.setRow g vs) := by
    rw [hst]
    congr 2
    apply Array.ext'
    simp [hs]
  cases hq : P.info? ty with
  | none => simp [hq] at hi
  | some i =>
    have hsz : i.size = vs.size := by simpa [hq] using hi
    unfold Oper.wp execOp
    simp only [ho, hx, hv, Instr.storeAt, Instr.sureAddr, storeVar, Value.cells, Sem.run_bind, Sem.run_pure, Result.andThen_ok]
    simp [sizeOf, typeInfo, hq, hsz, hst', Sem.run_bind, Result.andThen]
    exact hK _ _ (h _ (setRow_heap w g cur vs t (0, 0) hg) (grownBy_setRow w g vs) (by simp))
end

/-- Two results: a struct in a block of its own, and a slot. -/
theorem results_cell_slot {P : Program} {fn : Func} {p q : Tmp} {ty : TypeId} (h : fn.results = #[.cell p ty, .tmp q]) (tmps : Array Value) (w : World) (g : Nat) (t : TypeId) (cs : Array Value) (fr : Nat × Nat) (d : TypeDesc) (v : Value)
    (hp : tmps.getD p undef = .pointer (some ⟨g, 0, none⟩)) (hv : tmps.getD q undef = v) (hg : w.heap[g]? = some (.cells cs t fr))
    (hu : P.underlying ty = some d) (hd : (match d with | .struct _ | .array _ _ => true | _ => false) = true) (hi : (P.info? ty).map (·.size) = some cs.size) :
    (results fn tmps).run P w = .ok (.tuple #[.agg cs, v]) w := by
  have hp' : tmps[p]?.getD undef = .pointer (some ⟨g, 0, none⟩) := by simpa using hp
  have hv' : tmps[q]?.getD undef = v := by simpa using hv
  simp [results, h, hp', hv', asAddr, run_loadVar_row w g t ty cs fr d hg hu hd hi]

/-- The cells of a course: its squares, faces and Over, and where a token goes from each of 101 squares. -/
def crsCells (s f o : Int) (G : Nat → Int) : Array Value := ([Value.int .i64 s, .int .i64 f, .int .i64 o] ++ (List.range 101).map (fun i => Value.int .i64 (G i))).toArray
theorem crs_size (s f o : Int) (G : Nat → Int) : (crsCells s f o G).size = 104 := by simp [crsCells]
theorem crs_0 (s f o : Int) (G : Nat → Int) : (crsCells s f o G)[0]? = some (.int .i64 s) := rfl
theorem crs_1 (s f o : Int) (G : Nat → Int) : (crsCells s f o G)[1]? = some (.int .i64 f) := rfl
theorem crs_2 (s f o : Int) (G : Nat → Int) : (crsCells s f o G)[2]? = some (.int .i64 o) := rfl
theorem crs_at (s f o : Int) (G : Nat → Int) (i : Nat) (hi : i < 101) : (crsCells s f o G)[3 + i]? = some (.int .i64 (G i)) := by
  simp only [crsCells, List.getElem?_toArray]
  rw [List.getElem?_append_right (by simp)]
  simp [hi]
theorem crs_one (s f o : Int) (G : Nat → Int) : ∀ u ∈ (crsCells s f o G).toList, u.oneCell' = true := by
  intro u hu
  simp only [crsCells, List.mem_append, List.mem_map] at hu
  rcases hu with hu | ⟨i, _, rfl⟩
  · simp at hu
    rcases hu with rfl | rfl | rfl <;> rfl
  · rfl
theorem crs_set (s f o : Int) (G : Nat → Int) (i : Nat) (hi : i < 101) (v : Int) : (crsCells s f o G).setIfInBounds (3 + i) (.int .i64 v) = crsCells s f o (fun j => if j = i then v else G j) := by
  apply Array.ext_getElem?
  intro k
  rw [Array.getElem?_setIfInBounds, crs_size]
  by_cases hk : 3 + i = k
  · subst hk
    rw [if_pos rfl, if_pos (by omega), crs_at _ _ _ _ _ hi, if_pos rfl]
  · rw [if_neg hk]
    rcases Nat.lt_or_ge k 3 with h3 | h3
    · match k, h3 with
      | 0, _ => rfl
      | 1, _ => rfl
      | 2, _ => rfl
    · obtain ⟨j, rfl⟩ : ∃ j, k = 3 + j := ⟨k - 3, by omega⟩
      by_cases hj : j < 101
      · rw [crs_at _ _ _ _ _ hj, crs_at _ _ _ _ _ hj, if_neg (by omega)]
      · rw [Array.getElem?_eq_none (by rw [crs_size]; omega), Array.getElem?_eq_none (by rw [crs_size]; omega)]
theorem crs_congr (s f o : Int) {G G' : Nat → Int} (h : ∀ i < 101, G i = G' i) : crsCells s f o G = crsCells s f o G' := by
  unfold crsCells
  rw [List.map_congr_left (fun i hi => by rw [h i (by simpa using hi)])]
end Go.Proofs.YtmiefdjbhcpnbaaDoor

namespace Go.Proofs.YtmiefdjbhcpnbaaDoor
open Go.RowKit

def ringC (q f k : Int) (A : Option Addr) (n c : Nat) (S : Nat → Bool) : Array Value :=
  ([Value.int .i64 q, .int .i64 f, .int .i64 k, .slice A n c] ++ (List.range 60).map (fun i => Value.bool (S i))).toArray
section
variable {q f k : Int} {A : Option Addr} {n c : Nat} {S S' : Nat → Bool}
theorem ring_size : (ringC q f k A n c S).size = 64 := by simp [ringC]
theorem ring_0 : (ringC q f k A n c S)[0]? = some (.int .i64 q) := rfl
theorem ring_1 : (ringC q f k A n c S)[1]? = some (.int .i64 f) := rfl
theorem ring_2 : (ringC q f k A n c S)[2]? = some (.int .i64 k) := rfl
theorem ring_3 : (ringC q f k A n c S)[3]? = some (.slice A n c) := rfl
theorem ring_at {i : Nat} (hi : i < 60) : (ringC q f k A n c S)[4 + i]? = some (.bool (S i)) := by
  simp only [ringC, List.getElem?_toArray]
  rw [List.getElem?_append_right (by simp)]
  simp [hi]
theorem ring_one : ∀ u ∈ (ringC q f k A n c S).toList, u.oneCell' = true := by
  intro u hu
  simp only [ringC, List.mem_append, List.mem_map] at hu
  rcases hu with hu | ⟨i, _, rfl⟩
  · simp at hu
    rcases hu with rfl | rfl | rfl | rfl <;> rfl
  · rfl
theorem ring_set {i : Nat} (hi : i < 60) (v : Bool) : (ringC q f k A n c S).setIfInBounds (4 + i) (.bool v) = ringC q f k A n c (fun j => if j = i then v else S j) := by
  apply Array.ext_getElem?
  intro m
  rw [Array.getElem?_setIfInBounds, ring_size]
  by_cases hm : 4 + i = m
  · subst hm
    rw [if_pos rfl, if_pos (by omega), ring_at hi, if_pos rfl]
  · rw [if_neg hm]
    rcases Nat.lt_or_ge m 4 with h3 | h3
    · match m, h3 with
      | 0, _ => rfl
      | 1, _ => rfl
      | 2, _ => rfl
      | 3, _ => rfl
    · obtain ⟨j, rfl⟩ : ∃ j, m = 4 + j := ⟨m - 4, by omega⟩
      by_cases hj : j < 60
      · rw [ring_at hj, ring_at hj, if_neg (by omega)]
      · rw [Array.getElem?_eq_none (by rw [ring_size]; omega), Array.getElem?_eq_none (by rw [ring_size]; omega)]
theorem ring_congr (h : ∀ i < 60, S i = S' i) : ringC q f k A n c S = ringC q f k A n c S' := by
  unfold ringC
  rw [List.map_congr_left (fun i hi => by rw [h i (by simpa using hi)])]
end
/-- Block g is a ring. -/
def RA (w : World) (g : Nat) (t : TypeId) (q f k : Int) (A : Option Addr) (n c : Nat) (S : Nat → Bool) : Prop := w.heap[g]? = some (.cells (ringC q f k A n c S) t (0, 0))
section
variable {w w' : World} {g B : Nat} {t : TypeId} {q f k : Int} {A : Option Addr} {n c : Nat} {S S' : Nat → Bool}
theorem RA.lt (h : RA w g t q f k A n c S) : g < w.heap.size := heap_lt h
theorem RA.c0 (h : RA w g t q f k A n c S) : w.cell? ⟨g, 0, none⟩ = some (.int .i64 q) := (cell_of_row _ _ _ _ _ _ h).trans ring_0
theorem RA.c1 (h : RA w g t q f k A n c S) : w.cell? ⟨g, 1, none⟩ = some (.int .i64 f) := (cell_of_row _ _ _ _ _ _ h).trans ring_1
theorem RA.c2 (h : RA w g t q f k A n c S) : w.cell? ⟨g, 2, none⟩ = some (.int .i64 k) := (cell_of_row _ _ _ _ _ _ h).trans ring_2
theorem RA.c3 (h : RA w g t q f k A n c S) : w.cell? ⟨g, 3, none⟩ = some (.slice A n c) := (cell_of_row _ _ _ _ _ _ h).trans ring_3
theorem RA.at_ (h : RA w g t q f k A n c S) {i : Nat} (hi : i < 60) : w.cell? ⟨g, 4 + i, none⟩ = some (.bool (S i)) := (cell_of_row _ _ _ _ _ _ h).trans (ring_at hi)
theorem RA.free (h : RA w g t q f k A n c S) (i : Nat) : w.frozen? ⟨g, i, none⟩ = false := frozen_row h
theorem RA.below (h : RA w g t q f k A n c S) (hb : Below B w w') (hg : g < B) : RA w' g t q f k A n c S := (hb.block g hg).trans h
theorem RA.go (h : RA w g t q f k A n c S) (hb : Below w.heap.size w w') : RA w' g t q f k A n c S := h.below hb h.lt
theorem RA.grown {row : Option Nat} (h : RA w g t q f k A n c S) (hg : w.grownBy w' row) (hne : some g ≠ row) : RA w' g t q f k A n c S := (hg.block g h.lt hne).trans h
theorem RA.alloc (h : RA w g t q f k A n c S) (o : Obj) : RA (w.alloc o) g t q f k A n c S := (Below.heap_alloc w o g h.lt).trans h
theorem RA.drew (h : RA w g t q f k A n c S) : RA w.drew g t q f k A n c S := h
theorem RA.drewN (h : RA w g t q f k A n c S) (m : Nat) : RA (w.drewN m) g t q f k A n c S := h
theorem RA.far (h : RA w g t q f k A n c S) {p : Addr} (hp : g ≠ p.block) (u : Value) : RA (w.setCell p u) g t q f k A n c S := (Below.heap_setCell w p u g hp).trans h
theorem RA.set (h : RA w g t q f k A n c S) {i : Nat} (hi : i < 60) (v : Bool) : RA (w.setCell ⟨g, 4 + i, none⟩ (.bool v)) g t q f k A n c (fun j => if j = i then v else S j) := by
  have := heap_set w g (4 + i) _ _ (.bool v) h
  rw [ring_set hi] at this
  exact this
theorem RA.congr (h : RA w g t q f k A n c S) (he : ∀ i < 60, S i = S' i) : RA w g t q f k A n c S' := by
  have h' := h
  unfold RA at h' ⊢
  rw [h', ring_congr he]
end

def standC (F : Nat → Nat → Int) : Array Value := ((List.range 16).map (fun i => Value.int .i64 (F (i / 4) (i % 4)))).toArray
def updP (F : Nat → Nat → Int) (a b : Nat) (v : Int) : Nat → Nat → Int := fun p t => if p = a ∧ t = b then v else F p t
section
variable {F G : Nat → Nat → Int}
theorem stand_size (F : Nat → Nat → Int) : (standC F).size = 16 := by simp [standC]
theorem stand_idx (F : Nat → Nat → Int) {i : Nat} (hi : i < 16) : (standC F)[i]? = some (.int .i64 (F (i / 4) (i % 4))) := by simp [standC, hi]
theorem stand_at (F : Nat → Nat → Int) {x y : Nat} (hx : x < 4) (hy : y < 4) : (standC F)[x * 4 + y]? = some (.int .i64 (F x y)) := by
  rw [stand_idx F (by omega), show (x * 4 + y) / 4 = x by omega, show (x * 4 + y) % 4 = y by omega]
theorem stand_one (F : Nat → Nat → Int) : ∀ u ∈ (standC F).toList, u.oneCell' = true := by
  intro u hu
  simp only [standC, List.mem_map] at hu
  obtain ⟨i, _, rfl⟩ := hu
  rfl
theorem stand_congr (h : ∀ x < 4, ∀ y < 4, F x y = G x y) : standC F = standC G := by
  apply Array.ext_getElem?
  intro i
  by_cases hi : i < 16
  · rw [stand_idx F hi, stand_idx G hi, h _ (by omega) _ (by omega)]
  · rw [Array.getElem?_eq_none (by rw [stand_size]; omega), Array.getElem?_eq_none (by rw [stand_size]; omega)]
theorem stand_set (F : Nat → Nat → Int) {x y : Nat} (hx : x < 4) (hy : y < 4) (v : Int) : (standC F).setIfInBounds (x * 4 + y) (.int .i64 v) = standC (updP F x y v) := by
  apply Array.ext_getElem?
  intro i
  rw [Array.getElem?_setIfInBounds, stand_size]
  by_cases hi : x * 4 + y = i
  · subst hi
    rw [if_pos rfl, if_pos (by omega), stand_at _ hx hy]
    simp [updP]
  · rw [if_neg hi]
    by_cases hj : i < 16
    · rw [stand_idx _ hj, stand_idx _ hj]
      have : ¬ (i / 4 = x ∧ i % 4 = y) := by omega
      simp [updP, this]
    · rw [Array.getElem?_eq_none (by rw [stand_size]; omega), Array.getElem?_eq_none (by rw [stand_size]; omega)]
theorem stand_inj (h : standC F = standC G) : ∀ x < 4, ∀ y < 4, F x y = G x y := fun x hx y hy => by
  have := stand_at F hx hy
  rw [h, stand_at G hx hy] at this
  injection this with this
  injection this with _ this
  exact this.symm
end
/-- Block g is a stand. -/
def DA (w : World) (g : Nat) (t : TypeId) (F : Nat → Nat → Int) : Prop := w.heap[g]? = some (.cells (standC F) t (0, 0))
section
variable {w w' : World} {g B : Nat} {t : TypeId} {F G : Nat → Nat → Int}
theorem DA.lt (h : DA w g t F) : g < w.heap.size := heap_lt h
theorem DA.at_ (h : DA w g t F) {x y : Nat} (hx : x < 4) (hy : y < 4) : w.cell? ⟨g, x * 4 + y, none⟩ = some (.int .i64 (F x y)) := (cell_of_row _ _ _ _ _ _ h).trans (stand_at F hx hy)
theorem DA.free (h : DA w g t F) (i : Nat) : w.frozen? ⟨g, i, none⟩ = false := frozen_row h
theorem DA.below (h : DA w g t F) (hb : Below B w w') (hg : g < B) : DA w' g t F := (hb.block g hg).trans h
theorem DA.go (h : DA w g t F) (hb : Below w.heap.size w w') : DA w' g t F := h.below hb h.lt
theorem DA.grown {row : Option Nat} (h : DA w g t F) (hg : w.grownBy w' row) (hne : some g ≠ row) : DA w' g t F := (hg.block g h.lt hne).trans h
theorem DA.alloc (h : DA w g t F) (o : Obj) : DA (w.alloc o) g t F := (Below.heap_alloc w o g h.lt).trans h
theorem DA.drew (h : DA w g t F) : DA w.drew g t F := h
theorem DA.drewN (h : DA w g t F) (m : Nat) : DA (w.drewN m) g t F := h
theorem DA.far (h : DA w g t F) {p : Addr} (hp : g ≠ p.block) (u : Value) : DA (w.setCell p u) g t F := (Below.heap_setCell w p u g hp).trans h
theorem DA.set (h : DA w g t F) {x y : Nat} (hx : x < 4) (hy : y < 4) (v : Int) : DA (w.setCell ⟨g, x * 4 + y, none⟩ (.int .i64 v)) g t (updP F x y v) := by
  have := heap_set w g (x * 4 + y) _ _ (.int .i64 v) h
  rw [stand_set F hx hy] at this
  exact this
theorem DA.congr (h : DA w g t F) (he : ∀ x < 4, ∀ y < 4, F x y = G x y) : DA w g t G := by
  have h' := h
  unfold DA at h' ⊢
  rw [h', stand_congr he]
end
end Go.Proofs.YtmiefdjbhcpnbaaDoor

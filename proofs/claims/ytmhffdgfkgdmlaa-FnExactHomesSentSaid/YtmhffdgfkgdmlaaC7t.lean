/-
  Tracks: the program's stepsBehind; stands are compared.
-/
import Derived.Test.YtmhffdgfkgdmlaaC7l
import Derived.Test.YtmhffdgfkgdmlaaM60
import Derived.ChangeKeysEq
namespace Go.Proofs.Ytmhffdgfkgdmlaa
open Go.RowKit

set_option maxHeartbeats 400000 in
theorem stepsBehind_any (g : Nat) (q f k : Int) (A : Option Addr) (n c : Nat) (S : Nat → Bool) (x face : Int) (w : World) (hR : RA w g 75 q f k A n c S) (h0 : -1 ≤ x) (h1 : x ≤ q) (h6 : q ≤ 60) (hf : 1 ≤ face) (hf8 : face ≤ 8) :
    Calls Try.prog 129 #[.pointer (some ⟨g, 0, none⟩), .int .i64 x, .int .i64 face] w fun e w' => e = .returned (.int .i64 (if canB q f x face = true then newX x face else x)) ∧ w = w' := by
  have c0 := hR.c0
  have c1 := hR.c1
  obtain ⟨r, hr⟩ : ∃ r, r = (if canB q f x face = true then newX x face else x) := ⟨_, rfl⟩
  rw [← hr]
  have HR := Lib.hid hr
  clear hr
  go_enter Try.func129, Try.ntmps129
  by_cases hx : x = -1
  · have e1 : (x == -1) = true := by simpa using hx
    by_cases hff : face = f
    · have e2 : (face == f) = true := by simpa using hff
      have hr : r = 0 := by rw [HR.out, canB, if_pos (show x < 0 by omega), e2, newX, if_pos (show x < 0 by omega)]; rfl
      have HRR := Lib.hid hr
      clear hr hff
      go_wp2
      go_ret
      exact ⟨ret_int HRR.out.symm, rfl⟩
    · have e2 : (face == f) = false := by simpa using hff
      have hr : r = x := by rw [HR.out, canB, if_pos (show x < 0 by omega), e2]; rfl
      have HRR := Lib.hid hr
      have HXX := Lib.hid hx
      clear hr hff hx
      go_wp2
      go_ret
      exact ⟨ret_int HRR.out.symm, rfl⟩
  · have e1 : (x == -1) = false := by simpa using hx
    have hx0 : ¬ x < 0 := by omega
    have i1 : IntKind.i64.wrap (x + face) = x + face := IntWalk.i64_in _ (by omega)
    by_cases hle : x + face ≤ q
    · have hr : r = x + face := by rw [HR.out, canB, if_neg hx0, newX, if_neg hx0, if_pos (by simp; omega)]
      have hg : ¬ q < x + face := by omega
      have HRR := Lib.hid hr
      clear hr hx
      go_wp2
      go_ret
      exact ⟨ret_int HRR.out.symm, rfl⟩
    · have hr : r = x := by rw [HR.out, canB, if_neg hx0, if_neg (by simp; omega)]
      have hg : q < x + face := by omega
      have HRR := Lib.hid hr
      clear hr hx
      go_wp2
      go_ret
      exact ⟨ret_int HRR.out.symm, rfl⟩

theorem cells_intT : Try.prog.cellsOf 3 = 1 := by kernel_rfl
theorem cells_rowT : Try.prog.cellsOf 76 = 4 := by kernel_rfl
theorem infoIntT : (Try.prog.info? 3).map (fun i => (i.zero, i.size, i.bytes)) = some (some (.int .i64 0), 1, 8) := by kernel_rfl
theorem infoRowT : (Try.prog.info? 76).map (fun i => (i.zero, i.size, i.bytes)) = some (some (.agg #[.int .i64 0, .int .i64 0, .int .i64 0, .int .i64 0]), 4, 32) := by kernel_rfl
def row4 (f : Nat → Int) : Array Value := ((List.range 4).map (fun i => Value.int .i64 (f i))).toArray
theorem row4_at (f : Nat → Int) {i : Nat} (h : i < 4) : (row4 f)[i]? = some (.int .i64 (f i)) := by simp [row4, h]
theorem part_row4 (f : Nat → Int) (i : Nat) (hi : i < 4) (w : World) : (part 3 (row4 f) (i * 1)).run Try.prog w = .ok (.int .i64 (f i)) w := by
  obtain ⟨i0, h0, _, h2, _⟩ := info_parts infoIntT
  have := row4_at f hi
  simp [part, go_sem, this]
theorem eq_row4 (f g : Nat → Int) : ∀ (is : List Nat) (w : World), (∀ i ∈ is, i < 4) → (Op.eqItems 9998 3 1 (row4 f) (row4 g) is).run Try.prog w = .ok (is.all fun i => f i == g i) w
  | [], w, _ => by simp [Op.eqItems]
  | i :: is, w, h => by
    have h1 := part_row4 f i (h i (by simp)) w
    have h2 := part_row4 g i (h i (by simp)) w
    have ih := eq_row4 f g is w (fun j hj => h j (by simp [hj]))
    have he : (Op.equalIn 9998 3 (.int .i64 (f i)) (.int .i64 (g i))).run Try.prog w = .ok (f i == g i) w := by simp [go_sem]
    simp only [Op.eqItems, Sem.run_bind, h1, h2, he, Result.andThen_ok, List.all_cons]
    cases hb : (f i == g i)
    · simp
    · simpa using ih
theorem eq_rows (f g : Nat → Int) (w : World) : (Op.equalIn 9999 76 (.agg (row4 f)) (.agg (row4 g))).run Try.prog w = .ok ((List.range 4).all fun i => f i == g i) w := by
  obtain ⟨i0, hi, _, _, _⟩ := info_parts infoIntT
  have e : (Op.equalIn 9999 76 (.agg (row4 f)) (.agg (row4 g))).run Try.prog w = (Op.eqItems 9998 3 1 (row4 f) (row4 g) (List.range 4)).run Try.prog w := by
    rw [← cells_intT]
    exact run_equalIn_array w 9998 _ _ Try.underlying76 hi
  rw [e]
  exact eq_row4 f g _ w (fun i hi => by simpa using hi)
theorem part_stand (F : Nat → Nat → Int) (i : Nat) (hi : i < 4) (w : World) : (part 76 (standC F) (i * 4)).run Try.prog w = .ok (.agg (row4 (F i))) w := by
  rcases (show i = 0 ∨ i = 1 ∨ i = 2 ∨ i = 3 by omega) with rfl | rfl | rfl | rfl
  · kernel_rfl
  · kernel_rfl
  · kernel_rfl
  · kernel_rfl
theorem eq_stand (F G : Nat → Nat → Int) : ∀ (is : List Nat) (w : World), (∀ i ∈ is, i < 4) → (Op.eqItems 9999 76 4 (standC F) (standC G) is).run Try.prog w = .ok (is.all fun i => (List.range 4).all fun j => F i j == G i j) w
  | [], w, _ => by simp [Op.eqItems]
  | i :: is, w, h => by
    have h1 := part_stand F i (h i (by simp)) w
    have h2 := part_stand G i (h i (by simp)) w
    have ih := eq_stand F G is w (fun j hj => h j (by simp [hj]))
    have he := eq_rows (F i) (G i) w
    simp only [Op.eqItems, Sem.run_bind, h1, h2, he, Result.andThen_ok, List.all_cons]
    cases hb : ((List.range 4).all fun j => F i j == G i j)
    · simp
    · simpa using ih
def eqF (F G : Nat → Nat → Int) : Bool := (List.range 4).all fun i => (List.range 4).all fun j => F i j == G i j
theorem eqF_yes {F G : Nat → Nat → Int} (h : ∀ x < 4, ∀ y < 4, F x y = G x y) : eqF F G = true := by
  simp only [eqF, List.all_eq_true, List.mem_range, beq_iff_eq]
  exact h
theorem eqF_no {F G : Nat → Nat → Int} {x y : Nat} (hx : x < 4) (hy : y < 4) (h : F x y ≠ G x y) : eqF F G = false := by
  cases hb : eqF F G
  · rfl
  · simp only [eqF, List.all_eq_true, List.mem_range, beq_iff_eq] at hb
    exact absurd (hb x hx y hy) h
set_option maxRecDepth 100000 in
theorem eql_stands (F G : Nat → Nat → Int) (w : World) : (Op.equalIn 10000 78 (.agg (standC F)) (.agg (standC G))).run Try.prog w = .ok (eqF F G) w := by
  obtain ⟨i0, hi, _, _, _⟩ := info_parts infoRowT
  have e : (Op.equalIn 10000 78 (.agg (standC F)) (.agg (standC G))).run Try.prog w = (Op.eqItems 9999 76 4 (standC F) (standC G) (List.range 4)).run Try.prog w := by
    have h := run_equalIn_array w 9999 (standC F) (standC G) Try.underlying78 hi
    rw [cells_rowT] at h
    exact h
  rw [e]
  exact eq_stand F G _ w (fun i hi => by simpa using hi)
/-- Three results: a struct in a block of its own, and two slots. -/
theorem results_cell_slots2 {P : Program} {fn : Func} {p q r : Tmp} {ty : TypeId} (h : fn.results = #[.cell p ty, .tmp q, .tmp r]) (tmps : Array Value) (w : World) (g : Nat) (t : TypeId) (cs : Array Value) (fr : Nat × Nat) (d : TypeDesc) (v v2 : Value)
    (hp : tmps.getD p undef = .pointer (some ⟨g, 0, none⟩)) (hv : tmps.getD q undef = v) (hv2 : tmps.getD r undef = v2) (hg : w.heap[g]? = some (.cells cs t fr))
    (hu : P.underlying ty = some d) (hd : (match d with | .struct _ | .array _ _ => true | _ => false) = true) (hi : (P.info? ty).map (·.size) = some cs.size) :
    (results fn tmps).run P w = .ok (.tuple #[.agg cs, v, v2]) w := by
  have hp' : tmps[p]?.getD undef = .pointer (some ⟨g, 0, none⟩) := by simpa using hp
  have hv' : tmps[q]?.getD undef = v := by simpa using hv
  have hv2' : tmps[r]?.getD undef = v2 := by simpa using hv2
  simp [results, h, hp', hv', hv2', asAddr, run_loadVar_row w g t ty cs fr d hg hu hd hi]
end Go.Proofs.Ytmhffdgfkgdmlaa

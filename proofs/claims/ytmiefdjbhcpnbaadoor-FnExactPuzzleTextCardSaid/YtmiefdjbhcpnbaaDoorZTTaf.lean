/- Several texts, one behind the other: T0. -/
import Derived.Maps.AppendAt
import Derived.Shelf.Strings.OnBuilder
import Derived.Lib.Join
import Derived.Test.YtmiefdjbhcpnbaaDoorZTTae

namespace Go.Proofs
open Go.Shelf
set_option maxRecDepth 100000
shelf_lay Lays.n156 Nm 156 at Tryd as Tryd.laysJoin
end Go.Proofs
namespace Go.Proofs.YtmiefdjbhcpnbaaDoor
open Go.RowKit Go.Shelf

theorem extraJoin : Builder.Extra Tryd.prog Tryd.laysJoin_ren where
  sizeBuilder := by kernel_rfl
  liesBuilder := by kernel_rfl
  t5 := Tryd.underlying5
  a5 := Tryd.isAgg5
  z5 := Tryd.sizeOf5
  v5 := Tryd.zeroValue5
  infoByte := by kernel_rfl
  cellsByte := by kernel_rfl
  sizeByte := by kernel_rfl
  neB5 := by decide
theorem lib_join (b : UInt8) : ∀ (L : List (List UInt8)), Lib.join L [b] = joinL b L
  | [] => rfl
  | [x] => by rw [Lib.join_one]; rfl
  | x :: y :: t => by
    have ih := lib_join b (y :: t)
    rw [Lib.join_cons] at ih ⊢
    rw [joinL, ← ih]
    simp [Lib.joinTail]
/-- strings.Join by a sign, of texts in a row. -/
theorem join_any (g c : Nat) (L : List (List UInt8)) (b : UInt8) (w : World) (hr : RowS w g 9 L) (hc : L.length ≤ c) (hl : L.length ≤ 1048576) (hj : (joinL b L).length ≤ 100000000) :
    Calls Tryd.prog 45 #[.slice (some ⟨g, 0, none⟩) L.length c, .string ⟨#[b]⟩] w fun e w' => e = .returned (.string ⟨(joinL b L).toArray⟩) ∧ Below w.heap.size w w' := by
  have e1 : (L.map fun l => (⟨l.toArray⟩ : ByteArray)).map (·.data.toList) = L := by
    rw [List.map_map]
    refine (List.map_congr_left fun x _ => ?_).trans (List.map_id L)
    simp
  have e2 : (⟨#[b]⟩ : ByteArray).data.toList = [b] := rfl
  have := Any.strings_Join Tryd.laysJoin extraJoin g 0 c (L.map fun l => (⟨l.toArray⟩ : ByteArray)) ⟨#[b]⟩ w (fun j x hx => by
      have hj : j < L.length := by
        rcases Nat.lt_or_ge j L.length with h1 | h1
        · exact h1
        · rw [List.getElem?_eq_none (by simpa using h1)] at hx; cases hx
      rw [List.getElem?_map, List.getElem?_eq_getElem hj] at hx
      simp only [Option.map_some, Option.some.injEq] at hx
      rw [← hx, Nat.zero_add]
      exact hr.cell hj) hr.lt (by simp; omega) (by simpa using hc) (by rw [e1, e2, lib_join]; omega)
  rw [e1, e2, lib_join, List.length_map] at this
  exact this
theorem addL (P : Program) (x y : List UInt8) (h : x.length + y.length ≤ 1000000000) (W : World) : (Op.stringOp .add ⟨x.toArray⟩ ⟨y.toArray⟩).run P W = .ok (.string ⟨(x ++ y).toArray⟩) W := by
  have e : ∀ l : List UInt8, (⟨l.toArray⟩ : ByteArray).size = l.length := fun l => by show l.toArray.size = _; simp
  exact add_run _ _ _ (by apply ByteArray.ext; simp) (by rw [e, e]; omega) W
theorem own_sliceT {w : World} {base e size n : Nat} {v : Value} {xs : List Value} (h : w.ownsRow base e size v n xs) : ∃ A c, v = .slice A n c := by
  rcases h.2 with ⟨rfl, h0⟩ | ⟨g', cap, cs, rfl, _⟩
  · exact ⟨none, 0, by rw [h0]⟩
  · exact ⟨_, _, rfl⟩
theorem cell_new1T (w : World) (v : Value) (t : TypeId) : ∀ (j : Nat) u, [v][j]? = some u → (w.alloc (.cells #[v] t)).cell? ((⟨w.heap.size, 0, none⟩ : Addr).add j) = some u := by
  intro j u h
  match j, h with
  | 0, h => simp at h; subst h; rw [Addr.add_lit, cell_of_row _ _ _ #[v] t (0, 0) (heap_alloc_at _ _ _ rfl)]; rfl
theorem one_strT (s : ByteArray) : ∀ u ∈ [Value.string s], u.oneCell' = true := by intro u hu; simp at hu; subst hu; rfl
/-- Numbers with commas between them. -/
def comL (xs : List Int) : List UInt8 := joinL 44 (xs.map numL)
def comB (xs : List Int) : ByteArray := ⟨(comL xs).toArray⟩
theorem comL_len (xs : List Int) (h : ∀ x ∈ xs, x ≤ 999) : (comL xs).length ≤ 4 * xs.length := by
  have := joinL_len 44 3 (xs.map numL) (fun y hy => by
    obtain ⟨x, hx, rfl⟩ := List.mem_map.1 hy
    exact numL_len x (h x hx))
  rw [List.length_map] at this
  exact this
theorem comL_step (xs : List Int) (k : Nat) (hk : k < xs.length) (h0 : 0 < k) : comL (xs.take (k + 1)) = comL (xs.take k) ++ 44 :: numL xs[k] := by
  unfold comL
  rw [List.take_succ_eq_append_getElem hk, List.map_append, List.map_singleton, joinL_snoc _ _ _ (by
    intro e
    have h2 : ((xs.take k).map numL).length = 0 := by rw [e]; rfl
    rw [List.length_map, List.length_take] at h2
    omega)]
theorem comL_one (xs : List Int) (hk : 0 < xs.length) : comL (xs.take 1) = numL xs[0] := by
  unfold comL
  rw [List.take_succ_eq_append_getElem hk]
  simp [joinL]
end Go.Proofs.YtmiefdjbhcpnbaaDoor

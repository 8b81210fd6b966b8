/-
  Spots are keys: the facts on the program's type that the maps' laws ask.
-/
import Derived.Test.YtiekdokgjdgajabChecked
import Derived.Test.YtiekdokgjdgajabHead
import Derived.Test.YtiekdokgjdgajabWSpot
namespace Go.Proofs.Ytiekdokgjdgajab
open Go.RowKit

theorem spotWide : (match Try.prog.underlying 82 with | some (.array _ _) | some (.struct _) => true | _ => false) = true := by kernel_rfl
theorem spotRow : (82 : TypeId) < Try.prog.types.size := of_decide_eq_true (by kernel_rfl)
theorem spotLaw : WideMaps.KeyLaw Try.prog 82 := deep_law_laid head_laid (m := 2) (by omega) spotRow (by kernel_rfl) spotWide
theorem spotType : Try.prog.keyType 82 = true := by kernel_rfl
theorem spotCells : Try.prog.cellsOf 82 = 2 := by kernel_rfl
theorem spotZero (u : World) : (zeroValue 3).run Try.prog u = .ok (.int .i64 0) u := by kernel_rfl
theorem intU : Try.prog.underlying 3 = some (.int .i64) := by kernel_rfl
theorem boolU : Try.prog.underlying 4 = some .bool := by kernel_rfl
theorem mapU : Try.prog.underlying 55 = some (.map 82 3) := by kernel_rfl
theorem spotFields : ∃ fs, Try.prog.underlying 82 = some (.struct fs) ∧ fs.toList.map (fun f => (f.type, f.offset)) = [(3, 0), (4, 1)] ∧ fs.all (·.name != "_") = true := by
  refine ⟨_, Try.underlying82, by kernel_rfl, by kernel_rfl⟩

theorem cellsInt : Try.prog.cellsOf 3 = 1 := by kernel_rfl
theorem cellsBool : Try.prog.cellsOf 4 = 1 := by kernel_rfl
theorem typesSize : ∃ n, Try.prog.types.size = n + 1 := by
  have h : (82 : Nat) < Try.prog.types.size := spotRow
  exact ⟨_, (Nat.succ_pred_eq_of_pos (Nat.lt_of_le_of_lt (Nat.zero_le _) h)).symm⟩
theorem spotLits (c0 c1 : Value) : Try.prog.keyLits (Try.prog.types.size + 1) 82 [c0, c1] = match c0, c1 with
    | .int .i64 q, .bool m => if wfi q = true then some [.int .i64 q, .bool m] else none
    | _, _ => none := by
  obtain ⟨fs, hu, hm, hn⟩ := spotFields
  obtain ⟨n, hs⟩ := typesSize
  rw [hs]
  obtain ⟨l⟩ := fs
  match l, hm with
  | [f1, f2], hm =>
    simp at hm
    obtain ⟨⟨h1, h2⟩, h3, h4⟩ := hm
    have e1 : ∀ c, Try.prog.keyLits (n + 1) 3 [c] = match c with | .int .i64 q => if wfi q = true then some [.int .i64 q] else none | _ => none := fun c => by
      unfold Program.keyLits
      rw [intU]
      cases c <;> simp [wfi]
      rename_i k q
      cases k <;> simp
      rfl
    have e2 : ∀ c, Try.prog.keyLits (n + 1) 4 [c] = match c with | .bool m => some [.bool m] | _ => none := fun c => by
      unfold Program.keyLits
      rw [boolU]
      cases c <;> simp
    have e0 : Try.prog.keyLits (n + 1 + 1) 82 [c0, c1] = (Try.prog.keyLits (n + 1) 3 [c0]).bind fun a => (Try.prog.keyLits (n + 1) 4 [c1]).map fun b => a ++ b := by
      generalize hA : Try.prog.keyLits (n + 1) 3 [c0] = A
      generalize hB : Try.prog.keyLits (n + 1) 4 [c1] = B
      unfold Program.keyLits
      rw [hu]
      simp [spotCells, h1, h2, h3, h4, cellsInt, cellsBool, hA, hB]
      cases A <;> cases B <;> simp
      simpa using hn
    rw [e0, e1, e2]
    cases c0 <;> cases c1 <;> simp
    rename_i k q b
    cases k <;> simp
    by_cases h : wfi q = true <;> simp [h]
theorem spotKeyEq (c0 c1 : Value) : keyOf Try.prog 82 (.agg #[c0, c1]) = (match c0, c1 with
    | .int .i64 q, .bool m => if wfi q = true then some [Lit.int .i64 q, .bool m] else none
    | _, _ => none).map fun ls => .string (keyBytes ls) := by
  obtain ⟨fs, hu, _, _⟩ := spotFields
  rw [← spotLits]
  have hf : (Value.agg #[c0, c1]).formed Try.prog 82 = true := by simp [Value.formed, hu, spotCells]
  have hc : (Value.agg #[c0, c1]).cells.toList = [c0, c1] := rfl
  unfold keyOf
  rw [hu]
  simp only [spotType, hf, hc, Bool.and_self, if_true]
theorem spotKey : SpotKey Try.prog 82 where
  kl := spotLaw
  law := Maps.Keyed.of_law spotLaw
  key := fun q m h => by
    rw [spotV, spotKeyEq]
    simp [h]
  inv := fun v l h => by
    obtain ⟨fs, hu, _, _⟩ := spotFields
    have hf : v.formed Try.prog 82 = true := by
      unfold keyOf at h
      rw [hu] at h
      simp only [spotType, Bool.true_and] at h
      by_cases hf : v.formed Try.prog 82 = true
      · exact hf
      · simp [hf] at h
    cases v <;> simp [Value.formed, hu, spotCells] at hf
    rename_i cs
    obtain ⟨l⟩ := cs
    match l, hf with
    | [c0, c1], _ =>
      rw [spotKeyEq] at h
      cases c0 <;> cases c1 <;> simp at h
      rename_i k q m _
      obtain ⟨a, h, _⟩ := h
      cases k <;> simp at h
      exact ⟨q, m, rfl, h.1⟩
end Go.Proofs.Ytiekdokgjdgajab

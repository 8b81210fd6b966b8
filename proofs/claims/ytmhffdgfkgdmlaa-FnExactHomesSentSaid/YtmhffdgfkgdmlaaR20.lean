/-
  Tracks and slices of slices that came in, opened.
-/
import Derived.Test.YtmhffdgfkgdmlaaL20
import Derived.Test.YtmhffdgfkgdmlaaR8
import Derived.ChangeSlices
namespace Go.Proofs.Ytmhffdgfkgdmlaa
open Go.ChangeShapes Go.WideShapes Go.ChangeAt Go.RowKit Go.Deep Go.Joins

/-- A slice of integers that was read. -/
theorem trod_intS {H : Type} {enc : TypeId × Value → H} {W : World} {fuel : Nat} {v : Value} {y : DataW H × List MemPlace} (h : DataW.trod enc Try.prog W 0 (fun _ => true) true fuel 22 [v] = some y) :
    ∃ A n c, v = .slice A n c ∧ n ≤ maxLen ∧ (n ≤ 1048576 → ∃ xs : List Int, xs.length = n ∧ RI W W.heap.size A xs) := by
  rcases Go.ChangeShapes.open_ints Try.underlying22 Try.underlying3 (by kernel_rfl) h with ⟨hcs, _⟩ | ⟨a', len, cap, zs, hcs, _, hl, hm, hz, _, hat, _⟩
  · simp at hcs
    subst hcs
    exact ⟨none, 0, 0, rfl, Nat.zero_le _, fun _ => ⟨[], rfl, by simp, .inl rfl⟩⟩
  · simp at hcs
    subst hcs
    simp only [if_true] at hz
    refine ⟨some a', len, cap, rfl, Nat.le_trans hl hm, fun hn => ⟨zs.take len, by simp; omega, by simp; omega, ?_⟩⟩
    by_cases h0 : len = 0
    · subst h0; exact .inl (by simp)
    · obtain ⟨b, off, spot⟩ := a'
      have h1 := hat 0 (by omega)
      have hspot : spot = none := by simpa [Addr.add] using World.cell?_spot h1
      subst hspot
      refine .inr ⟨b, off, rfl, cell_lt (o := off) (by simpa [Addr.add] using h1), fun k hk => ?_⟩
      have hk' : k < len := by simp at hk; omega
      have h2 := hat k (by omega)
      simp only [List.getElem_take]
      rw [List.getD_eq_getElem?_getD, List.getElem?_eq_getElem (by omega)] at h2
      by_cases hk0 : k = 0
      · subst hk0; simpa [Addr.add] using h2
      · simpa [Addr.add, hk0] using h2

theorem array5 {α : Type} {cs : Array α} (h : cs.size = 5) : ∃ c0 c1 c2 c3 c4, cs = #[c0, c1, c2, c3, c4] := by
  obtain ⟨l⟩ := cs
  match l, h with
  | [c0, c1, c2, c3, c4], _ => exact ⟨c0, c1, c2, c3, c4, rfl⟩
set_option maxRecDepth 100000 in
theorem open_track {H : Type} {enc : TypeId × Value → H} {W : World} {base : Nat} {v : Value} {d : DataW H} {p : List MemPlace} (hval : Value.okWide Try.prog W .any base 24 v) (h : DataW.Trod enc Try.prog W 0 (fun _ => true) true 24 v d p) :
    ∃ q f k A1 n1 c1 A2 n2 c2, v = .agg #[.int .i64 q, .int .i64 f, .int .i64 k, .slice A1 n1 c1, .slice A2 n2 c2] ∧ n1 ≤ maxLen ∧ n2 ≤ maxLen ∧ (n1 ≤ 1048576 → ∃ st : List Int, st.length = n1 ∧ RI W W.heap.size A1 st) ∧ (n2 ≤ 1048576 → ∃ sf : List Int, sf.length = n2 ∧ RI W W.heap.size A2 sf) := by
  obtain ⟨cs, rfl, hsz⟩ := okWide_struct Try.underlying24 hval
  obtain ⟨c0, c1, c2, c3, c4, rfl⟩ := array5 (hsz.trans (by kernel_rfl))
  obtain ⟨fuel, hf⟩ := h
  obtain ⟨ys, n', hn', hy, hlen, hyl, hf⟩ := DataW.trod_struct Try.underlying24 hf
  have e0 : Try.prog.cellsOf 3 = 1 := by kernel_rfl
  have e1 : Try.prog.cellsOf 22 = 1 := by kernel_rfl
  have h0 : DataW.trod enc Try.prog W 0 (fun _ => true) true n' 3 [c0] = ys[0]? := by simpa [e0, Value.cells] using hf 0 _ rfl
  have h1 : DataW.trod enc Try.prog W 0 (fun _ => true) true n' 3 [c1] = ys[1]? := by simpa [e0, Value.cells] using hf 1 _ rfl
  have h2 : DataW.trod enc Try.prog W 0 (fun _ => true) true n' 3 [c2] = ys[2]? := by simpa [e0, Value.cells] using hf 2 _ rfl
  have h3 : DataW.trod enc Try.prog W 0 (fun _ => true) true n' 22 [c3] = ys[3]? := by simpa [e1, Value.cells] using hf 3 _ rfl
  have h4 : DataW.trod enc Try.prog W 0 (fun _ => true) true n' 22 [c4] = ys[4]? := by simpa [e1, Value.cells] using hf 4 _ rfl
  obtain ⟨n0, q0, _, _⟩ := DataW.trod_int Try.underlying3 (h0.trans (List.getElem?_eq_getElem (by rw [hyl]; decide)))
  obtain ⟨n1, q1, _, _⟩ := DataW.trod_int Try.underlying3 (h1.trans (List.getElem?_eq_getElem (by rw [hyl]; decide)))
  obtain ⟨n2, q2, _, _⟩ := DataW.trod_int Try.underlying3 (h2.trans (List.getElem?_eq_getElem (by rw [hyl]; decide)))
  simp at q0 q1 q2
  subst q0 q1 q2
  obtain ⟨A1, m1, k1, rfl, hm1, hr1⟩ := trod_intS (h3.trans (List.getElem?_eq_getElem (by rw [hyl]; decide)))
  obtain ⟨A2, m2, k2, rfl, hm2, hr2⟩ := trod_intS (h4.trans (List.getElem?_eq_getElem (by rw [hyl]; decide)))
  exact ⟨_, _, _, A1, m1, k1, A2, m2, k2, rfl, hm1, hm2, hr1, hr2⟩

set_option maxRecDepth 100000 in
theorem open_grid {H : Type} {enc : TypeId × Value → H} {W : World} {base : Nat} {v : Value} {d : DataW H} {p : List MemPlace} (hval : Value.okWide Try.prog W .any base 26 v) (h : DataW.Trod enc Try.prog W 0 (fun _ => true) true 26 v d p) :
    ∃ A n c R, v = .slice A n c ∧ n ≤ maxLen ∧ RawG W A n R ∧ ∀ y < n, (R y).2.1 ≤ 1048576 → ∃ xs : List Int, xs.length = (R y).2.1 ∧ RI W W.heap.size (R y).1 xs := by
  obtain ⟨a, n, c, rfl⟩ := okWide_slice Try.underlying26 hval
  obtain ⟨fuel, hf⟩ := h
  rcases open_slice Try.underlying26 hf with ⟨hcs, _⟩ | ⟨a', len, cap, m, n', D, Pl, hcs, _, hl, hm, hmm, _, hi⟩
  · simp [Value.cells] at hcs
    obtain ⟨rfl, rfl, rfl⟩ := hcs
    exact ⟨none, 0, 0, fun _ => (none, 0, 0), rfl, Nat.zero_le _, .inl rfl, fun y hy => by omega⟩
  · simp [Value.cells] at hcs
    obtain ⟨rfl, rfl, rfl⟩ := hcs
    simp only [if_true] at hmm
    have hC : Try.prog.cellsOf 22 = 1 := by kernel_rfl
    have H1 : ∀ i, i < n → ∃ r : Option Addr × Nat × Nat, W.cell? (a'.add i) = some (.slice r.1 r.2.1 r.2.2) ∧ r.2.1 ≤ maxLen ∧ (r.2.1 ≤ 1048576 → ∃ xs : List Int, xs.length = r.2.1 ∧ RI W W.heap.size r.1 xs) := fun i hlt => by
      obtain ⟨cs', hc, ht⟩ := hi i (by omega)
      rw [hC] at hc
      obtain ⟨_, hcl, hat⟩ := World.cells?_some hc
      match cs', hcl with
      | [v0], _ =>
        obtain ⟨A, m, k, rfl, hm, hr⟩ := trod_intS ht
        exact ⟨(A, m, k), by simpa [Addr.add] using hat 0 (by omega), hm, hr⟩
    obtain ⟨R, hR⟩ : ∃ R : Nat → Option Addr × Nat × Nat, ∀ i, i < n → W.cell? (a'.add i) = some (.slice (R i).1 (R i).2.1 (R i).2.2) ∧ (R i).2.1 ≤ maxLen ∧ ((R i).2.1 ≤ 1048576 → ∃ xs : List Int, xs.length = (R i).2.1 ∧ RI W W.heap.size (R i).1 xs) :=
      ⟨fun i => if hlt : i < n then Classical.choose (H1 i hlt) else (none, 0, 0), fun i hlt => by simp only [hlt, dite_true]; exact Classical.choose_spec (H1 i hlt)⟩
    refine ⟨some a', n, c, R, rfl, Nat.le_trans hl hm, ?_, fun y hy => (hR y hy).2.2⟩
    by_cases h0 : n = 0
    · exact .inl h0
    · obtain ⟨b, off, spot⟩ := a'
      have hspot : spot = none := by
        have := (hR 0 (by omega)).1
        simpa [Addr.add] using World.cell?_spot this
      subst hspot
      refine .inr ⟨b, off, rfl, cell_lt (o := off) (by simpa [Addr.add] using (hR 0 (by omega)).1), fun y hy => ⟨?_, (hR y hy).2.1⟩⟩
      have := (hR y hy).1
      by_cases hk0 : y = 0
      · subst hk0; simpa [Addr.add] using this
      · simpa [Addr.add, hk0] using this
/-- Rows that are short read as lists. -/
theorem rawG_rg {W : World} {A : Option Addr} {n : Nat} {R : Nat → Option Addr × Nat × Nat} (hr : RawG W A n R) (hn : n ≤ 1048576) (h : ∀ y < n, (R y).2.1 ≤ 1048576 ∧ ((R y).2.1 ≤ 1048576 → ∃ xs : List Int, xs.length = (R y).2.1 ∧ RI W W.heap.size (R y).1 xs)) : ∃ L : List (List Int), L.length = n ∧ RG W W.heap.size A L := by
  obtain ⟨F, hF⟩ : ∃ F : Nat → List Int, ∀ y, y < n → (F y).length = (R y).2.1 ∧ RI W W.heap.size (R y).1 (F y) :=
    ⟨fun y => if hlt : y < n then Classical.choose ((h y hlt).2 (h y hlt).1) else [], fun y hlt => by simp only [hlt, dite_true]; exact Classical.choose_spec ((h y hlt).2 (h y hlt).1)⟩
  refine ⟨(List.range n).map F, by simp, by simpa using hn, ?_⟩
  rcases hr with h0 | ⟨b, off, e, hb, hc⟩
  · subst h0; exact .inl rfl
  · refine .inr ⟨b, off, e, hb, fun y hy => ?_⟩
    have hy' : y < n := by simpa using hy
    refine ⟨(R y).1, (R y).2.2, ?_, ?_⟩
    · simp only [List.getElem_map, List.getElem_range, (hF y hy').1]; exact (hc y hy').1
    · simp only [List.getElem_map, List.getElem_range]; exact (hF y hy').2
end Go.Proofs.Ytmhffdgfkgdmlaa

/-
  Clues and puzzles that came in, opened.
-/
import Derived.Test.YtjngiinfpoappaaWQuad
import Derived.Test.YtjngiinfpoappaaR8
import Derived.ChangeSlices
namespace Go.Proofs.Ytjngiinfpoappaa
open Go.ChangeShapes Go.WideShapes Go.ChangeAt Go.RowKit Go.Deep Go.Joins

set_option maxRecDepth 100000 in
theorem open_clue {H : Type} {enc : TypeId × Value → H} {W : World} {base : Nat} {v : Value} {d : DataW H} {p : List MemPlace} (hval : Value.okWide Try.prog W .any base 108 v) (h : DataW.Trod enc Try.prog W 0 (fun _ => true) true 108 v d p) :
    ∃ k a b c : Int, v = .agg #[.int .i64 k, .int .i64 a, .int .i64 b, .int .i64 c] := by
  obtain ⟨v0, v1, v2, v3, y0, y1, y2, y3, n, rfl, _, _, h0, h1, h2, h3⟩ := open_agg4 Try.underlying108 (by kernel_rfl) (by kernel_rfl) hval h
  obtain ⟨n0, q0, _, _⟩ := DataW.trod_int Try.underlying3 h0
  obtain ⟨n1, q1, _, _⟩ := DataW.trod_int Try.underlying3 h1
  obtain ⟨n2, q2, _, _⟩ := DataW.trod_int Try.underlying3 h2
  obtain ⟨n3, q3, _, _⟩ := DataW.trod_int Try.underlying3 h3
  simp at q0 q1 q2 q3
  subst q0 q1 q2 q3
  exact ⟨n0, n1, n2, n3, rfl⟩

set_option maxRecDepth 100000 in
theorem open_clues {H : Type} {enc : TypeId × Value → H} {W : World} {fuel : Nat} {v : Value} {y : DataW H × List MemPlace} (h : DataW.trod enc Try.prog W 0 (fun _ => true) true fuel 25 [v] = some y) :
    ∃ A n c, v = .slice A n c ∧ n ≤ maxLen ∧ (n ≤ 1048576 → ∃ L : List Qd, L.length = n ∧ RQ W W.heap.size A L) := by
  rcases open_slice Try.underlying25 h with ⟨hcs, _⟩ | ⟨a, len, cap, m, n, D, Pl, hcs, _, hl, hm, hmm, _, hi⟩
  · simp at hcs
    exact ⟨none, 0, 0, hcs, Nat.zero_le _, fun _ => ⟨[], rfl, by simp, .inl rfl⟩⟩
  · simp at hcs
    refine ⟨some a, len, cap, hcs, Nat.le_trans hl hm, fun hn => ?_⟩
    simp only [if_true] at hmm
    subst hmm
    have hC : Try.prog.cellsOf 108 = 4 := by kernel_rfl
    have H1 : ∀ i, i < len → ∃ q : Qd, W.cell? (a.add (i * 4)) = some (.int .i64 q.1) ∧ W.cell? ((a.add (i * 4)).add 1) = some (.int .i64 q.2.1) ∧ W.cell? ((a.add (i * 4)).add 2) = some (.int .i64 q.2.2.1) ∧ W.cell? ((a.add (i * 4)).add 3) = some (.int .i64 q.2.2.2) := fun i hlt => by
      obtain ⟨cs', hc, ht⟩ := hi i (by omega)
      rw [hC] at hc
      obtain ⟨ys, n', hn', hy, hlen, hyl, hf⟩ := DataW.trod_struct Try.underlying108 ht
      obtain ⟨_, hcl, hat⟩ := World.cells?_some hc
      match cs', hcl with
      | [v0, v1, v2, v3], _ =>
        have e0 : Try.prog.cellsOf 3 = 1 := by kernel_rfl
        have h0 : DataW.trod enc Try.prog W 0 (fun _ => true) true n' 3 [v0] = ys[0]? := by simpa [e0] using hf 0 _ rfl
        have h1 : DataW.trod enc Try.prog W 0 (fun _ => true) true n' 3 [v1] = ys[1]? := by simpa [e0] using hf 1 _ rfl
        have h2 : DataW.trod enc Try.prog W 0 (fun _ => true) true n' 3 [v2] = ys[2]? := by simpa [e0] using hf 2 _ rfl
        have h3 : DataW.trod enc Try.prog W 0 (fun _ => true) true n' 3 [v3] = ys[3]? := by simpa [e0] using hf 3 _ rfl
        have c0 := hat 0 (by omega)
        have c1 := hat 1 (by omega)
        have c2 := hat 2 (by omega)
        have c3 := hat 3 (by omega)
        obtain ⟨n0, q0, _, _⟩ := DataW.trod_int Try.underlying3 (h0.trans (List.getElem?_eq_getElem (by rw [hyl]; decide)))
        obtain ⟨n1, q1, _, _⟩ := DataW.trod_int Try.underlying3 (h1.trans (List.getElem?_eq_getElem (by rw [hyl]; decide)))
        obtain ⟨n2, q2, _, _⟩ := DataW.trod_int Try.underlying3 (h2.trans (List.getElem?_eq_getElem (by rw [hyl]; decide)))
        obtain ⟨n3, q3, _, _⟩ := DataW.trod_int Try.underlying3 (h3.trans (List.getElem?_eq_getElem (by rw [hyl]; decide)))
        simp at q0 q1 q2 q3
        subst q0 q1 q2 q3
        refine ⟨(n0, n1, n2, n3), by simpa [Addr.add] using c0, by simpa using c1, by simpa using c2, by simpa using c3⟩
    obtain ⟨F, hF⟩ : ∃ F : Nat → Qd, ∀ i, i < len → W.cell? (a.add (i * 4)) = some (.int .i64 (F i).1) ∧ W.cell? ((a.add (i * 4)).add 1) = some (.int .i64 (F i).2.1) ∧ W.cell? ((a.add (i * 4)).add 2) = some (.int .i64 (F i).2.2.1) ∧ W.cell? ((a.add (i * 4)).add 3) = some (.int .i64 (F i).2.2.2) :=
      ⟨fun i => if hlt : i < len then Classical.choose (H1 i hlt) else zeroQ, fun i hlt => by simp only [hlt, dite_true]; exact Classical.choose_spec (H1 i hlt)⟩
    refine ⟨(List.range len).map F, by simp, by simpa using hn, ?_⟩
    by_cases h0 : len = 0
    · subst h0; exact .inl rfl
    · obtain ⟨b, off, spot⟩ := a
      have hspot : spot = none := by
        have := (hF 0 (by omega)).1
        simpa [Addr.add] using World.cell?_spot this
      subst hspot
      refine .inr ⟨b, off, rfl, cell_lt (o := off) (by simpa [Addr.add] using (hF 0 (by omega)).1), fun k hk => ?_⟩
      have hk' : k < len := by simpa using hk
      have hq := hF k hk'
      simp only [List.getElem_map, List.getElem_range]
      by_cases hk0 : k = 0
      · subst hk0
        exact ⟨by simpa [Addr.add] using hq.1, by simpa [Addr.add] using hq.2.1, by simpa [Addr.add] using hq.2.2.1, by simpa [Addr.add] using hq.2.2.2⟩
      · have e4 : ¬ k * 4 = 0 := by omega
        exact ⟨by simpa [Addr.add, e4] using hq.1, by simpa [Addr.add, e4] using hq.2.1, by simpa [Addr.add, e4] using hq.2.2.1, by simpa [Addr.add, e4] using hq.2.2.2⟩

set_option maxRecDepth 100000 in
theorem open_puzzle {H : Type} {enc : TypeId × Value → H} {W : World} {base : Nat} {v : Value} {d : DataW H} {p : List MemPlace} (hval : Value.okWide Try.prog W .any base 27 v) (h : DataW.Trod enc Try.prog W 0 (fun _ => true) true 27 v d p) :
    ∃ q f A n c, v = .agg #[.int .i64 q, .int .i64 f, .slice A n c] ∧ n ≤ maxLen ∧ (n ≤ 1048576 → ∃ L : List Qd, L.length = n ∧ RQ W W.heap.size A L) := by
  obtain ⟨v0, v1, v2, y0, y1, y2, n, rfl, _, _, h0, h1, h2⟩ := open_agg3 Try.underlying27 (by kernel_rfl) (by kernel_rfl) hval h
  obtain ⟨n0, q0, _, _⟩ := DataW.trod_int Try.underlying3 h0
  obtain ⟨n1, q1, _, _⟩ := DataW.trod_int Try.underlying3 h1
  obtain ⟨A, len, c, rfl, hn, hj⟩ := open_clues h2
  simp at q0 q1
  subst q0 q1
  exact ⟨n0, n1, A, len, c, rfl, hn, hj⟩
end Go.Proofs.Ytjngiinfpoappaa

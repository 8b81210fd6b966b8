/-
  From a walk to a law's row: what every law of this seat shares; a Board that came in, opened.
-/
import Derived.Test.YteogfondnpfklaaHead
import Derived.Test.YteogfondnpfklaaWRow
import Derived.WalkKit
import Derived.ProofKit
import Derived.OpenShut
import Derived.Lib.SmallJoins
import Derived.Deep.Slices
import Derived.Deep.Fields
import Derived.ChangeSame
import Derived.Carry
namespace Go.Proofs.Yteogfondnpfklaa
open Go.ChangeShapes Go.WideShapes Go.ChangeAt Go.RowKit Go.Deep Go.Joins


section
variable {H : Type} {enc : TypeId × Value → H} {P : Program}
/-- All arguments read behind the call as before it. -/
theorem stays_all (hl : laidOutB P = true) {W W' : World} (hb : Below W.heap.size W W') : ∀ {ts : List TypeId} {vs : List Value} {ds : List (DataW H)} {ps : List MemPlace},
    ts.all (fun t => P.readableRec t && decide (t < P.types.size)) = true → DataW.TrodAll enc P W 0 (fun _ => true) true ts vs ds ps → (∀ x ∈ ps, x.block < W.heap.size) →
    DataW.TrodAll enc P W' 0 (fun b => decide (b < W.heap.size)) true ts vs ds ps
  | [], vs, ds, ps, _, h, _ => by
    obtain ⟨rfl, rfl, rfl⟩ := trodAll_nil h
    exact trodAll_mk0
  | t :: ts, vs, ds, ps, hr, h, hlt => by
    obtain ⟨v, vs', d, ds', p, q, rfl, rfl, rfl, h1, h2⟩ := trodAll_cons h
    simp only [List.all_cons, Bool.and_eq_true, decide_eq_true_eq] at hr
    exact trodAll_cons_mk (Below.trod hl hr.1.1 hr.1.2 h1 hb fun x hx => hlt x (by simp [hx])) (stays_all hl hb (by simpa using hr.2) h2 fun x hx => hlt x (by simp [hx]))

/-- What a law's post asks, once its call returned true and wrote no old memory. -/
theorem law_post {f : Func} {s : ChangeSpec} {W W' : World} {args : Array Value} {ds : List (DataW H)} {before : List MemPlace} {T : TypeId}
    (hl : laidOutB P = true) (hW : DataW.Whole enc P f.params.toList s.vars false W args.toList ds [] before) (hA : DataW.TrodAll enc P W 0 (fun _ => true) true f.params.toList args.toList ds before)
    (hv : s.vars = []) (hp : f.params.toList.all (fun t => P.readableRec t && decide (t < P.types.size)) = true) (hr : f.resultTypes = #[T]) (hT : P.underlying T = some .bool)
    (e1 : (s.fn H (ds ++ [])).results = [.lit (.bool true)]) (e2 : (s.fn H (ds ++ [])).args = ds) (e3 : (s.fn H (ds ++ [])).vars = []) (hb : Below W.heap.size W W') :
    s.post enc P f false true false false W args (.bool true) W' := by
  refine ⟨ds, [], before, [], before, [], hW, ?_, ?_, ?_, hb.frame _, fun h => by cases h⟩
  · rw [e1, hr]
    exact trodAll_mk1 (shut_bool hT true)
  · rw [e2]
    exact stays_all hl hb hp hA (fun x hx => by simpa using hW.lt x hx)
  · rw [e3, hv]
    rfl
end

set_option maxRecDepth 100000 in
/-- An array of two integers that was read: its elements are jumps. -/
theorem open_jumps {H : Type} {enc : TypeId × Value → H} {W : World} {fuel : Nat} {v : Value} {y : DataW H × List MemPlace} (h : DataW.trod enc Try.prog W 0 (fun _ => true) true fuel 22 [v] = some y) :
    ∃ A n c, v = .slice A n c ∧ n ≤ maxLen ∧ (n ≤ 1048576 → ∃ js : List (Int × Int), js.length = n ∧ RJ W W.heap.size A js) := by
  rcases open_slice Try.underlying22 h with ⟨hcs, _⟩ | ⟨a, len, cap, m, n, D, Pl, hcs, _, hl, hm, hmm, _, hi⟩
  · simp at hcs
    exact ⟨none, 0, 0, hcs, Nat.zero_le _, fun _ => ⟨[], rfl, by simp, fun j hj => by simp at hj, .inl rfl⟩⟩
  · simp at hcs
    refine ⟨some a, len, cap, hcs, Nat.le_trans hl hm, fun hn => ?_⟩
    simp only [if_true] at hmm
    subst hmm
    have hC : Try.prog.cellsOf 115 = 2 := by kernel_rfl
    have H1 : ∀ i, i < len → ∃ ab : Int × Int, wfi ab.1 = true ∧ wfi ab.2 = true ∧ W.cell? (a.add (i * 2)) = some (.int .i64 ab.1) ∧ W.cell? ((a.add (i * 2)).add 1) = some (.int .i64 ab.2) := fun i hlt => by
      obtain ⟨cs', hc, ht⟩ := hi i (by omega)
      rw [hC] at hc
      obtain ⟨ys, n', hn', hy, hlen, hyl, hf⟩ := DataW.trod_struct Try.underlying115 ht
      obtain ⟨_, hcl, hat⟩ := World.cells?_some hc
      match cs', hcl with
      | [v0, v1], _ =>
        have e0 : Try.prog.cellsOf 3 = 1 := by kernel_rfl
        have h0 : DataW.trod enc Try.prog W 0 (fun _ => true) true n' 3 [v0] = ys[0]? := by simpa [e0] using hf 0 _ rfl
        have h1 : DataW.trod enc Try.prog W 0 (fun _ => true) true n' 3 [v1] = ys[1]? := by simpa [e0] using hf 1 _ rfl
        have c0 := hat 0 (by omega)
        have c1 := hat 1 (by omega)
        obtain ⟨n0, q0, _, w0⟩ := DataW.trod_int Try.underlying3 (h0.trans (List.getElem?_eq_getElem (by rw [hyl]; decide)))
        obtain ⟨n1, q1, _, w1⟩ := DataW.trod_int Try.underlying3 (h1.trans (List.getElem?_eq_getElem (by rw [hyl]; decide)))
        simp at q0 q1
        subst q0 q1
        refine ⟨(n0, n1), w0, w1, by simpa [Addr.add] using c0, by simpa using c1⟩
    obtain ⟨F, hF⟩ : ∃ F : Nat → Int × Int, ∀ i, i < len → wfi (F i).1 = true ∧ wfi (F i).2 = true ∧ W.cell? (a.add (i * 2)) = some (.int .i64 (F i).1) ∧ W.cell? ((a.add (i * 2)).add 1) = some (.int .i64 (F i).2) :=
      ⟨fun i => if hlt : i < len then Classical.choose (H1 i hlt) else (0, 0), fun i hlt => by simp only [hlt, dite_true]; exact Classical.choose_spec (H1 i hlt)⟩
    refine ⟨(List.range len).map F, by simp, by simpa using hn, fun j hj => ?_, ?_⟩
    · obtain ⟨i, hi', rfl⟩ := List.mem_map.1 hj
      have := hF i (by simpa using hi')
      exact ⟨this.1, this.2.1⟩
    · by_cases h0 : len = 0
      · subst h0; exact .inl rfl
      · obtain ⟨b, off, spot⟩ := a
        have hspot : spot = none := by
          have := (hF 0 (by omega)).2.2.1
          simpa [Addr.add] using World.cell?_spot this
        subst hspot
        refine .inr ⟨b, off, rfl, cell_lt (o := off) (by simpa [Addr.add] using (hF 0 (by omega)).2.2.1), fun k hk => ?_⟩
        have hk' : k < len := by simpa using hk
        have := hF k hk'
        simp only [List.getElem_map, List.getElem_range]
        refine ⟨?_, ?_⟩
        · have := this.2.2.1
          by_cases hk0 : k = 0
          · subst hk0; simpa [Addr.add] using this
          · simpa [Addr.add, show ¬ k * 2 = 0 by omega] using this
        · have := this.2.2.2
          by_cases hk0 : k = 0
          · subst hk0; simpa [Addr.add] using this
          · simpa [Addr.add, show ¬ k * 2 = 0 by omega] using this

set_option maxRecDepth 100000 in
theorem open_board {H : Type} {enc : TypeId × Value → H} {W : World} {base : Nat} {v : Value} {d : DataW H} {p : List MemPlace} (hval : Value.okWide Try.prog W .any base 24 v) (h : DataW.Trod enc Try.prog W 0 (fun _ => true) true 24 v d p) :
    ∃ s f o A n c, v = .agg #[.int .i64 s, .int .i64 f, .int .i64 o, .slice A n c] ∧ wfi s = true ∧ wfi f = true ∧ wfi o = true ∧ n ≤ maxLen ∧ (n ≤ 1048576 → ∃ js : List (Int × Int), js.length = n ∧ RJ W W.heap.size A js) := by
  obtain ⟨v0, v1, v2, v3, y0, y1, y2, y3, n, rfl, _, _, h0, h1, h2, h3⟩ := open_agg4 Try.underlying24 (by kernel_rfl) (by kernel_rfl) hval h
  obtain ⟨n0, q0, _, w0⟩ := DataW.trod_int Try.underlying3 h0
  obtain ⟨n1, q1, _, w1⟩ := DataW.trod_int Try.underlying3 h1
  obtain ⟨n2, q2, _, w2⟩ := DataW.trod_int Try.underlying3 h2
  obtain ⟨A, len, c, rfl, hn, hj⟩ := open_jumps h3
  simp at q0 q1 q2
  subst q0 q1 q2
  exact ⟨n0, n1, n2, A, len, c, rfl, w0, w1, w2, hn, hj⟩
end Go.Proofs.Yteogfondnpfklaa

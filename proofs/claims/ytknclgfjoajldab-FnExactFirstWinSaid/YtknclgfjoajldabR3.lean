/-
  A race among a law's arguments, opened.
-/
import Derived.Test.YtknclgfjoajldabR0
namespace Go.Proofs.Ytknclgfjoajldab
open Go.ChangeShapes Go.WideShapes Go.ChangeAt Go.RowKit Go.Deep Go.Joins

theorem array7 {α : Type} {cs : Array α} (h : cs.size = 7) : ∃ c0 c1 c2 c3 c4 c5 c6, cs = #[c0, c1, c2, c3, c4, c5, c6] := by
  obtain ⟨l⟩ := cs
  match l, h with
  | [c0, c1, c2, c3, c4, c5, c6], _ => exact ⟨c0, c1, c2, c3, c4, c5, c6, rfl⟩
set_option maxRecDepth 100000 in
theorem open_race {H : Type} {enc : TypeId × Value → H} {W : World} {base : Nat} {v : Value} {d : DataW H} {p : List MemPlace} (hval : Value.okWide Try.prog W .any base 41 v) (h : DataW.Trod enc Try.prog W 0 (fun _ => true) true 41 v d p) :
    ∃ s f o A n c me fi ot, v = .agg #[.int .i64 s, .int .i64 f, .int .i64 o, .slice A n c, .int .i64 me, .int .i64 fi, .int .i64 ot] ∧ n ≤ maxLen ∧ (n ≤ 1048576 → ∃ js : List (Int × Int), js.length = n ∧ RJ W W.heap.size A js) := by
  have e1 : Try.prog.cellsOf 3 = 1 := by kernel_rfl
  have e4 : Try.prog.cellsOf 39 = 4 := by kernel_rfl
  have es : Try.prog.cellsOf 37 = 1 := by kernel_rfl
  obtain ⟨cs, rfl, hsz⟩ := okWide_struct Try.underlying41 hval
  obtain ⟨c0, c1, c2, c3, c4, c5, c6, rfl⟩ := array7 (hsz.trans (by kernel_rfl))
  obtain ⟨fuel, hf⟩ := h
  obtain ⟨y0, y1, y2, y3, n, _, _, h0, h4, h5, h6⟩ := trod_struct4 Try.underlying41 hf
  simp [Value.cells, e1, e4] at h0 h4 h5 h6
  obtain ⟨x0, x1, x2, x3, k, _, _, g0, g1, g2, g3⟩ := trod_struct4 Try.underlying39 h0
  simp [e1, es] at g0 g1 g2 g3
  obtain ⟨n0, q0, _, w0⟩ := DataW.trod_int Try.underlying3 g0
  obtain ⟨n1, q1, _, w1⟩ := DataW.trod_int Try.underlying3 g1
  obtain ⟨n2, q2, _, w2⟩ := DataW.trod_int Try.underlying3 g2
  obtain ⟨n4, q4, _, w4⟩ := DataW.trod_int Try.underlying3 h4
  obtain ⟨n5, q5, _, w5⟩ := DataW.trod_int Try.underlying3 h5
  obtain ⟨n6, q6, _, w6⟩ := DataW.trod_int Try.underlying3 h6
  obtain ⟨A, len, c, rfl, hn, hj⟩ := open_jumps g3
  simp at q0 q1 q2 q4 q5 q6
  subst q0 q1 q2 q4 q5 q6
  exact ⟨n0, n1, n2, A, len, c, n4, n5, n6, rfl, hn, hj⟩
end Go.Proofs.Ytknclgfjoajldab

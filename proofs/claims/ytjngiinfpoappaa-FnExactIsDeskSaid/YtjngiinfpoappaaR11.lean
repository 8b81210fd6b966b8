/-
  A desk among a law's arguments, opened.
-/
import Derived.Test.YtjngiinfpoappaaR0
namespace Go.Proofs.Ytjngiinfpoappaa
open Go.ChangeShapes Go.WideShapes Go.ChangeAt Go.RowKit Go.Deep Go.Joins

theorem array5 {α : Type} {cs : Array α} (h : cs.size = 5) : ∃ c0 c1 c2 c3 c4, cs = #[c0, c1, c2, c3, c4] := by
  obtain ⟨l⟩ := cs
  match l, h with
  | [c0, c1, c2, c3, c4], _ => exact ⟨c0, c1, c2, c3, c4, rfl⟩
set_option maxRecDepth 100000 in
theorem open_desk {H : Type} {enc : TypeId × Value → H} {W : World} {base : Nat} {v : Value} {d : DataW H} {p : List MemPlace} (hval : Value.okWide Try.prog W .any base 62 v) (h : DataW.Trod enc Try.prog W 0 (fun _ => true) true 62 v d p) :
    ∃ s f o A n c sq, v = .agg #[.int .i64 s, .int .i64 f, .int .i64 o, .slice A n c, .int .i64 sq] ∧ n ≤ maxLen ∧ (n ≤ 1048576 → ∃ js : List (Int × Int), js.length = n ∧ RJ W W.heap.size A js) := by
  have e1 : Try.prog.cellsOf 3 = 1 := by kernel_rfl
  have e4 : Try.prog.cellsOf 60 = 4 := by kernel_rfl
  have es : Try.prog.cellsOf 58 = 1 := by kernel_rfl
  obtain ⟨cs, rfl, hsz⟩ := okWide_struct Try.underlying62 hval
  obtain ⟨c0, c1, c2, c3, c4, rfl⟩ := array5 (hsz.trans (by kernel_rfl))
  obtain ⟨fuel, hf⟩ := h
  obtain ⟨y0, y1, n, _, _, h0, h4⟩ := trod_struct2 Try.underlying62 hf
  simp [Value.cells, e1, e4] at h0 h4
  obtain ⟨x0, x1, x2, x3, k, _, _, g0, g1, g2, g3⟩ := trod_struct4 Try.underlying60 h0
  simp [e1, es] at g0 g1 g2 g3
  obtain ⟨n0, q0, _, w0⟩ := DataW.trod_int Try.underlying3 g0
  obtain ⟨n1, q1, _, w1⟩ := DataW.trod_int Try.underlying3 g1
  obtain ⟨n2, q2, _, w2⟩ := DataW.trod_int Try.underlying3 g2
  obtain ⟨n4, q4, _, w4⟩ := DataW.trod_int Try.underlying3 h4
  obtain ⟨A, len, c, rfl, hn, hj⟩ := open_jumps g3
  simp at q0 q1 q2 q4
  subst q0 q1 q2 q4
  exact ⟨n0, n1, n2, A, len, c, n4, rfl, hn, hj⟩
end Go.Proofs.Ytjngiinfpoappaa

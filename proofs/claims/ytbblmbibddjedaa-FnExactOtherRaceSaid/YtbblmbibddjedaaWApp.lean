/-
  append(s, js...): a whole slice of jumps laid behind an empty one. Over any program.
-/
import Derived.Test.YtbblmbibddjedaaWRow
import Derived.Maps.AppendAt
import Derived.Deep.AppendSrc
namespace Go.Proofs.Ytbblmbibddjedaa
open Go.RowKit

theorem flatJ_lenA : ∀ js : List (Int × Int), (flatJ js).length = js.length * 2
  | [] => rfl
  | x :: t => by
    have e : flatJ (x :: t) = .int .i64 x.1 :: .int .i64 x.2 :: flatJ t := by simp [flatJ]
    rw [e]
    have := flatJ_lenA t
    simp
    omega
theorem flatJ_get (js : List (Int × Int)) (j : Nat) (u : Value) (h : (flatJ js)[j]? = some u) : ∃ k, ∃ hk : k < js.length, (j = 2 * k ∧ u = .int .i64 js[k].1) ∨ (j = 2 * k + 1 ∧ u = .int .i64 js[k].2) := by
  induction js generalizing j with
  | nil => simp [flatJ] at h
  | cons a t ih =>
    have e : flatJ (a :: t) = .int .i64 a.1 :: .int .i64 a.2 :: flatJ t := by simp [flatJ]
    rw [e] at h
    match j with
    | 0 => simp at h; exact ⟨0, by simp, .inl ⟨rfl, by simp [← h]⟩⟩
    | 1 => simp at h; exact ⟨0, by simp, .inr ⟨rfl, by simp [← h]⟩⟩
    | j + 2 =>
      simp at h
      obtain ⟨k, hk, h⟩ := ih j h
      refine ⟨k + 1, by simpa using hk, ?_⟩
      rcases h with ⟨rfl, hu⟩ | ⟨rfl, hu⟩
      · exact .inl ⟨by omega, by simpa using hu⟩
      · exact .inr ⟨by omega, by simpa using hu⟩

section
variable {P : Program} {ops : Array Oper} {rest : List Oper} {o : Oper} {a : Act} {w : World} {Q : Exit → Act → World → Prop}
/-- The jumps js, at a slice that came in or was made, behind a slice of no elements of the call's own. -/
theorem run_append_copy (B : Nat) (t ty e : TypeId) (i : TypeInfo) (z : Value) (ht : P.underlying t = some (.slice e)) (hi : P.info? e = some i) (hz : i.zero = some z)
    (hsize : i.size = 2) (hby : i.bytes = 16) (hzs : z.cells.size = 2) (v : Value) (hown : w.ownsRow B e 2 v 0 []) (b0 : Nat) (A : Option Addr) (c : Nat) (js : List (Int × Int)) (hj : RJ w b0 A js) (hB : B ≤ w.heap.size) :
    ∃ A' c' w', (Builtin.append_ #[t, t] ty #[v, .slice A js.length c]).run P w = .ok (.slice A' js.length c') w' ∧ w'.ownsRow B e 2 (.slice A' js.length c') js.length (flatJ js) ∧ w.grownBy w' v.ownBlock := by
  obtain ⟨hl, _, h⟩ := hj
  have hfl : (flatJ js).length = js.length * 2 := flatJ_lenA js
  have one : ∀ u ∈ flatJ js, u.oneCell' = true := by
    intro u hu
    simp only [flatJ, List.mem_flatMap] at hu
    obtain ⟨x, _, hx⟩ := hu
    simp at hx
    rcases hx with rfl | rfl <;> rfl
  cases A with
  | some ad =>
    have hnews : ∀ j u, (flatJ js)[j]? = some u → w.cell? (ad.add j) = some u := by
      intro j u hu
      obtain ⟨k, hk, hh⟩ := flatJ_get js j u hu
      rcases h with rfl | ⟨b, off, e', hb, hc⟩
      · simp at hk
      · injection e' with e'
        subst e'
        have := hc k hk
        rcases hh with ⟨rfl, rfl⟩ | ⟨rfl, rfl⟩
        · simpa [Addr.add_lit, Nat.mul_comm] using this.1
        · simpa [Addr.add_lit, Nat.mul_comm, Nat.add_assoc] using this.2
    obtain ⟨v', w', hr, h2, h3, _, _⟩ := run_append_own_at (P := P) w B t ty e i z 2 16 ht hi hz hsize hby hzs (by decide) v 0 [] hown ad js.length c (flatJ js) hfl hnews one (by unfold maxLen; omega) (by omega) hB
    rw [Nat.zero_add, List.nil_append] at h2
    rcases h2.2 with ⟨rfl, h0⟩ | ⟨g', cap, cs, rfl, _⟩
    · obtain rfl : js = [] := List.length_eq_zero_iff.1 h0
      exact ⟨none, 0, w', hr, h2, h3⟩
    · exact ⟨_, _, w', hr, h2, h3⟩
  | none =>
    obtain rfl : js = [] := by
      rcases h with h | ⟨b, off, e', _⟩
      · exact h
      · cases e'
    have hs : Src P i.size t (.slice none 0 c) 0 [] w := Src.ofNil (w := w) ht c
    rcases hown.2 with ⟨rfl, _⟩ | ⟨g', cap, cs, rfl, hg, hh, hc, hm, hz2, hx⟩
    · refine ⟨none, 0, w, ?_, hown, ⟨rfl, rfl, rfl, Nat.le_refl _, fun _ _ _ => rfl⟩⟩
      rcases hs.kind with ⟨e', hk⟩ | hk <;> simp [Builtin.append_, run_underlying ht, run_underlying hk, sizeOf, typeInfo, hi, hs.len, hs.cells, storeCells]
    · have hr := run_append_room_src (P := P) (w := w) t t ty e i ht hi g' 0 0 cap (.slice none 0 c) 0 [] hs (by omega) (fun j hj => by simp at hj) (fun j hj => by simp at hj)
      refine ⟨some ⟨g', 0, none⟩, cap, _, hr, ?_, ?_⟩
      · exact hown
      · exact ⟨rfl, rfl, rfl, Nat.le_refl _, fun _ _ _ => rfl⟩
/-- At the list of a plain region's operations. -/
theorem wpList_append_copy (hgd : o.guard = none) (s x : Operand) (t : TypeId) (ho : o.op = .call { callee := .builtin .append, args := #[s, x], argTypes := #[t, t] }) (B : Nat) (e : TypeId) (i : TypeInfo) (z : Value) (ht : P.underlying t = some (.slice e)) (hi : P.info? e = some i) (hz : i.zero = some z)
    (hsize : i.size = 2) (hby : i.bytes = 16) (hzs : z.cells.size = 2) (v : Value) (hs : a.eval s = v) (hown : w.ownsRow B e 2 v 0 []) (b0 : Nat) (A : Option Addr) (c : Nat) (js : List (Int × Int)) (hx : a.eval x = .slice A js.length c) (hj : RJ w b0 A js) (hB : B ≤ w.heap.size)
    (h : ∀ A' c' w', w'.ownsRow B e 2 (.slice A' js.length c') js.length (flatJ js) → w.grownBy w' v.ownBlock → wpList P ops Q rest (a.put o.dst (.slice A' js.length c')) w') : wpList P ops Q (o :: rest) a w :=
  wpList_plain hgd fun K hK => by
    obtain ⟨A', c', w', hr, h2, h3⟩ := run_append_copy (P := P) (w := w) B t o.type e i z ht hi hz hsize hby hzs v hown b0 A c js hj hB
    unfold Oper.wp execOp
    simp only [ho, resolve, invoke, builtin, Sem.run_bind, Sem.run_pure, Result.andThen_ok, List.map_toArray, List.map_cons, List.map_nil, hs, hx, hr]
    exact hK _ _ (h A' c' w' h2 h3)
end
end Go.Proofs.Ytbblmbibddjedaa

/-
  append(s, cs...) with rows of four integers: behind a row of the call's own, and behind a slice that is cut with its room told. Over any program.
-/
import Derived.Test.YteogfondnpfklaaWQuad
import Derived.Maps.AppendAt
import Derived.Deep.AppendSrc
import Derived.Deep.Upon
import Derived.ArgAppend
namespace Go.Proofs.Yteogfondnpfklaa
open Go.RowKit

theorem flatQ_one (L : List Qd) : ∀ u ∈ flatQ L, u.oneCell' = true := by
  intro u hu
  simp only [flatQ, List.mem_flatMap] at hu
  obtain ⟨x, _, hx⟩ := hu
  simp [cells4] at hx
  rcases hx with rfl | rfl | rfl | rfl <;> rfl
/-- The cells of quads in memory, one behind the other. -/
theorem quads_cells {w : World} {b off : Nat} {L : List Qd} (h : ∀ k (h : k < L.length), quadAt w b (off + k * 4) L[k]) : ∀ (j : Nat) x, (flatQ L)[j]? = some x → w.cell? ((⟨b, off, none⟩ : Addr).add j) = some x := by
  intro j x hx
  have hlen := flatQ_len L
  have hj : j < L.length * 4 := by rw [← hlen]; exact (List.getElem?_eq_some_iff.1 hx).1
  obtain ⟨k, r, hr, rfl⟩ : ∃ k r, r < 4 ∧ j = k * 4 + r := ⟨j / 4, j % 4, by omega, by omega⟩
  have hk : k < L.length := by omega
  obtain ⟨h1, h2, h3, h4⟩ := flatQ_at L k hk
  obtain ⟨c1, c2, c3, c4⟩ := h k hk
  rw [Addr.add_lit]
  rcases (show r = 0 ∨ r = 1 ∨ r = 2 ∨ r = 3 by omega) with rfl | rfl | rfl | rfl
  · rw [Nat.add_zero, h1] at hx; injection hx with hx; rw [← hx]; exact c1
  · rw [h2] at hx; injection hx with hx; rw [← hx]; exact c2
  · rw [h3] at hx; injection hx with hx; rw [← hx]; exact c3
  · rw [h4] at hx; injection hx with hx; rw [← hx]; exact c4
theorem RQ.src {w : World} {B : Nat} {a : Addr} {L : List Qd} (h : RQ w B (some a) L) : ∀ (j : Nat) x, (flatQ L)[j]? = some x → w.cell? (a.add j) = some x := by
  rcases h.2 with rfl | ⟨b, off, e, _, hc⟩
  · intro j x hx; simp [flatQ] at hx
  · injection e with e; subst e; exact quads_cells hc
theorem own_sliceQ {w : World} {base e size n : Nat} {v : Value} {xs : List Value} (h : w.ownsRow base e size v n xs) : ∃ A c, v = .slice A n c ∧ n ≤ c := by
  rcases h.2 with ⟨rfl, h0⟩ | ⟨g', cap, cs, rfl, _, _, hn, _⟩
  · exact ⟨none, 0, by rw [h0], by omega⟩
  · exact ⟨_, _, rfl, hn⟩
section
variable {P : Program} {ops : Array Oper} {rest : List Oper} {o : Oper} {a : Act} {w : World} {Q : Exit → Act → World → Prop} {K : Act → World → Prop}
/-- Quads at a slice that reads, behind a row of the call's own. -/
theorem run_appendQ (B : Nat) (t ty e : TypeId) (i : TypeInfo) (z : Value) (ht : P.underlying t = some (.slice e)) (hi : P.info? e = some i) (hz : i.zero = some z)
    (hsize : i.size = 4) (hby : i.bytes = 32) (hzs : z.cells.size = 4) (v : Value) (n : Nat) (Y : List Qd) (hown : w.ownsRow B e 4 v n (flatQ Y)) (b0 : Nat) (A : Option Addr) (c : Nat) (L : List Qd) (hL : RQ w b0 A L) (hn : n + L.length ≤ 1048576) (hB : B ≤ w.heap.size) :
    ∃ v' w', (Builtin.append_ #[t, t] ty #[v, .slice A L.length c]).run P w = .ok v' w' ∧ w'.ownsRow B e 4 v' (n + L.length) (flatQ (Y ++ L)) ∧ w.grownBy w' v.ownBlock := by
  rw [flatQ_app]
  cases A with
  | some ad =>
    obtain ⟨v', w', hr, h2, h3, _, _⟩ := run_append_own_at (P := P) w B t ty e i z 4 32 ht hi hz hsize hby hzs (by decide) v n (flatQ Y) hown ad L.length c (flatQ L) (flatQ_len L) hL.src (flatQ_one L) (by unfold maxLen; omega) (by omega) hB
    exact ⟨v', w', hr, h2, h3⟩
  | none =>
    obtain rfl : L = [] := by
      rcases hL.2 with h | ⟨b, off, e', _⟩
      · exact h
      · cases e'
    obtain ⟨A', c', rfl, hnc⟩ := own_sliceQ hown
    have hr := run_append_nothing (P := P) w t t ty e i ht hi A' n c' hnc (.slice none 0 c) (Src.ofNil (w := w) ht c)
    exact ⟨_, w, hr, by simpa [flatQ] using hown, grown_refl _ _⟩
theorem wp_appendQ (s x : Operand) (t : TypeId) (ho : o.op = .call { callee := .builtin .append, args := #[s, x], argTypes := #[t, t] }) (B : Nat) (e : TypeId) (i : TypeInfo) (z : Value) (ht : P.underlying t = some (.slice e)) (hi : P.info? e = some i) (hz : i.zero = some z)
    (hsize : i.size = 4) (hby : i.bytes = 32) (hzs : z.cells.size = 4) (v : Value) (n : Nat) (Y : List Qd) (hs : a.eval s = v) (hown : w.ownsRow B e 4 v n (flatQ Y)) (b0 : Nat) (A : Option Addr) (m c : Nat) (L : List Qd) (hm : m = L.length) (hx : a.eval x = .slice A m c) (hL : RQ w b0 A L) (hn : n + L.length ≤ 1048576) (hB : B ≤ w.heap.size)
    (h : ∀ v' w', w'.ownsRow B e 4 v' (n + L.length) (flatQ (Y ++ L)) → w.grownBy w' v.ownBlock → K (a.put o.dst v') w') : o.wp P a w K Q := by
  subst hm
  obtain ⟨v', w', hr, h2, h3⟩ := run_appendQ (P := P) (w := w) B t o.type e i z ht hi hz hsize hby hzs v n Y hown b0 A c L hL hn hB
  unfold Oper.wp execOp
  simp only [ho, resolve, invoke, builtin, Sem.run_bind, Sem.run_pure, Result.andThen_ok, List.map_toArray, List.map_cons, List.map_nil, hs, hx, hr]
  exact h v' w' h2 h3
theorem wpList_appendQ (hgd : o.guard = none) (s x : Operand) (t : TypeId) (ho : o.op = .call { callee := .builtin .append, args := #[s, x], argTypes := #[t, t] }) (B : Nat) (e : TypeId) (i : TypeInfo) (z : Value) (ht : P.underlying t = some (.slice e)) (hi : P.info? e = some i) (hz : i.zero = some z)
    (hsize : i.size = 4) (hby : i.bytes = 32) (hzs : z.cells.size = 4) (v : Value) (n : Nat) (Y : List Qd) (hs : a.eval s = v) (hown : w.ownsRow B e 4 v n (flatQ Y)) (b0 : Nat) (A : Option Addr) (m c : Nat) (L : List Qd) (hm : m = L.length) (hx : a.eval x = .slice A m c) (hL : RQ w b0 A L) (hn : n + L.length ≤ 1048576) (hB : B ≤ w.heap.size)
    (h : ∀ v' w', w'.ownsRow B e 4 v' (n + L.length) (flatQ (Y ++ L)) → w.grownBy w' v.ownBlock → wpList P ops Q rest (a.put o.dst v') w') : wpList P ops Q (o :: rest) a w :=
  wpList_plain hgd fun _K hK => wp_appendQ s x t ho B e i z ht hi hz hsize hby hzs v n Y hs hown b0 A m c L hm hx hL hn hB fun v' w' h1 h2 => hK _ _ (h v' w' h1 h2)
/-- Quads behind a slice that came in and has no room: it stays as it is, what is handed back reads as both. -/
theorem run_appendQ_full (t ty e : TypeId) (i : TypeInfo) (z : Value) (ht : P.underlying t = some (.slice e)) (hi : P.info? e = some i) (hz : i.zero = some z)
    (hsize : i.size = 4) (hby : i.bytes = 32) (hzs : z.cells.size = 4) (ad : Addr) (Y : List Qd) (hY : RQ w w.heap.size (some ad) Y) (b0 : Nat) (x : Addr) (c : Nat) (L : List Qd) (hL : RQ w b0 (some x) L) (hn : Y.length + L.length ≤ 1048576) :
    ∃ A' c' w', (Builtin.append_ #[t, t] ty #[.slice (some ad) Y.length Y.length, .slice (some x) L.length c]).run P w = .ok (.slice A' (Y ++ L).length c') w' ∧ RQ w' w'.heap.size A' (Y ++ L) ∧ Below w.heap.size w w' ∧ (Y ++ L).length ≤ c' := by
  by_cases h0 : L = []
  · subst h0
    have hs : Src P i.size t (.slice (some x) 0 c) 0 [] w := Src.ofSlice w ht x 0 c [] (by simp) (fun (j : Nat) (u : Value) (h : ([] : List Value)[j]? = some u) => by simp at h) (fun (u : Value) (h : u ∈ ([] : List Value)) => by cases h)
    have hr := run_append_nothing (P := P) w t t ty e i ht hi (some ad) Y.length Y.length (Nat.le_refl _) (.slice (some x) 0 c) hs
    refine ⟨some ad, Y.length, w, by simpa using hr, by simpa using hY, Below.refl _ _, by simp⟩
  · have hp : 0 < L.length := List.length_pos_iff.2 h0
    obtain ⟨v', w', hr, h2, h3⟩ := run_append_arg_grows (P := P) w t ty e i z 4 32 ht hi hz hsize hby hzs (by decide) ad Y.length Y.length (flatQ Y) (flatQ_len Y) hY.src x L.length c (flatQ L) (flatQ_len L) hL.src (by omega) (by unfold maxLen; omega) (by omega)
    rw [← flatQ_app] at h2
    have hle : (Y ++ L).length = Y.length + L.length := List.length_append
    obtain ⟨A', c', rfl, hnc⟩ := own_sliceQ h2
    obtain ⟨A'', c'', e2, hO⟩ := own_oq h2 hle
    injection e2 with e2 _ _
    subst e2
    refine ⟨A', c', w', by rw [hle]; exact hr, hO.rq (by omega), grown_below h3 (Nat.le_refl _) (fun k h => by cases h), by omega⟩
theorem wp_appendQ_full (s x : Operand) (t : TypeId) (ho : o.op = .call { callee := .builtin .append, args := #[s, x], argTypes := #[t, t] }) (e : TypeId) (i : TypeInfo) (z : Value) (ht : P.underlying t = some (.slice e)) (hi : P.info? e = some i) (hz : i.zero = some z)
    (hsize : i.size = 4) (hby : i.bytes = 32) (hzs : z.cells.size = 4) (ad : Addr) (n : Nat) (Y : List Qd) (hnY : n = Y.length) (hs : a.eval s = .slice (some ad) n n) (hY : RQ w w.heap.size (some ad) Y) (b0 : Nat) (xa : Addr) (m c : Nat) (L : List Qd) (hm : m = L.length) (hx : a.eval x = .slice (some xa) m c) (hL : RQ w b0 (some xa) L) (hn : Y.length + L.length ≤ 1048576)
    (h : ∀ A' c' w', RQ w' w'.heap.size A' (Y ++ L) → Below w.heap.size w w' → (Y ++ L).length ≤ c' → K (a.put o.dst (.slice A' (Y ++ L).length c')) w') : o.wp P a w K Q := by
  subst hm hnY
  obtain ⟨A', c', w', hr, h2, h3, h4⟩ := run_appendQ_full (P := P) (w := w) t o.type e i z ht hi hz hsize hby hzs ad Y hY b0 xa c L hL hn
  unfold Oper.wp execOp
  simp only [ho, resolve, invoke, builtin, Sem.run_bind, Sem.run_pure, Result.andThen_ok, List.map_toArray, List.map_cons, List.map_nil, hs, hx, hr]
  exact h A' c' w' h2 h3 h4
end
/-- An empty slice literal. -/
theorem own_made4 {N : Nat} {w : World} (hN : N ≤ w.heap.size) (t : TypeId) (g : Nat) (hg : g = w.heap.size) : (w.alloc (.cells #[] t)).ownsRow N t 4 (.slice (some ⟨g, 0, none⟩) 0 0) 0 (flatQ []) :=
  ⟨rfl, .inr ⟨g, 0, #[], rfl, by omega, heap_alloc_at _ _ _ hg, Nat.le_refl _, by decide, rfl, rfl⟩⟩
end Go.Proofs.Yteogfondnpfklaa

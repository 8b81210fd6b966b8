/-
  Words for searches that the call itself makes memory for. (The same words, under other names, lie in C1k and C1n, which a seat without sqReached and sqFar lacks.)
-/
import Derived.Test.YtblpfjjnlfjloaaChecked
import Derived.Test.YtblpfjjnlfjloaaWB
import Derived.Test.YtblpfjjnlfjloaaWRows
import Derived.Test.YtblpfjjnlfjloaaC1i
import Derived.Maps.AppendAt
namespace Go.Proofs.Ytblpfjjnlfjloaa
open Go.RowKit

theorem infoBoolS : (Try.prog.info? 4).map (fun i => (i.zero, i.size, i.bytes)) = some (some (.bool false), 1, 1) := by kernel_rfl
theorem infoRowS : (Try.prog.info? 30).map (fun i => (i.zero, i.size, i.bytes)) = some (some (.slice none 0 0), 1, 24) := by kernel_rfl
theorem wantedS {o : Oper} {y : Nat → Option Bool} (hg : o.guard = none) : Region.wanted o y = true := by unfold Region.wanted; rw [hg]
/-- Numbers as cells. -/
def natS (l : List Nat) : List Value := l.map (fun i : Nat => Value.int .i64 i)
theorem cell_newS (w : World) (v : Value) (t : TypeId) {g : Nat} (hg : g = w.heap.size) : ∀ (j : Nat) u, [v][j]? = some u → (w.alloc (.cells #[v] t)).cell? ((⟨g, 0, none⟩ : Addr).add j) = some u := by subst hg; exact cell_new1 w v t
theorem natS_snoc (l : List Nat) (y : Nat) : natS (l ++ [y]) = natS l ++ [.int .i64 (y : Int)] := by simp [natS]
theorem own_sliceS {w : World} {base e size n : Nat} {v : Value} {xs : List Value} (h : w.ownsRow base e size v n xs) : ∃ A c, v = .slice A n c := by
  rcases h.2 with ⟨rfl, h0⟩ | ⟨g', cap, cs, rfl, _⟩
  · exact ⟨none, 0, by rw [h0]⟩
  · exact ⟨_, _, rfl⟩
theorem Rows2.lookS {w : World} {base g n : Nat} {t te : TypeId} {Lst : Nat → List Nat} (h : Rows2 w base g t te n Lst) {y : Nat} (hy : y < n) : ∃ A c, w.cell? ⟨g, y, none⟩ = some (.slice A (Lst y).length c) ∧
    ∀ i (hi : i < (Lst y).length), ∃ b, A = some ⟨b, 0, none⟩ ∧ base ≤ b ∧ b < w.heap.size ∧ w.cell? ⟨b, i, none⟩ = some (.int .i64 ((Lst y)[i] : Nat)) := by
  obtain ⟨v, v1, _, v3, _⟩ := h.row hy
  by_cases h0 : 0 < (Lst y).length
  · obtain ⟨b, c, rfl, h1, _, h3, h4⟩ := own_open v3 rfl h0
    exact ⟨_, c, v1, fun i hi => ⟨b, rfl, h1, h3, h4 i hi⟩⟩
  · obtain ⟨A, c, rfl⟩ := own_sliceS v3
    exact ⟨A, c, v1, fun i hi => by omega⟩
theorem own_ltS {w : World} {base e size n : Nat} {v : Value} {xs : List Value} (h : w.ownsRow base e size v n xs) : ∀ g, v.ownBlock = some g → g < w.heap.size := by
  intro g hg
  rcases h.2 with ⟨rfl, _⟩ | ⟨g', cap, cs, rfl, _, hh, _⟩
  · cases hg
  · injection hg with hg
    subst hg
    exact heap_lt hh

/-- An append to a slice of the call's own, at an operation of a region that is walked by hand, with where the new slice lies. -/
theorem wpK_append_at {P : Program} {w : World} {o : Oper} {a : Act} {K : Act → World → Prop} {Q : Exit → Act → World → Prop} (s x : Operand) (t : TypeId) (ho : o.op = .call { callee := .builtin .append, args := #[s, x], argTypes := #[t, t] })
    (base : Nat) (e : TypeId) (i : TypeInfo) (z : Value) (size bytes : Nat) (ht : P.underlying t = some (.slice e)) (hi : P.info? e = some i) (hz : i.zero = some z) (hsize : i.size = size) (hby : i.bytes = bytes) (hzs : z.cells.size = size) (hsz : 0 < size)
    (v : Value) (n : Nat) (xs : List Value) (hs : a.eval s = v) (hown : w.ownsRow base e size v n xs) (ad : Addr) (m c : Nat) (news : List Value) (hx : a.eval x = .slice (some ad) m c) (hl : news.length = m * size) (hnews : ∀ j u, news[j]? = some u → w.cell? (ad.add j) = some u) (h1 : ∀ u ∈ news, u.oneCell' = true)
    (h63 : n + m ≤ maxLen) (hbytes : (n + m) * bytes ≤ 140737488355328) (hbase : base ≤ w.heap.size)
    (h : ∀ v' w', w'.ownsRow base e size v' (n + m) (xs ++ news) → w.grownBy w' v.ownBlock → (v'.ownBlock = v.ownBlock ∨ v'.ownBlock = some w.heap.size) → K (a.put o.dst v') w') : o.wp P a w K Q := by
  obtain ⟨v', w', hr, h2, h3, _, h5⟩ := run_append_own_at (P := P) w base t o.type e i z size bytes ht hi hz hsize hby hzs hsz v n xs hown ad m c news hl hnews h1 h63 hbytes hbase
  unfold Oper.wp execOp
  simp only [ho, resolve, invoke, builtin, Sem.run_bind, Sem.run_pure, Result.andThen_ok, List.map_toArray, List.map_cons, List.map_nil, hs, hx, hr]
  exact h v' w' h2 h3 h5
end Go.Proofs.Ytblpfjjnlfjloaa

/-
  Boards read out of texts: small words. (The same words, under other names, lie in C1ae, C1af, C1ag and C1ai, which a seat without slices.SortFunc lacks.)
-/
import Derived.Test.YtbblmbibddjedacDoorC1ba
import Derived.Test.YtbblmbibddjedacDoorC1a
import Derived.Test.YtbblmbibddjedacDoorM16
namespace Go.Proofs.YtbblmbibddjedacDoor
open Go.RowKit

theorem infoJumpT : (Tryd.prog.info? 57).map (fun i => (i.zero, i.size, i.bytes)) = some (some (.agg #[.int .i64 0, .int .i64 0]), 2, 16) := by kernel_rfl
theorem cell_atT {W0 w : World} {B b : Nat} {cs : Array Value} {t : TypeId} (hb : Below B W0 w) (hB : b < B) (k : W0.heap[b]? = some (.cells cs t (0, 0))) : ∀ i, w.cell? ⟨b, i, none⟩ = cs[i]? := fun i => (bcell hb hB).trans (cell_of_row W0 b i _ _ _ k)
theorem free_atT {W0 w : World} {B b : Nat} {cs : Array Value} {t : TypeId} (hb : Below B W0 w) (hB : b < B) (k : W0.heap[b]? = some (.cells cs t (0, 0))) : ∀ i, w.frozen? ⟨b, i, none⟩ = false := fun i => frozen_row (i := i) ((hb.block _ hB).trans k)
theorem own_slT {w : World} {base e size n : Nat} {v : Value} {xs : List Value} (h : w.ownsRow base e size v n xs) : ∃ A c, v = .slice A n c := by
  rcases h.2 with ⟨rfl, h0⟩ | ⟨g', cap, cs, rfl, _⟩
  · exact ⟨none, 0, by rw [h0]⟩
  · exact ⟨_, _, rfl⟩
theorem own_rowT {w : World} {base n : Nat} {t : TypeId} {A : Option Addr} {c : Nat} {L : List (Int × Int)} (h : w.ownsRow base t 2 (.slice A n c) n (flatJ L)) (hn : L.length = n) : OJ w base t A n (fun k => L.getD k (0, 0)) := by
  obtain ⟨A', c', e, ho⟩ := own_oj h hn
  injection e with e1 e2 e3
  subst e1; rw [hn] at ho; exact ho
theorem OJ.rjT {w : World} {lo n : Nat} {t : TypeId} {A : Option Addr} {js : List (Int × Int)} (h : OJ w lo t A n (fun k => js.getD k (0, 0))) (hn : js.length = n) (hl : js.length ≤ 1048576) (hw : wfJ js) : RJ w w.heap.size A js := by
  subst hn; exact h.rj hl hw
theorem OJ.farT {w : World} {lo n : Nat} {t : TypeId} {A : Option Addr} {F : Nat → Int × Int} (h : OJ w lo t A n F) {p : Addr} (hp : p.block < lo) (u : Value) : OJ (w.setCell p u) lo t A n F := by
  rcases h with h | ⟨g, e, hl, hr⟩
  · exact .inl h
  · exact .inr ⟨g, e, hl, hr.far (by omega) u⟩

theorem OJ.loT {w : World} {lo lo' n : Nat} {t : TypeId} {A : Option Addr} {F : Nat → Int × Int} (h : OJ w lo t A n F) (hl : lo' ≤ lo) : OJ w lo' t A n F := by
  rcases h with h | ⟨g, e, hg, hr⟩
  · exact .inl h
  · exact .inr ⟨g, e, by omega, hr⟩

/-- The board that a parse comes to, if it is one and its text is s. -/
def parsed (p : Option Bd) (s : List UInt8) : Option Bd := p.bind fun b => if good b && txtL b == s then some b else none
/-- The board that has the text s, if there is one. -/
def boardOf (s : List UInt8) : Option Bd := parsed (parseS s) s
theorem parsed_some {p : Option Bd} {s : List UInt8} {b : Bd} (h : parsed p s = some b) : good b = true ∧ txtL b = s := by
  unfold parsed at h
  cases p with
  | none => cases h
  | some x =>
    simp only [Option.bind_some] at h
    split at h
    · rename_i hg
      obtain rfl := Option.some.inj h
      rw [Bool.and_eq_true, beq_iff_eq] at hg
      exact hg
    · cases h
theorem parsed_ok {b : Bd} {s : List UInt8} (hg : good b = true) (ht : txtL b = s) : parsed (some b) s = some b := by
  unfold parsed
  simp [hg, ht]
/-- Both parses come to one board. -/
theorem parsed_eq (s : List UInt8) : parsed (parseP s) s = boardOf s := by
  unfold boardOf
  cases h : parsed (parseP s) s with
  | some b =>
    obtain ⟨hg, ht⟩ := parsed_some h
    rw [← ht, parseS_txt hg, ht, parsed_ok hg ht]
  | none =>
    cases h2 : parsed (parseS s) s with
    | none => rfl
    | some b =>
      obtain ⟨hg, ht⟩ := parsed_some h2
      rw [← ht, parseP_txt hg, ht, parsed_ok hg ht] at h
      cases h
/-- What a parse hands back: the board and its jumps in a row of its own, or nothing. -/
def BoardBack (B : Nat) (w : World) (r : Option Bd) (e : Ending) (w' : World) : Prop :=
  ∃ A' c', e = .returned (.tuple #[.agg #[.int .i64 (r.getD ⟨0, 0, 0, []⟩).sq, .int .i64 (r.getD ⟨0, 0, 0, []⟩).fa, .int .i64 (r.getD ⟨0, 0, 0, []⟩).ov, .slice A' (r.getD ⟨0, 0, 0, []⟩).js.length c'], .bool r.isSome]) ∧
    OJ w' B 57 A' (r.getD ⟨0, 0, 0, []⟩).js.length (fun k => (r.getD ⟨0, 0, 0, []⟩).js.getD k (0, 0)) ∧ Below B w w'
end Go.Proofs.YtbblmbibddjedacDoor

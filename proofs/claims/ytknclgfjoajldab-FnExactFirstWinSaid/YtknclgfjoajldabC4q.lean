/-
  Races: the index of the program's first way by which somebody wins.
-/
import Derived.Test.YtknclgfjoajldabC4p
import Derived.Shelf.SlicesQ.IndexFunc
import Derived.Shelf.Lay
import Derived.Ground.SlgfProg
namespace Go.Proofs.Ytknclgfjoajldab
open Go.RowKit Go.Shelf

instance : Inhabited We := ⟨⟨0, 0, 0, []⟩⟩
shelf_lay_g SlLaysH0.n6 Slgf 6 at Try 69 as idxWays
theorem isAggW : ∀ w, (isAgg 108).run Try.prog w = .ok true w := fun w => by kernel_rfl
theorem sizeOfW : ∀ w, (Go.sizeOf 108).run Try.prog w = .ok 5 w := fun w => by kernel_rfl
theorem cellsW_five (W : Nat) (e : We) : (cellsW W e).length = 5 := rfl

theorem wonIdx_any (g c1 c2 b c : Nat) (s f o : Int) (G : Nat → Int) (m : Bool) (u v who : Int) (L : List We) (w : World) (hN : NV w g s f o G m u v) (hgw : g < w.heap.size) (h1 : c1 < w.heap.size) (h2 : c2 < w.heap.size) (k1 : w.cell? ⟨c1, 0, none⟩ = some (.pointer (some ⟨g, 0, none⟩))) (k2 : w.cell? ⟨c2, 0, none⟩ = some (.int .i64 who))
    (hb : b < w.heap.size) (hL : L.length ≤ 1048576)
    (hc : ∀ k (hk : k < L.length), w.cell? ⟨b, k * 5, none⟩ = some (.int .i64 (Dx (s.toNat + 1) L[k].q : Nat)) ∧ w.cell? ⟨b, k * 5 + 1, none⟩ = some (.int .i64 (Dy (s.toNat + 1) L[k].q : Nat)) ∧ w.cell? ⟨b, k * 5 + 2, none⟩ = some (.int .i64 (Dt L[k].q : Nat)) ∧ w.cell? ⟨b, k * 5 + 3, none⟩ = some (.int .i64 (L[k].face : Nat)) ∧ w.cell? ⟨b, k * 5 + 4, none⟩ = some (.int .i64 (L[k].before : Nat))) :
    Calls Try.prog 69 #[.slice (some ⟨b, 0, none⟩) L.length c, .func (.func 70) #[] #[.pointer (some ⟨c1, 0, none⟩), .pointer (some ⟨c2, 0, none⟩)]] w fun e w' =>
      e = .returned (.int .i64 (Lib.idxBy (fun _ y => wonQ s y.q == who) L default)) ∧ Below w.heap.size w w' := by
  have eg : ∀ args w, (callFunc 70 args).run Try.prog w = .ok (.enter 70 args) w := enters_of Try.func70 (by kernel_rfl) rfl
  have hp : PredBelow Try.prog 70 #[.pointer (some ⟨c1, 0, none⟩), .pointer (some ⟨c2, 0, none⟩)] (fun x => .agg (cellsW (s.toNat + 1) x).toArray) (fun y => wonQ s y.q == who) w := by
    intro W x hW
    have hle := hW.size
    refine (wonClo_any g c1 c2 s f o G m u v _ _ _ _ _ who W (hN.below hW hgw) (by omega) (by omega) (by omega) ((bcell hW h1).trans k1) ((bcell hW h2).trans k2)).mono ?_
    rintro e w' ⟨rfl, hx⟩
    exact ⟨rfl, hW.trans (hx.mono hle)⟩
  have h := AnyQ.slices_IndexFunc idxWays 5 isAggW sizeOfW (cellsW (s.toNat + 1)) (fun _ => rfl) (fun y => wonQ s y.q == who) 70 _ eg b 0 L.length c L w hp (Nat.le_refl _) (by omega) hb (by
    intro j hj i v hv
    rw [getElem!_pos L j hj] at hv
    obtain ⟨a1, a2, a3, a4, a5⟩ := hc j hj
    rw [Nat.zero_add]
    match i, hv with
    | 0, hv => injection hv with hv; subst hv; exact a1
    | 1, hv => injection hv with hv; subst hv; exact a2
    | 2, hv => injection hv with hv; subst hv; exact a3
    | 3, hv => injection hv with hv; subst hv; exact a4
    | 4, hv => injection hv with hv; subst hv; exact a5
    | i + 5, hv => simp [cellsW] at hv)
  rw [List.take_length] at h
  exact h
/-- What the index tells: the first that wins, or that none does. -/
theorem wonIdx_is (s who : Int) (L : List We) : (∃ i, ∃ hi : i < L.length, Lib.idxBy (fun _ (y : We) => wonQ s y.q == who) L default = (i : Int) ∧ wonQ s L[i].q = who ∧ ∀ k (hk : k < i), wonQ s (L[k]'(by omega)).q ≠ who) ∨ (Lib.idxBy (fun _ (y : We) => wonQ s y.q == who) L default = -1 ∧ ∀ k (hk : k < L.length), wonQ s L[k].q ≠ who) := by
  by_cases hn : ∀ k (hk : k < L.length), wonQ s L[k].q ≠ who
  · refine .inr ⟨?_, hn⟩
    have h := Lib.idxBy_miss (fun _ (y : We) => wonQ s y.q == who) L L.length default (fun j hj => by rw [getElem!_pos L j hj]; simpa using hn j hj)
    rwa [List.take_length] at h
  · obtain ⟨k0, hk0⟩ : ∃ k, ∃ hk : k < L.length, wonQ s L[k].q = who := by
      apply Classical.byContradiction
      intro hx
      exact hn fun k hk e => hx ⟨k, hk, e⟩
    have step : ∀ n, ∀ k, k ≤ n → (∃ hk : k < L.length, wonQ s L[k].q = who) → ∃ i, ∃ hi : i < L.length, wonQ s L[i].q = who ∧ ∀ k (hk : k < i), wonQ s (L[k]'(by omega)).q ≠ who := by
      intro n
      induction n with
      | zero =>
        intro k hk hx
        obtain rfl : k = 0 := by omega
        exact ⟨0, hx.1, hx.2, fun j hj => by omega⟩
      | succ n ih =>
        intro k hk hx
        by_cases hy : ∃ j, j < k ∧ ∃ hj : j < L.length, wonQ s L[j].q = who
        · obtain ⟨j, hjk, hj⟩ := hy
          exact ih j (by omega) hj
        · exact ⟨k, hx.1, hx.2, fun j hj e => hy ⟨j, hj, by have := hx.1; omega, e⟩⟩
    obtain ⟨i, hi, hwi, hno⟩ := step k0 k0 (Nat.le_refl _) hk0
    refine .inl ⟨i, hi, ?_, hwi, hno⟩
    have h := Lib.idxBy_hit (fun _ (y : We) => wonQ s y.q == who) L L.length i default hi (Nat.le_refl _) (by rw [getElem!_pos L i hi]; simpa using hwi) (fun j hj => by rw [getElem!_pos L j (by omega)]; simpa using hno j hj)
    rwa [List.take_length] at h
end Go.Proofs.Ytknclgfjoajldab

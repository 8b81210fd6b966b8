/-
  The program's readers: strings.Cut and strconv.Atoi off the shelf, numbersAround.
-/
import Derived.Test.YtbblmbibddjedacDoorC1cc
import Derived.Shelf.Strings.Cut
import Derived.Shelf.Strconv.AtoiAll
import Derived.Shelf.Strconv.ErrVarAll
import Derived.BigQuiet
import Derived.Lib.AtoiErrMem
namespace Go.Proofs
open Go.Shelf
set_option maxRecDepth 100000
shelf_lay Lays.n145 Nm 145 at Tryd as Tryd.laysCut
shelf_lay LaysC.n172 Nm 172 at Tryd as Tryd.laysAtoi
end Go.Proofs
namespace Go.Proofs.YtbblmbibddjedacDoor
open Go.RowKit

/-- What the readers ask of the world: what the library's variables hold. -/
structure Texts (w : World) : Prop where
  maxLen : ∃ m, w.cell? ⟨0, 0, none⟩ = some (.int .i64 m)
  synt : ∃ tp p, w.var? Tryd.prog "strconv.ErrSyntax" = some #[.iface tp p]
  rng : ∃ tp p, w.var? Tryd.prog "strconv.ErrRange" = some #[.iface tp p]
  tens : Tens w
theorem var_below {w w' : World} {name : String} {cs : Array Value} (h : w.var? Tryd.prog name = some cs) (hb : Below w.heap.size w w') : w'.var? Tryd.prog name = some cs := by
  unfold World.var? at *
  cases hg : Tryd.prog.globalNamed name with
  | none => simp [hg] at h
  | some g =>
    simp only [hg, Option.bind_some] at h ⊢
    have hlt : g < w.heap.size := by
      rcases Nat.lt_or_ge g w.heap.size with h' | h'
      · exact h'
      · rw [Array.getElem?_eq_none h'] at h; simp at h
    rw [hb.block g hlt]
    exact h
theorem Texts.on {w w' : World} (h : Texts w) (hb : Below w.heap.size w w') : Texts w' :=
  ⟨h.maxLen.imp fun _ hm => keepcell hb hm, h.synt.imp fun _ h => h.imp fun _ h => var_below h hb, h.rng.imp fun _ h => h.imp fun _ h => var_below h hb, h.tens.on hb⟩

theorem cut_any (s : List UInt8) (m : UInt8) (w : World) (ht : Texts w) (hs : s.length ≤ 1048576) :
    Calls Tryd.prog 28 #[.string ⟨s.toArray⟩, .string ⟨#[m]⟩] w fun e w' => e = .returned (.tuple #[.string ⟨(Lib.cut s [m]).1.toArray⟩, .string ⟨(Lib.cut s [m]).2.1.toArray⟩, .bool (Lib.cut s [m]).2.2]) ∧ Below w.heap.size w w' := by
  obtain ⟨k, hk⟩ := ht.maxLen
  refine (Any.strings_Cut Tryd.laysCut ⟨s.toArray⟩ ⟨#[m]⟩ k w (by show s.toArray.size < _; simp; omega) hk).mono ?_
  rintro e w' ⟨rfl, n, rfl⟩
  exact ⟨rfl, drewB (Below.refl _ _) _⟩

/-- What Atoi gives of a text that is a number. -/
def atoiP (s : List UInt8) : Option Int := match Lib.atoiAll s with | .ok v => some v | _ => none
theorem atoi_ok (s : List UInt8) (v : Int) (w : World) (hs : s.length ≤ 1048576) (hv : atoiP s = some v) :
    Calls Tryd.prog 49 #[.string ⟨s.toArray⟩] w fun e w' => e = .returned (.tuple #[.int .i64 v, .nilIface]) ∧ Below w.heap.size w w' := by
  have h : Lib.atoiAll s = .ok v := by
    unfold atoiP at hv
    split at hv
    · rename_i h; rw [h, Option.some.inj hv]
    · cases hv
  refine (Any.strconv_Atoi_ok Tryd.laysAtoi ⟨s.toArray⟩ (by show s.toArray.size ≤ _; simp; omega) v h w).mono ?_
  rintro e w' ⟨rfl, rfl | ⟨t, rfl⟩⟩
  · exact ⟨rfl, Below.refl _ _⟩
  · exact ⟨rfl, Lib.bytesWorld_below _ _ _⟩
theorem atoi_no (s : List UInt8) (w : World) (ht : Texts w) (hs : s.length ≤ 1048576) (hv : atoiP s = none) :
    Calls Tryd.prog 49 #[.string ⟨s.toArray⟩] w fun e w' => ∃ n t p, e = .returned (.tuple #[.int .i64 n, .iface t p]) ∧ Below w.heap.size w w' := by
  obtain ⟨tp, p, hp⟩ := ht.synt
  obtain ⟨tq, q, hq⟩ := ht.rng
  cases h : Lib.atoiAll s with
  | ok v => simp [atoiP, h] at hv
  | «syntax» =>
    refine (Any.strconv_Atoi_syntax_var Tryd.laysAtoi ⟨s.toArray⟩ (by show s.toArray.size ≤ _; simp; omega) h tp p w hp).mono ?_
    rintro e w' ⟨N, rfl, _, _, hb⟩
    exact ⟨_, _, _, rfl, hb⟩
  | range =>
    refine (Any.strconv_Atoi_range_var Tryd.laysAtoi ⟨s.toArray⟩ (by show s.toArray.size ≤ _; simp; omega) h tq q w hq).mono ?_
    rintro e w' ⟨N, rfl, _, _, hb⟩
    exact ⟨_, _, _, rfl, hb⟩

/-- What numbersAround gives: the numbers on both sides of a mark. -/
def aroundP (m : UInt8) (s : List UInt8) : Option (Int × Int) :=
  if (Lib.cut s [m]).2.2 then (atoiP (Lib.cut s [m]).1).bind fun x => (atoiP (Lib.cut s [m]).2.1).map fun y => (x, y) else none
theorem cut_len (s : List UInt8) (m : UInt8) : (Lib.cut s [m]).1.length ≤ s.length ∧ (Lib.cut s [m]).2.1.length ≤ s.length := by
  unfold Lib.cut
  split
  · simp; omega
  · simp

set_option maxRecDepth 100000 in
set_option maxHeartbeats 1000000 in
theorem numbersAround_any (s : List UInt8) (m : UInt8) (w : World) (ht : Texts w) (hs : s.length ≤ 1048576) :
    Calls Tryd.prog 32 #[.string ⟨s.toArray⟩, .string ⟨#[m]⟩] w fun e w' => e = .returned (.tuple #[.int .i64 ((aroundP m s).getD (0, 0)).1, .int .i64 ((aroundP m s).getD (0, 0)).2, .bool (aroundP m s).isSome]) ∧ Below w.heap.size w w' := by
  have hc := cut_len s m
  have hcut := cut_any s m w ht hs
  have hP : ∀ a r ok, Lib.cut s [m] = (a, r, ok) → aroundP m s = if ok then (atoiP a).bind fun x => (atoiP r).map fun y => (x, y) else none := fun a r ok h => by unfold aroundP; rw [h]
  obtain ⟨a, r, ok, hcr⟩ : ∃ a r ok, Lib.cut s [m] = (a, r, ok) := ⟨_, _, _, rfl⟩
  rw [hcr] at hc hcut
  have hP := hP a r ok hcr
  clear hcr
  dsimp only at hc hcut
  cases ok
  · rw [hP]
    go_enter Tryd.func32, Tryd.ntmps32
    go_wp2_with fail
    refine hcut.mono ?_
    rintro e w1 ⟨rfl, hx⟩
    go_wp2_with fail
    go_ret3
    exact ⟨rfl, hx⟩
  · cases ha : atoiP a with
    | none =>
      rw [hP, ha]
      go_enter Tryd.func32, Tryd.ntmps32
      go_wp2_with fail
      refine hcut.mono ?_
      rintro e w1 ⟨rfl, hx⟩
      go_wp2_with fail
      refine (atoi_no a w1 (ht.on hx) (by omega) ha).mono ?_
      rintro e w2 ⟨n, t, p, rfl, hy⟩
      go_wp2_with fail
      go_ret3
      exact ⟨rfl, hx.trans (hy.mono hx.size)⟩
    | some x =>
      cases hr : atoiP r with
      | none =>
        rw [hP, ha, hr]
        go_enter Tryd.func32, Tryd.ntmps32
        go_wp2_with fail
        refine hcut.mono ?_
        rintro e w1 ⟨rfl, hx⟩
        go_wp2_with fail
        refine (atoi_ok a x w1 (by omega) ha).mono ?_
        rintro e w2 ⟨rfl, hy⟩
        have hxy := hx.trans (hy.mono hx.size)
        go_wp2_with fail
        refine (atoi_no r w2 (ht.on hxy) (by omega) hr).mono ?_
        rintro e w3 ⟨n, t, p, rfl, hz⟩
        go_wp2_with fail
        go_ret3
        exact ⟨rfl, hxy.trans (hz.mono hxy.size)⟩
      | some y =>
        rw [hP, ha, hr]
        go_enter Tryd.func32, Tryd.ntmps32
        go_wp2_with fail
        refine hcut.mono ?_
        rintro e w1 ⟨rfl, hx⟩
        go_wp2_with fail
        refine (atoi_ok a x w1 (by omega) ha).mono ?_
        rintro e w2 ⟨rfl, hy⟩
        have hxy := hx.trans (hy.mono hx.size)
        go_wp2_with fail
        refine (atoi_ok r y w2 (by omega) hr).mono ?_
        rintro e w3 ⟨rfl, hz⟩
        go_wp2_with fail
        go_ret3
        exact ⟨rfl, hxy.trans (hz.mono hxy.size)⟩
end Go.Proofs.YtbblmbibddjedacDoor

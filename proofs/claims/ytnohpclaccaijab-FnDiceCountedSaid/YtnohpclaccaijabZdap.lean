/- Several texts, one behind the other: D0 D1 D2. -/
import Derived.Test.YtnohpclaccaijabChecked
import Derived.BigQuiet
import Derived.Deep.QuietTactic
import Derived.Laws.Bits64
import Derived.Laws.BitsAllLaws
import Derived.Deep.LoopGhost
import Derived.Lib.Hide
import Derived.Test.YtnohpclaccaijabZdaa

namespace Go.Proofs.Ytnohpclaccaijab
open Go.RowKit

/-- A slice at A that reads as the bytes l, below block B. -/
def RB8 (w : World) (B : Nat) (A : Option Addr) (l : List UInt8) : Prop :=
  l.length ≤ 1048576 ∧ (l = [] ∨ ∃ b off, A = some ⟨b, off, none⟩ ∧ b < B ∧ ∀ k (h : k < l.length), w.cell? ⟨b, off + k, none⟩ = some (.int .u8 (l[k].toNat : Nat)))
section
variable {w w' : World} {B B' : Nat} {A : Option Addr} {l : List UInt8}
theorem RB8.at_ (h : RB8 w B A l) (hb : Below B w w') {k : Nat} (hk : k < l.length) : ∃ b off, A = some ⟨b, off, none⟩ ∧ b < B ∧ w'.cell? ⟨b, off + k, none⟩ = some (.int .u8 (l[k].toNat : Nat)) := by
  obtain ⟨_, rfl | ⟨b, off, e, hB, hc⟩⟩ := h
  · simp at hk
  · exact ⟨b, off, e, hB, (bcell hb hB).trans (hc k hk)⟩
theorem RB8.below (h : RB8 w B A l) (hb : Below B w w') : RB8 w' B A l := by
  obtain ⟨h0, h1 | ⟨b, off, e, hB, hc⟩⟩ := h
  · exact ⟨h0, .inl h1⟩
  · exact ⟨h0, .inr ⟨b, off, e, hB, fun k hk => (bcell hb hB).trans (hc k hk)⟩⟩
theorem RB8.more (h : RB8 w B A l) (hB : B ≤ B') : RB8 w B' A l := by
  obtain ⟨h0, h1 | ⟨b, off, e, hb, hc⟩⟩ := h
  · exact ⟨h0, .inl h1⟩
  · exact ⟨h0, .inr ⟨b, off, e, by omega, hc⟩⟩
end
/-- Block g is a cursor over the slice at A that has gone on at most K times. -/
def CurA (w : World) (g : Nat) (A : Option Addr) (n c K : Nat) : Prop := ∃ (at_ : Nat) (sd : Int), at_ ≤ K ∧ w.heap[g]? = some (.cells #[.slice A n c, .int .i64 (at_ : Nat), .int .u64 sd] 50 (0, 0))
theorem CurA.lt {w : World} {g n c K : Nat} {A : Option Addr} (h : CurA w g A n c K) : g < w.heap.size := by obtain ⟨_, _, _, h⟩ := h; exact heap_lt h
theorem CurA.below {w w' : World} {g n c K B : Nat} {A : Option Addr} (h : CurA w g A n c K) (hb : Below B w w') (hg : g < B) : CurA w' g A n c K := by
  obtain ⟨a, s, h1, h2⟩ := h
  exact ⟨a, s, h1, (hb.block g hg).trans h2⟩
theorem CurA.grown {w w' : World} {g n c K : Nat} {A : Option Addr} {row : Option Nat} (h : CurA w g A n c K) (hg : w.grownBy w' row) (hne : some g ≠ row) : CurA w' g A n c K := by
  obtain ⟨a, s, h1, h2⟩ := h
  exact ⟨a, s, h1, (hg.block g (heap_lt h2) hne).trans h2⟩
theorem CurA.more {w : World} {g n c K K' : Nat} {A : Option Addr} (h : CurA w g A n c K) (hK : K ≤ K') : CurA w g A n c K' := by
  obtain ⟨a, s, h1, h2⟩ := h
  exact ⟨a, s, by omega, h2⟩
theorem wrap64_le (n : Nat) (h : n ≤ 255) : wrap64 (n : Int) = (n : Int) := by
  unfold wrap64
  omega
theorem seed_byte (x : Int) (h : ∃ y, x = IntKind.u64.wrap y) : ∃ r : Nat, r ≤ 255 ∧ wrap64 (bits .and .u64 (x / 1099511627776) 255) = (r : Int) := by
  obtain ⟨y, rfl⟩ := h
  have hy : 0 ≤ IntKind.u64.wrap y ∧ IntKind.u64.wrap y < 18446744073709551616 := by rw [IntKind.wrap_u64]; omega
  rw [u64_and _ _ (by omega) (by omega) (by omega) (by omega)]
  refine ⟨(IntKind.u64.wrap y / 1099511627776).toNat &&& (255 : Int).toNat, Nat.and_le_right, wrap64_le _ ?_⟩
  exact Nat.and_le_right
theorem grown_drewN {w w' : World} {row : Option Nat} {n : Nat} (h : w.grownBy w' row) : w.grownBy (w'.drewN n) row := ⟨h.os, h.tape, h.output, h.size, h.block⟩
/-- What next leaves behind. -/
theorem cur_left {w w' : World} {g c n K a a1 : Nat} {A : Option Addr} {sd sd1 : Int} {i j k : Nat} (hh : w.heap[g]? = some (.cells #[.slice A n c, .int .i64 (a : Nat), .int .u64 sd] 50 (0, 0))) (e : a1 = a + 1) (ha : a ≤ K)
    (hw : w' = ((((w.drewN i).setCell ⟨g, 1, none⟩ (.int .i64 (a1 : Nat))).setCell ⟨g, 2, none⟩ (.int .u64 sd1)).drewN j).drewN k) : CurA w' g A n c (K + 1) ∧ w.grownBy w' (some g) ∧ Below g w w' := by
  subst hw
  have hg : w.grownBy ((((w.drewN i).setCell ⟨g, 1, none⟩ (.int .i64 (a1 : Nat))).setCell ⟨g, 2, none⟩ (.int .u64 sd1)).drewN j |>.drewN k) (some g) :=
    grown_drewN (grown_drewN (grown_setCell (grown_setCell (grown_drewN (.refl w (some g))) _ _ rfl) _ _ rfl))
  refine ⟨⟨a1, sd1, by omega, ?_⟩, hg, ?_⟩
  · exact heap_set _ g 2 _ _ _ (heap_set (w.drewN i) g 1 _ _ _ hh)
  · exact (Below.refl g w).grown hg (Nat.le_of_lt (heap_lt hh)) (fun k hk => by cases hk; exact Nat.le_refl _)
set_option maxRecDepth 100000 in
set_option maxHeartbeats 2000000 in
theorem next_any (g c K : Nat) (A : Option Addr) (l : List UInt8) (w : World) (hx : RB8 w g A l) (hC : CurA w g A l.length c K) (hK : K ≤ 1000000000) :
    Calls Try.prog 90 #[.pointer (some ⟨g, 0, none⟩)] w fun e w' => ∃ r : Nat, r ≤ 255 ∧ e = .returned (.int .i64 (r : Nat)) ∧ CurA w' g A l.length c (K + 1) ∧ w.grownBy w' (some g) ∧ Below g w w' := by
  have hlg := hC.lt
  have hl := hx.1
  obtain ⟨a, sd, ha, hh⟩ := hC
  have q := fun i => cell_of_row w g i _ _ _ hh
  have fz := fun i => frozen_row (i := i) hh
  have wa : IntKind.i64.wrap ((a : Int) + 1) = ((a + 1 : Nat) : Int) := by rw [IntWalk.i64_in _ (by omega)]; omega
  obtain ⟨a1, ha1⟩ : ∃ a1, a1 = a + 1 := ⟨_, rfl⟩
  rw [← ha1] at wa
  by_cases hlt : a < l.length
  · obtain ⟨b, off, rfl, hbg, c1⟩ := hx.at_ (Below.refl _ _) hlt
    have hbne : b ≠ g := by omega
    have i1 : (a : Int) < (l.length : Int) := by omega
    have i2 : (a1 : Int) ≤ (l.length : Int) := by omega
    have i3 : a1 ≤ l.length := by omega
    have hA1 := Lib.hid ha1
    clear ha1
    go_enter Try.func90, Try.ntmps90
    go_wp2_with fail
    go_quiet (fail)
    go_wp2_with fail
    go_quiet (fail)
    go_wp2_with fail
    go_quiet (fail)
    go_wp2
    have hr : l[a].toNat ≤ 255 := Nat.le_of_lt_succ (UInt8.toNat_lt _)
    have e1 : wrap64 ((l[a].toNat : Nat) : Int) = ((l[a].toNat : Nat) : Int) := wrap64_le _ hr
    go_ret
    exact ⟨l[a].toNat, hr, congrArg (fun z => Ending.returned (Value.int .i64 z)) e1, cur_left (j := _) (k := 0) hh hA1.out ha rfl⟩
  · have i1 : ¬ ((a : Int) < (l.length : Int)) := by omega
    have i2 : ¬ ((a1 : Int) ≤ (l.length : Int)) := by omega
    have hA1 := Lib.hid ha1
    clear ha1
    go_enter Try.func90, Try.ntmps90
    go_wp2_with fail
    go_quiet (fail)
    go_wp2_with fail
    go_quiet (fail)
    go_wp2
    obtain ⟨r, hr, e1⟩ := seed_byte (IntKind.u64.wrap (IntKind.u64.wrap (IntKind.u64.wrap (sd * 6364136223846793005)) + 1442695040888963407)) ⟨_, rfl⟩
    go_ret
    exact ⟨r, hr, congrArg (fun z => Ending.returned (Value.int .i64 z)) e1, cur_left (j := _) (k := 0) hh hA1.out ha rfl⟩

theorem mod_told (x n : Int) (h : 1 < n) : ∃ q : Nat, (q : Int) < n ∧ x % n = (q : Int) := by
  have h1 := Int.emod_nonneg x (show n ≠ 0 by omega)
  have h2 := Int.emod_lt_of_pos x (show 0 < n by omega)
  exact ⟨(x % n).toNat, by omega, by omega⟩
set_option maxRecDepth 100000 in
set_option maxHeartbeats 2000000 in
theorem pick_any (n : Int) (g c K : Nat) (A : Option Addr) (l : List UInt8) (w : World) (hx : RB8 w g A l) (hC : CurA w g A l.length c K) (hK : K ≤ 100000000) :
    Calls Try.prog 64 #[.pointer (some ⟨g, 0, none⟩), .int .i64 n] w fun e w' => ∃ r : Nat, (1 < n → (r : Int) < n) ∧ (n ≤ 1 → r = 0) ∧ e = .returned (.int .i64 (r : Nat)) ∧ CurA w' g A l.length c (K + 2) ∧ w.grownBy w' (some g) ∧ Below g w w' := by
  by_cases h1 : n ≤ 1
  · go_enter Try.func64, Try.ntmps64
    go_wp2
    go_ret
    exact ⟨0, fun h => by omega, fun _ => rfl, rfl, hC.more (by omega), .refl _ _, .refl _ _⟩
  · by_cases h2 : n > 200
    · go_enter Try.func64, Try.ntmps64
      go_wp2_with fail
      refine (next_any g c K A l _ hx hC (by omega)).mono ?_
      rintro e w1 ⟨r, hr, rfl, hC1, hg1, hb1⟩
      have w256 : IntKind.i64.wrap ((r : Int) * 256) = ((r * 256 : Nat) : Int) := by rw [IntWalk.i64_in _ (by omega)]; omega
      go_wp2_with fail
      refine (next_any g c (K + 1) A l _ (hx.below hb1) hC1 (by omega)).mono ?_
      rintro e w2 ⟨s, hs, rfl, hC2, hg2, hb2⟩
      have wadd : IntKind.i64.wrap (((r * 256 : Nat) : Int) + (s : Int)) = ((r * 256 + s : Nat) : Int) := by rw [IntWalk.i64_in _ (by omega)]; omega
      go_wp2
      go_ret
      obtain ⟨q, hq, e⟩ := mod_told ((r : Int) * 256 + (s : Int)) n (by omega)
      exact ⟨q, fun _ => hq, fun h => by omega, congrArg (fun z => Ending.returned (Value.int .i64 z)) e, hC2, grown_trans hg1 hg2, hb1.trans hb2⟩
    · go_enter Try.func64, Try.ntmps64
      go_wp2_with fail
      refine (next_any g c K A l _ hx hC (by omega)).mono ?_
      rintro e w1 ⟨r, hr, rfl, hC1, hg1, hb1⟩
      go_wp2
      go_ret
      obtain ⟨q, hq, e⟩ := mod_told (r : Int) n (by omega)
      exact ⟨q, fun _ => hq, fun h => by omega, congrArg (fun z => Ending.returned (Value.int .i64 z)) e, hC1.more (by omega), hg1, hb1⟩

set_option maxRecDepth 100000 in
set_option maxHeartbeats 2000000 in
theorem one_any (n : Int) (g c K : Nat) (A : Option Addr) (l : List UInt8) (w : World) (hx : RB8 w g A l) (hC : CurA w g A l.length c K) (hK : K ≤ 100000000) :
    Calls Try.prog 62 #[.pointer (some ⟨g, 0, none⟩), .int .i64 n] w fun e w' => ∃ b : Bool, e = .returned (.bool b) ∧ CurA w' g A l.length c (K + 2) ∧ w.grownBy w' (some g) ∧ Below g w w' := by
  go_enter Try.func62, Try.ntmps62
  go_wp2_with fail
  refine (pick_any n g c K A l _ hx hC hK).mono ?_
  rintro e w1 ⟨r, _, _, rfl, hC1, hg1, hb1⟩
  go_wp2
  go_ret
  exact ⟨_, rfl, hC1, hg1, hb1⟩

set_option maxRecDepth 100000 in
set_option maxHeartbeats 2000000 in
/-- A cursor's among: one of the numbers. -/
theorem among_any (xs : List Int) (B : Nat) (A2 : Option Addr) (c2 : Nat) (g c K : Nat) (A : Option Addr) (l : List UInt8) (w : World) (hx : RB8 w g A l) (hC : CurA w g A l.length c K) (hK : K ≤ 100000000) (h2 : RI w B A2 xs) (h0 : 0 < xs.length) (hfar : ∀ a, A2 = some a → a.block ≠ g) :
    Calls Try.prog 63 #[.pointer (some ⟨g, 0, none⟩), .slice A2 xs.length c2] w fun e w' => ∃ z : Int, z ∈ xs ∧ e = .returned (.int .i64 z) ∧ CurA w' g A l.length c (K + 2) ∧ w.grownBy w' (some g) ∧ Below g w w' := by
  have hl2 := h2.1
  go_enter Try.func63, Try.ntmps63
  go_wp2_with fail
  refine (pick_any _ g c K A l _ hx hC hK).mono ?_
  rintro e w1 ⟨r, hr1, hr2, rfl, hC1, hg1, hb1⟩
  have hr : r < xs.length := by omega
  obtain ⟨b, off, rfl, hb2, hc⟩ := h2.at_ (Below.refl _ _) hr
  have hbne : b ≠ g := hfar _ rfl
  have hbl : b < w.heap.size := cell_lt hc
  have hc1 : w1.cell? ⟨b, off + r, none⟩ = some (.int .i64 xs[r]) := (World.cell?_of_block (hg1.block b hbl (fun e => hbne (by cases e; rfl)))).trans hc
  have hri : (r : Int) < (xs.length : Int) := by omega
  go_wp2
  go_ret
  exact ⟨xs[r], List.getElem_mem hr, rfl, hC1, hg1, hb1⟩
end Go.Proofs.Ytnohpclaccaijab

namespace Go.Proofs.Ytnohpclaccaijab
open Go.RowKit

theorem cur_new (w : World) (A : Option Addr) (n c : Nat) : CurA (w.alloc (.cells #[.slice A n c, .int .i64 0, .int .u64 0] 50)) w.heap.size A n c 0 :=
  ⟨0, 0, Nat.le_refl _, heap_alloc_at w _ _ rfl⟩
/-- A list of numbers laid in the world. -/
theorem ri_lit (w : World) (xs : List Int) (t : TypeId) (h : xs.length ≤ 100) : RI (w.alloc (.cells (xs.map fun z => Value.int .i64 z).toArray t)) (w.heap.size + 1) (some ⟨w.heap.size, 0, none⟩) xs := by
  refine ⟨by omega, .inr ⟨w.heap.size, 0, rfl, by omega, fun k hk => ?_⟩⟩
  rw [cell_of_row _ w.heap.size (0 + k) _ t (0, 0) (heap_alloc_at w _ _ rfl)]
  simp [hk]

/-- among over a list that the caller has just written. -/
theorem among_lit (xs : List Int) (t : TypeId) (c2 : Nat) (g c K : Nat) (A : Option Addr) (l : List UInt8) (w : World) (hx : RB8 w g A l) (hC : CurA w g A l.length c K) (hK : K ≤ 100000000) (h0 : 0 < xs.length) (h1 : xs.length ≤ 100) :
    Calls Try.prog 63 #[.pointer (some ⟨g, 0, none⟩), .slice (some ⟨w.heap.size, 0, none⟩) xs.length c2] (w.alloc (.cells (xs.map fun z => Value.int .i64 z).toArray t)) fun e w' => ∃ z : Int, z ∈ xs ∧ e = .returned (.int .i64 z) ∧ CurA w' g A l.length c (K + 2) ∧ w.grownBy w' (some g) ∧ Below g w w' := by
  have hlg := hC.lt
  have hba : Below g w (w.alloc (.cells (xs.map fun z => Value.int .i64 z).toArray t)) := (Below.refl g w).alloc (by omega) _
  have hga := World.grownBy_alloc w (.cells (xs.map fun z => Value.int .i64 z).toArray t) (some g)
  refine (among_any xs (w.heap.size + 1) _ c2 g c K A l _ (hx.below hba) (hC.grown (World.grownBy_alloc w _ none) (by simp)) hK (ri_lit w xs t h1) h0 (by rintro a ⟨⟩; exact Nat.ne_of_gt hlg)).mono ?_
  rintro e w1 ⟨z, hz, rfl, hC1, hg1, hb1⟩
  exact ⟨z, hz, rfl, hC1, grown_trans hga hg1, hba.trans hb1⟩

set_option maxRecDepth 100000 in
set_option maxHeartbeats 2000000 in
theorem dice_any (g c K : Nat) (A : Option Addr) (l : List UInt8) (w : World) (hx : RB8 w g A l) (hC : CurA w g A l.length c K) (hK : K ≤ 1000000) :
    Calls Try.prog 50 #[.pointer (some ⟨g, 0, none⟩)] w fun e w' => ∃ d f : Int, e = .returned (.tuple #[.int .i64 d, .int .i64 f]) ∧ CurA w' g A l.length c (K + 6) ∧ w.grownBy w' (some g) ∧ Below g w w' := by
  have hlg := hC.lt
  go_enter Try.func50, Try.ntmps50
  go_wp2_with fail
  refine (one_any 10 g c K A l _ hx hC (by omega)).mono ?_
  rintro e w1 ⟨b, rfl, hC1, hg1, hb1⟩
  have hs1 := hb1.size
  cases b
  · go_wp2_with fail
    refine (pick_any 5 g c (K + 2) A l _ (hx.below hb1) hC1 (by omega)).mono ?_
    rintro e w2 ⟨r, hr1, _, rfl, hC2, hg2, hb2⟩
    have hr : r < 5 := by have := hr1 (by decide); omega
    go_wp2_with fail
    refine (pick_any 8 g c (K + 2 + 2) A l _ ((hx.below hb1).below hb2) hC2 (by omega)).mono ?_
    rintro e w3 ⟨s, hs1, _, rfl, hC3, hg3, hb3⟩
    have hs : s < 8 := by have := hs1 (by decide); omega
    go_wp2
    go_ret2
    exact ⟨_, _, rfl, hC3, grown_trans (grown_trans hg1 hg2) hg3, (hb1.trans hb2).trans hb3⟩
  · go_wp2_with fail
    refine (among_lit [0, 1, 8, 9, -1, 4611686018427387904] _ 6 g c (K + 2) A l w1 (hx.below hb1) hC1 (by omega) (by decide) (by decide)).mono ?_
    rintro e w2 ⟨d, _, rfl, hC2, hg2, hb2⟩
    go_wp2_with fail
    refine (among_lit [0, 1, 12, 13, -1] _ 5 g c (K + 2 + 2) A l w2 ((hx.below hb1).below hb2) hC2 (by omega) (by decide) (by decide)).mono ?_
    rintro e w3 ⟨f, _, rfl, hC3, hg3, hb3⟩
    go_wp2
    go_ret2
    exact ⟨_, _, rfl, hC3, grown_trans (grown_trans hg1 hg2) hg3, (hb1.trans hb2).trans hb3⟩

set_option maxRecDepth 100000 in
set_option maxHeartbeats 2000000 in
theorem drawSumTable_any (c : Nat) (A : Option Addr) (l : List UInt8) (w : World) (hx : RB8 w w.heap.size A l) :
    Calls Try.prog 6 #[.slice A l.length c] w fun e w' => ∃ d f : Int, e = .returned (.tuple #[.int .i64 d, .int .i64 f]) ∧ Below w.heap.size w w' := by
  go_enter Try.func6, Try.ntmps6
  go_wp2_with fail
  have hb0 := (Below.refl w.heap.size w).alloc (Nat.le_refl _) (.cells #[.slice A l.length c, .int .i64 0, .int .u64 0] 50)
  refine (dice_any w.heap.size c 0 A l _ (hx.below hb0) (cur_new w A l.length c) (by omega)).mono ?_
  rintro e w1 ⟨d, f, rfl, hC1, hg1, hb1⟩
  go_wp2
  go_ret2
  exact ⟨_, _, rfl, hb0.trans hb1⟩
set_option maxRecDepth 100000 in
set_option maxHeartbeats 2000000 in
theorem drawCountEachFace_any (c : Nat) (A : Option Addr) (l : List UInt8) (w : World) (hx : RB8 w w.heap.size A l) :
    Calls Try.prog 38 #[.slice A l.length c] w fun e w' => ∃ d f : Int, e = .returned (.tuple #[.int .i64 d, .int .i64 f]) ∧ Below w.heap.size w w' := by
  go_enter Try.func38, Try.ntmps38
  go_wp2_with fail
  refine (drawSumTable_any c A l _ hx).mono ?_
  rintro e w1 ⟨d, f, rfl, hb1⟩
  go_wp2
  go_ret2
  exact ⟨_, _, rfl, hb1⟩
set_option maxRecDepth 100000 in
set_option maxHeartbeats 2000000 in
theorem drawCountSome_any (c : Nat) (A : Option Addr) (l : List UInt8) (w : World) (hx : RB8 w w.heap.size A l) :
    Calls Try.prog 34 #[.slice A l.length c] w fun e w' => ∃ d f a : Int, e = .returned (.tuple #[.int .i64 d, .int .i64 f, .int .i64 a]) ∧ Below w.heap.size w w' := by
  go_enter Try.func34, Try.ntmps34
  go_wp2_with fail
  have hb0 := (Below.refl w.heap.size w).alloc (Nat.le_refl _) (.cells #[.slice A l.length c, .int .i64 0, .int .u64 0] 50)
  refine (dice_any w.heap.size c 0 A l _ (hx.below hb0) (cur_new w A l.length c) (by omega)).mono ?_
  rintro e w1 ⟨d, f, rfl, hC1, hg1, hb1⟩
  have hs1 := hb1.size
  go_wp2_with fail
  refine (pick_any 10 w.heap.size c 6 A l _ ((hx.below hb0).below hb1) hC1 (by omega)).mono ?_
  rintro e w2 ⟨z, _, _, rfl, hC2, hg2, hb2⟩
  go_wp2
  exact bodyPost_ret (v := .tuple #[.int .i64 d, .int .i64 f, .int .i64 z]) (by simp [results, Try.results34]) rfl ⟨_, _, _, rfl, (hb0.trans hb1).trans hb2⟩
set_option maxRecDepth 100000 in
set_option maxHeartbeats 2000000 in
theorem drawCountSame_any (c : Nat) (A : Option Addr) (l : List UInt8) (w : World) (hx : RB8 w w.heap.size A l) :
    Calls Try.prog 41 #[.slice A l.length c] w fun e w' => ∃ d f a : Int, e = .returned (.tuple #[.int .i64 d, .int .i64 f, .int .i64 a]) ∧ Below w.heap.size w w' := by
  go_enter Try.func41, Try.ntmps41
  go_wp2_with fail
  have hb0 := (Below.refl w.heap.size w).alloc (Nat.le_refl _) (.cells #[.slice A l.length c, .int .i64 0, .int .u64 0] 50)
  refine (dice_any w.heap.size c 0 A l _ (hx.below hb0) (cur_new w A l.length c) (by omega)).mono ?_
  rintro e w1 ⟨d, f, rfl, hC1, hg1, hb1⟩
  have hs1 := hb1.size
  go_wp2_with fail
  refine (among_lit [1, 2, 3, 4, 8, 9, 0] _ 7 w.heap.size c 6 A l w1 ((hx.below hb0).below hb1) hC1 (by omega) (by decide) (by decide)).mono ?_
  rintro e w2 ⟨z, _, rfl, hC2, hg2, hb2⟩
  go_wp2
  exact bodyPost_ret (v := .tuple #[.int .i64 d, .int .i64 f, .int .i64 z]) (by simp [results, Try.results41]) rfl ⟨_, _, _, rfl, (hb0.trans hb1).trans hb2⟩
set_option maxRecDepth 100000 in
set_option maxHeartbeats 2000000 in
theorem drawCountRuns_any (c : Nat) (A : Option Addr) (l : List UInt8) (w : World) (hx : RB8 w w.heap.size A l) :
    Calls Try.prog 44 #[.slice A l.length c] w fun e w' => ∃ d f a : Int, e = .returned (.tuple #[.int .i64 d, .int .i64 f, .int .i64 a]) ∧ Below w.heap.size w w' := by
  go_enter Try.func44, Try.ntmps44
  go_wp2_with fail
  have hb0 := (Below.refl w.heap.size w).alloc (Nat.le_refl _) (.cells #[.slice A l.length c, .int .i64 0, .int .u64 0] 50)
  refine (dice_any w.heap.size c 0 A l _ (hx.below hb0) (cur_new w A l.length c) (by omega)).mono ?_
  rintro e w1 ⟨d, f, rfl, hC1, hg1, hb1⟩
  have hs1 := hb1.size
  go_wp2_with fail
  refine (among_lit [1, 2, 3, 4, 12, 13, 0] _ 7 w.heap.size c 6 A l w1 ((hx.below hb0).below hb1) hC1 (by omega) (by decide) (by decide)).mono ?_
  rintro e w2 ⟨z, _, rfl, hC2, hg2, hb2⟩
  go_wp2
  exact bodyPost_ret (v := .tuple #[.int .i64 d, .int .i64 f, .int .i64 z]) (by simp [results, Try.results44]) rfl ⟨_, _, _, rfl, (hb0.trans hb1).trans hb2⟩
theorem among_litN (N : Nat) (xs : List Int) (t : TypeId) (c2 : Nat) (g c K : Nat) (A : Option Addr) (l : List UInt8) (w : World) (hx : RB8 w g A l) (hC : CurA w g A l.length c K) (hK : K ≤ 100000000) (h0 : 0 < xs.length) (h1 : xs.length ≤ 100) (hN : N = w.heap.size) :
    Calls Try.prog 63 #[.pointer (some ⟨g, 0, none⟩), .slice (some ⟨N, 0, none⟩) xs.length c2] (w.alloc (.cells (xs.map fun z => Value.int .i64 z).toArray t)) fun e w' => ∃ z : Int, z ∈ xs ∧ e = .returned (.int .i64 z) ∧ CurA w' g A l.length c (K + 2) ∧ w.grownBy w' (some g) ∧ Below g w w' := by
  subst hN
  exact among_lit xs t c2 g c K A l w hx hC hK h0 h1
set_option maxRecDepth 100000 in
set_option maxHeartbeats 2000000 in
theorem drawThrowsForAll_any (c : Nat) (A : Option Addr) (l : List UInt8) (w : World) (hx : RB8 w w.heap.size A l) :
    Calls Try.prog 47 #[.slice A l.length c] w fun e w' => ∃ f : Int, f ≤ 13 ∧ e = .returned (.int .i64 f) ∧ Below w.heap.size w w' := by
  go_enter Try.func47, Try.ntmps47
  go_wp2_with fail
  have hb0 := (Below.refl w.heap.size w).alloc (Nat.le_refl _) (.cells #[.slice A l.length c, .int .i64 0, .int .u64 0] 50)
  refine (among_litN (w.heap.size + 1) [1, 2, 3, 4, 6, 8, 12, 13, 0, -1] _ 10 w.heap.size c 0 A l (w.alloc (.cells #[.slice A l.length c, .int .i64 0, .int .u64 0] 50)) (hx.below hb0) (cur_new w A l.length c) (by omega) (by decide) (by decide) (by simp)).mono ?_
  rintro e w1 ⟨z, hz, rfl, hC1, hg1, hb1⟩
  go_wp2
  go_ret
  refine ⟨_, ?_, rfl, hb0.trans hb1⟩
  simp at hz
  omega
end Go.Proofs.Ytnohpclaccaijab

namespace Go.Proofs.Ytnohpclaccaijab
open Go.RowKit

set_option maxRecDepth 100000 in
set_option maxHeartbeats 1000000 in
theorem big_any (A1 A2 : Option Addr) (n1 c1 n2 c2 : Nat) (w : World) (h1 : n1 ≤ maxLen) (h2 : n2 ≤ maxLen) :
    Calls Try.prog 5 #[.slice A1 n1 c1, .slice A2 n2 c2] w fun e w' => (e = .returned (.bool true) ∨ (n1 + n2 ≤ 1048576 ∧ e = .returned (.bool false))) ∧ w' = w := by
  have m1 : n1 ≤ 9223372036854775807 := h1
  have m2 : n2 ≤ 9223372036854775807 := h2
  by_cases g1 : n1 > 1048576
  · have i1 : (n1 : Int) > 1048576 := by omega
    go_enter Try.func5, Try.ntmps5
    go_wp2
    go_ret
    exact ⟨.inl rfl, rfl⟩
  · have i1 : ¬ (n1 : Int) > 1048576 := by omega
    have e1 : IntKind.i64.wrap ((1048576 : Int) - (n1 : Int)) = (1048576 : Int) - (n1 : Int) := IntWalk.i64_in _ (by omega)
    go_enter Try.func5, Try.ntmps5
    by_cases g2 : n1 + n2 ≤ 1048576
    · have i2 : ¬ (1048576 : Int) - (n1 : Int) < (n2 : Int) := by omega
      go_wp2
      go_ret
      exact ⟨.inr rfl, rfl⟩
    · have i2 : (1048576 : Int) - (n1 : Int) < (n2 : Int) := by omega
      go_wp2
      go_ret
      exact ⟨rfl, rfl⟩

set_option maxRecDepth 100000 in
set_option maxHeartbeats 1000000 in
theorem bPower_any (n k : Nat) (w : World) (hn : 1 ≤ n) (hb : n ^ k ≤ 4611686018427387904) (hk : k ≤ 1000) :
    Calls Try.prog 14 #[.int .i64 n, .int .i64 k] w fun e w' => e = .returned (.int .i64 (n ^ k : Nat)) ∧ w' = w := by
  go_enter Try.func14, Try.ntmps14
  go_wp2_with fail
  go_loopg [5, 1] k (fun gh v t wr => ∃ (i : Nat) (V : Nat), i + gh = k ∧ V = n ^ i ∧ v = .int .i64 (V : Nat) ∧ t = .int .i64 (gh : Nat) ∧ wr = w)
  case atStart => exact ⟨0, 1, by omega, rfl, rfl, rfl, rfl⟩
  case round =>
    obtain ⟨i, V, hi, hV, rfl, rfl, rfl⟩ := hrel
    by_cases hlt : 0 < gk
    · have hp : (0 : Int) < (gk : Int) := by omega
      have e2 : IntKind.i64.wrap ((gk : Int) - 1) = ((gk - 1 : Nat) : Int) := by rw [IntWalk.i64_in _ (by omega)]; omega
      have hle : n ^ (i + 1) ≤ n ^ k := Nat.pow_le_pow_right hn (by omega)
      have hst : n ^ (i + 1) = V * n := by rw [hV, Nat.pow_succ]
      obtain ⟨V', hV'⟩ : ∃ V', V' = V * n := ⟨_, rfl⟩
      have hm : (V : Int) * (n : Int) = (V' : Int) := by rw [hV']; simp
      have e1 : IntKind.i64.wrap ((V : Int) * (n : Int)) = (V' : Int) := by
        rw [hm]
        exact IntWalk.i64_in _ (by omega)
      have HM := Lib.hid (show V' = n ^ (i + 1) by rw [hV', hst])
      clear hm hV' hst hV hle
      go_wp2
      go_roundg (gk - 1)
      case rel => exact ⟨i + 1, V', by omega, HM.out, by go_num, by go_num, rfl⟩
      case measure => omega
    · have hp : ¬ (0 : Int) < (gk : Int) := by omega
      have hik : i = k := by omega
      subst hik
      subst hV
      go_wp2
      go_ret
      exact ⟨rfl, rfl⟩
theorem bPower_to (n k Z : Nat) (hZ : Z = n ^ k) (w : World) (hn : 1 ≤ n) (hb : Z ≤ 4611686018427387904) (hk : k ≤ 1000) :
    Calls Try.prog 14 #[.int .i64 n, .int .i64 k] w fun e w' => e = .returned (.int .i64 (Z : Nat)) ∧ w' = w := by
  subst hZ
  exact bPower_any n k w hn hb hk
end Go.Proofs.Ytnohpclaccaijab

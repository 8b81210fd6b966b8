/-
  Walks: throw: all lists have one throw more.
-/
import Derived.Test.YtiekdokgjdgajabC2b
namespace Go.Proofs.Ytiekdokgjdgajab
open Go.RowKit
theorem grown_cell {w w' : World} {b g i : Nat} {v : Value} (h : w.grownBy w' (some b)) (c : w.cell? ⟨g, i, none⟩ = some v) (hne : g ≠ b) : w'.cell? ⟨g, i, none⟩ = some v := by
  have hb := h.block g (cell_lt c) (by simpa using hne)
  have e : w'.cell? ⟨g, i, none⟩ = w.cell? ⟨g, i, none⟩ := World.cell?_of_block (w := w) hb
  exact e.trans c
/-- One face more. -/
theorem part_step (s o : Int) (js : List (Int × Int)) (wt q : Int) (m : Bool) (N : Int) (C : Int → Bool → Int) (k : Nat) (y : Int) (b : Bool) :
    updS (fun y b => C y b + N * nx s o js wt q m y b k) (thrown s o js q ((k : Int) + 1)) (m || (thrown s o js q ((k : Int) + 1) == wt)) (C (thrown s o js q ((k : Int) + 1)) (m || (thrown s o js q ((k : Int) + 1) == wt)) + N * nx s o js wt q m (thrown s o js q ((k : Int) + 1)) (m || (thrown s o js q ((k : Int) + 1) == wt)) k + N) y b = C y b + N * nx s o js wt q m y b (k + 1) := by
  rw [nx_succ]
  unfold updS
  by_cases h : y = thrown s o js q ((k : Int) + 1) ∧ b = (m || (thrown s o js q ((k : Int) + 1) == wt))
  · obtain ⟨rfl, rfl⟩ := h
    simp only [and_self, if_true]
    rw [Int.mul_add, Int.mul_one]; omega
  · have h' : ¬ (thrown s o js q ((k : Int) + 1) = y ∧ b = (m || (thrown s o js q ((k : Int) + 1) == wt))) := fun e => h ⟨e.1.symm, e.2⟩
    simp only [h, h', if_false, Int.add_zero]
abbrev RW (w : World) (b r : Nat) (c : Int → Bool → Int) (left : Int → Bool → Bool) (cnt : Nat) : Prop := RS Try.prog 82 3 w b r c left cnt
def keepLeft (c : Int → Bool → Int) (left : Int → Bool → Bool) : Int → Bool → Int := fun i m => if left i m then c i m else 0
/-- Nothing else than three blocks is written. -/
structure Oth (g l b : Nat) (w x : World) : Prop where
  os : x.os = w.os
  tape : x.tape = w.tape
  output : x.output = w.output
  size : w.heap.size ≤ x.heap.size
  block : ∀ k, k < w.heap.size → k ≠ g → k ≠ l → k ≠ b → x.heap[k]? = w.heap[k]?
section
variable {g l b : Nat} {w x y : World}
theorem Oth.refl (g l b : Nat) (w : World) : Oth g l b w w := ⟨rfl, rfl, rfl, Nat.le_refl _, fun _ _ _ _ _ => rfl⟩
theorem Oth.bel (h : Oth g l b w x) (hg : g < w.heap.size) {B : Nat} (h1 : B ≤ g) (h2 : B ≤ l) (h3 : B ≤ b) : Below B w x :=
  ⟨h.os, h.tape, h.output, h.size, fun k hk => h.block k (by omega) (by omega) (by omega) (by omega)⟩
theorem Oth.below (h : Oth g l b w x) (hx : Below x.heap.size x y) : Oth g l b w y :=
  ⟨hx.os.trans h.os, hx.tape.trans h.tape, hx.output.trans h.output, Nat.le_trans h.size hx.size, fun k h0 h1 h2 h3 => (hx.block k (Nat.lt_of_lt_of_le h0 h.size)).trans (h.block k h0 h1 h2 h3)⟩
theorem Oth.grown (h : Oth g l b w x) {row : Option Nat} (hx : x.grownBy y row) (hr : ∀ k, row = some k → k = g ∨ k = l ∨ k = b ∨ w.heap.size ≤ k) : Oth g l b w y :=
  ⟨hx.os.trans h.os, hx.tape.trans h.tape, hx.output.trans h.output, Nat.le_trans h.size hx.size, fun k h0 h1 h2 h3 => (hx.block k (Nat.lt_of_lt_of_le h0 h.size) (fun e => by have := hr k e.symm; omega)).trans (h.block k h0 h1 h2 h3)⟩
theorem Oth.alloc (h : Oth g l b w x) (o : Obj) : Oth g l b w (x.alloc o) := h.below (below1 _ _)
theorem Oth.set (h : Oth g l b w x) {p : Addr} (hp : p.block = g) (u : Value) : Oth g l b w (x.setCell p u) :=
  ⟨h.os, h.tape, h.output, by simpa using h.size, fun k h0 h1 h2 h3 => (Below.heap_setCell _ _ _ _ (by omega)).trans (h.block k h0 h1 h2 h3)⟩
theorem Oth.drew (h : Oth g l b w x) : Oth g l b w x.drew := ⟨h.os, h.tape, h.output, h.size, h.block⟩
end
set_option maxRecDepth 100000 in
set_option maxHeartbeats 400000 in
theorem throw_oth (g bl bb : Nat) (s f o : Int) (js : List (Int × Int)) (wt sq : Int) (t : Nat) (w : World) (hW : WA w g s f o (fun i => jumpOf js i) wt (f ^ t) (some bl) (some bb))
    (hL : SW w bl (ct s f o js wt sq t)) (hE : SW w bb (fun _ _ => 0)) (hne : bl ≠ bb) (hg : good ⟨s, f, o, js⟩ = true) (hq : onSq s js sq = true) (ht : t < 20) :
    Calls Try.prog 68 #[.pointer (some ⟨g, 0, none⟩)] w fun e w' => e = .returned (.tuple #[]) ∧ WA w' g s f o (fun i => jumpOf js i) wt (f ^ (t + 1)) (some bb) (some bl) ∧
      SW w' bb (ct s f o js wt sq (t + 1)) ∧ SW w' bl (fun _ _ => 0) ∧ Oth g bl bb w w' := by
  have c6 : w.cell? ⟨g, 106, none⟩ = some (.map (some bl)) := (cell_of_row _ _ _ _ _ _ hW).trans (wlk_106 _ _ _ _ _ _ _ _)
  have hgl : g ≠ bl := fun e => by
    obtain ⟨_, D, ⟨es, clock, hb, _⟩, _⟩ := hL
    rw [← e, hW] at hb; cases hb
  have hgb : g ≠ bb := fun e => by
    obtain ⟨_, D, ⟨es, clock, hb, _⟩, _⟩ := hE
    rw [← e, hW] at hb; cases hb
  have lg : g < w.heap.size := heap_lt hW
  have ll := hL.lt
  have lb := hE.lt
  have HG := Lib.hid hg; have HQ := Lib.hid hq; have HNE := Lib.hid hne; have HGL := Lib.hid hgl; have HGB := Lib.hid hgb
  clear hg hq hne hgl hgb
  go_enter Try.func68, Try.ntmps68
  go_wp2_with (first | (at_range; refine SM.range spotKey rfl _ 55 rfl mapU hL rfl ?_; intro w0 cnt0 hrg0 hg0 hs0) | go_in)
  go_frame
  have hW0 : WA w0 g s f o (fun i => jumpOf js i) wt (f ^ t) (some bl) (some bb) := (hg0.block _ lg (by simp)).trans hW
  have hE0 := hE.kept hg0 (by simp)
  clear c6 hW hL hE
  go_loopw [3] (fun _ wr => ∃ left cnt, RW wr bl w.heap.size (keepLeft (ct s f o js wt sq t) left) left cnt ∧ SW wr bb (got s f o js wt (ct s f o js wt sq t) left) ∧ WA wr g s f o (fun i => jumpOf js i) wt (f ^ t) (some bl) (some bb) ∧
    w.heap.size < wr.heap.size ∧ (∀ i m, left i m = true → ct s f o js wt sq t i m ≠ 0) ∧ Oth g bl bb w wr) (fun _ wr => wr.rangeLeft bl w.heap.size)
  case atStart =>
    refine ⟨_, cnt0, hrg0.congr fun i m => ?_, hE0.congr fun i m => (got_start s f o js wt _ _ (fun _ _ => rfl) i m).symm, hW0, by omega, fun i m h => by simpa using h, (Oth.refl _ _ _ _).grown hg0 (fun k e => by cases e)⟩
    unfold keepLeft
    by_cases h : ct s f o js wt sq t i m = 0 <;> simp [h]
  case round =>
    clear hrg0 hE0 hW0 hg0 hs0
    obtain ⟨left, cnt, hrg, hE, hW, hsz, hlc, hB⟩ := hrel
    go_wp2_with (first | (at_next; refine RS.next spotKey rfl _ rfl intU hrg rfl ?_ ?_) | go_in)
    · intro hdone
      have hall : ∀ i m, left i m = false := fun i m => by
        cases h : left i m
        · rfl
        · have h1 := ct_on HG.out HQ.out t i m (hlc i m h)
          have hz := good_sizes HG.out
          rw [hdone i m (wfi_of (by omega) (by omega))] at h; cases h
      have hE9 : SW wr bb (ct s f o js wt sq (t + 1)) := hE.congr fun y b => got_end s f o js wt sq t left hall y b
      have hL9 : SW wr bl (fun _ _ => 0) := hrg.owns.congr fun i m => by simp [keepLeft, hall]
      have hz := good_sizes HG.out
      have hp := pow_lt63 hz.2.1.1 hz.2.1.2 (show t + 1 ≤ 20 by omega)
      rw [Int.pow_succ] at hp
      have hwr : IntKind.i64.wrap (f ^ t * f) = f ^ t * f := IntWalk.i64_in _ (by omega)
      have c1 : wr.cell? ⟨g, 1, none⟩ = some (.int .i64 f) := (cell_of_row _ _ _ _ _ _ hW).trans ((wlk_lt _ _ _ _ _ _ _ _ (by omega)).trans (crs_1 _ _ _ _))
      have c5 : wr.cell? ⟨g, 105, none⟩ = some (.int .i64 (f ^ t)) := (cell_of_row _ _ _ _ _ _ hW).trans (wlk_105 _ _ _ _ _ _ _ _)
      have c6 : wr.cell? ⟨g, 106, none⟩ = some (.map (some bl)) := (cell_of_row _ _ _ _ _ _ hW).trans (wlk_106 _ _ _ _ _ _ _ _)
      have c7 : wr.cell? ⟨g, 107, none⟩ = some (.map (some bb)) := (cell_of_row _ _ _ _ _ _ hW).trans (wlk_107 _ _ _ _ _ _ _ _)
      have r5 : wr.frozen? ⟨g, 105, none⟩ = false := frozen_row hW
      have r6 : wr.frozen? ⟨g, 106, none⟩ = false := frozen_row hW
      have r7 : wr.frozen? ⟨g, 107, none⟩ = false := frozen_row hW
      have HDL := Lib.hid hdone
      clear hE hrg hlc hall hdone hp
      go_wp2
      go_region
      go_wp2
      go_region
      go_wp2
      have e1 := heap_set wr g 106 _ _ (.map (some bb)) hW
      rw [wlk_l] at e1
      have e2 := heap_set _ g 107 _ _ (.map (some bl)) e1
      rw [wlk_b] at e2
      have e3 := heap_set (((wr.setCell ⟨g, 106, none⟩ (.map (some bb))).setCell ⟨g, 107, none⟩ (.map (some bl))).drew) g 105 _ _ (.int .i64 (f ^ t * f)) e2
      rw [wlk_all] at e3
      have hk : ∀ b, b ≠ g → (((((wr.setCell ⟨g, 106, none⟩ (.map (some bb))).setCell ⟨g, 107, none⟩ (.map (some bl))).drew).setCell ⟨g, 105, none⟩ (.int .i64 (f ^ t * f))).drew).heap[b]? = wr.heap[b]? := fun b h => (Below.heap_setCell _ _ _ _ h).trans ((Below.heap_setCell _ _ _ _ h).trans (Below.heap_setCell _ _ _ _ h))

      go_end0
      exact ⟨rfl, by rw [Int.pow_succ]; exact e3, hE9.keep (hk _ (fun e => HGB.out e.symm)), hL9.keep (hk _ (fun e => HGL.out e.symm)), (((hB.set rfl _).set rfl _).drew.set rfl _).drew⟩
    · rintro ⟨q, m⟩ w1 cnt1 hlq hcq h0 h1 hrg1 hlt hg1 hs1 hen
      dsimp only at hlq hcq h0 h1 hrg1 hen ⊢
      have hv : keepLeft (ct s f o js wt sq t) left q m = ct s f o js wt sq t q m := by simp [keepLeft, hlq]
      rw [hv] at hen ⊢
      have hcn : ct s f o js wt sq t q m ≠ 0 := by rw [← hv]; exact hcq
      have hon := ct_on HG.out HQ.out t q m hcn
      have hn0 := ct_nonneg s f o js wt sq t q m
      have hn1 := ct_le (wt := wt) HG.out HQ.out t q m
      simp only [spotV] at hen ⊢
      go_wp2
      have hW1 : WA w1 g s f o (fun i => jumpOf js i) wt (f ^ t) (some bl) (some bb) := (hg1.block _ (by omega) (by simp; omega)).trans hW
      have hE1 := hE.kept hg1 (by simp; omega)
      have hgt : g ≠ w.heap.size := by omega
      have lg1 : g < w1.heap.size := by omega
      have hF : (w1.alloc (.cells #[.int .i64 q, .bool m] 82)).heap[wr.heap.size]? = some (.cells #[.int .i64 q, .bool m] 82 (0, 0)) := heap_alloc_at _ _ _ hs1.symm
      have hB2 : Oth g bl bb w (w1.alloc (.cells #[.int .i64 q, .bool m] 82)) := (hB.grown hg1 (fun k e => by cases e; omega)).alloc _
      have hR2 := hrg1.alloc (.cells #[.int .i64 q, .bool m] 82)
      have hE2 := hE1.alloc (.cells #[.int .i64 q, .bool m] 82)
      have hW2 : WA (w1.alloc (.cells #[.int .i64 q, .bool m] 82)) g s f o (fun i => jumpOf js i) wt (f ^ t) (some bl) (some bb) := (Below.heap_alloc _ _ _ lg1).trans hW1
      have hz := good_sizes HG.out
      have hp := pow_lt63 hz.2.1.1 hz.2.1.2 (show t + 1 ≤ 20 by omega)
      have hsz2 : wr.heap.size < (w1.alloc (.cells #[.int .i64 q, .bool m] 82)).heap.size := by simp; omega
      clear hE hW hrg1 hen hE1 hW1 hB lg1
      generalize w1.alloc (.cells #[.int .i64 q, .bool m] 82) = w2 at *
      clear hg1 hs1
      have hme := hrg.left_eq
      clear hrg
      have hNq := hon.2.2
      have HN := Lib.hid hNq; have HC := Lib.hid hcn; clear hNq hcn hcq
      have hon' : 0 ≤ q ∧ q ≤ s := ⟨hon.1, hon.2.1⟩
      have HLC := Lib.hid hlc
      clear hon hv hlc
      generalize hfb : wr.heap.size = fb at *
      go_loopw [4] (fun i wi => ∃ k : Nat, k ≤ f.toNat ∧ i = .int .i64 ((k : Int) + 1) ∧ RW wi bl w.heap.size (keepLeft (ct s f o js wt sq t) left) (strike left q m) cnt1 ∧
        SW wi bb (fun y b => got s f o js wt (ct s f o js wt sq t) left y b + ct s f o js wt sq t q m * nx s o js wt q m y b k) ∧ WA wi g s f o (fun i => jumpOf js i) wt (f ^ t) (some bl) (some bb) ∧
        wi.heap[fb]? = some (.cells #[.int .i64 q, .bool m] 82 (0, 0)) ∧ Oth g bl bb w wi) (fun i _ => f.toNat + 1 - (intOf i).toNat)
      case atStart => exact ⟨0, Nat.zero_le _, rfl, hR2, hE2.congr fun y b => by rw [nx_zero]; simp, hW2, hF, hB2⟩
      case round =>
        clear hR2 hE2 hW2 hF hB2
        obtain ⟨k, hk, rfl, hR, hE, hW, hF, hB⟩ := hrel
        have c1 : wr.cell? ⟨g, 1, none⟩ = some (.int .i64 f) := (cell_of_row _ _ _ _ _ _ hW).trans ((wlk_lt _ _ _ _ _ _ _ _ (by omega)).trans (crs_1 _ _ _ _))
        have c6 : wr.cell? ⟨g, 106, none⟩ = some (.map (some bl)) := (cell_of_row _ _ _ _ _ _ hW).trans (wlk_106 _ _ _ _ _ _ _ _)
        have c7 : wr.cell? ⟨g, 107, none⟩ = some (.map (some bb)) := (cell_of_row _ _ _ _ _ _ hW).trans (wlk_107 _ _ _ _ _ _ _ _)
        have f0 : wr.cell? ⟨fb, 0, none⟩ = some (.int .i64 q) := (cell_of_row _ _ _ _ _ _ hF).trans rfl
        have f1 : wr.cell? ⟨fb, 1, none⟩ = some (.bool m) := (cell_of_row _ _ _ _ _ _ hF).trans rfl
        have lfb := heap_lt hF
        have lgb := heap_lt hW
        have llb := hE.lt
        by_cases hlt : k < f.toNat
        · have h3 : (k : Int) + 1 ≤ f := by omega
          have P1 := got_part (wt := wt) HG.out HQ.out (t := t) hlq hon'.1 hon'.2 (Nat.le_of_lt hlt)
          have P2 := got_part (wt := wt) HG.out HQ.out (t := t) hlq hon'.1 hon'.2 (k := k + 1) hlt
          have HP1 := Lib.hid P1; have HP2 := Lib.hid P2; clear P1 P2
          have hY := thrown_in (o := o) HG.out hon'.1 hon'.2 (show (1 : Int) ≤ (k : Int) + 1 by omega)
          have c4 : wr.cell? ⟨g, 104, none⟩ = some (.int .i64 wt) := (cell_of_row _ _ _ _ _ _ hW).trans (wlk_104 _ _ _ _ _ _ _ _)
          have hcv : CV wr g s f o (fun i => jumpOf js i) := ⟨(cell_of_row _ _ _ _ _ _ hW).trans ((wlk_lt _ _ _ _ _ _ _ _ (by omega)).trans (crs_0 _ _ _ _)), c1, (cell_of_row _ _ _ _ _ _ hW).trans ((wlk_lt _ _ _ _ _ _ _ _ (by omega)).trans (crs_2 _ _ _ _)), fun hi => (cell_of_row _ _ _ _ _ _ hW).trans ((wlk_lt _ _ _ _ _ _ _ _ (by omega)).trans (crs_at _ _ _ _ _ hi))⟩
          have hent : ∀ w', SW w' bb (fun y b => got s f o js wt (ct s f o js wt sq t) left y b + ct s f o js wt sq t q m * nx s o js wt q m y b k) → ∃ (V st : Int) (w3 w4 : World),
              (Instr.lookup 55 (.map (some bb)) (spotV (thrown s o js q ((k : Int) + 1)) (m || (thrown s o js q ((k : Int) + 1) == wt))) false).run Try.prog w' = .ok (.int .i64 V) w' ∧
              (Instr.mapEntry 55 (.map (some bb)) (spotV (thrown s o js q ((k : Int) + 1)) (m || (thrown s o js q ((k : Int) + 1) == wt)))).run Try.prog w' = .ok (.tuple #[.int .i64 V, .int .i64 st]) w3 ∧
              (Instr.lookup 55 (.map (some bb)) (spotV (thrown s o js q ((k : Int) + 1)) (m || (thrown s o js q ((k : Int) + 1) == wt))) false).run Try.prog w3 = .ok (.int .i64 V) w3 ∧
              (Instr.entryStore 55 (.map (some bb)) (.int .i64 st) (.int .i64 (V + ct s f o js wt sq t q m))).run Try.prog w3 = .ok () w4 ∧ IntKind.i64.wrap (V + ct s f o js wt sq t q m) = V + ct s f o js wt sq t q m ∧
              SW w4 bb (fun y b => got s f o js wt (ct s f o js wt sq t) left y b + ct s f o js wt sq t q m * nx s o js wt q m y b (k + 1)) ∧ w'.grownBy w3 (some bb) ∧ w'.grownBy w4 (some bb) := fun w' h => by
            obtain ⟨st, w3, l1, m1, l3, g3, hst⟩ := h.entry spotKey mapU intU spotZero (q := thrown s o js q ((k : Int) + 1)) (m := m || (thrown s o js q ((k : Int) + 1) == wt)) hY.1 (by omega)
            have p1 := HP1.out (thrown s o js q ((k : Int) + 1)) (m || (thrown s o js q ((k : Int) + 1) == wt))
            have p2 := HP2.out (thrown s o js q ((k : Int) + 1)) (m || (thrown s o js q ((k : Int) + 1) == wt))
            have ps := part_step s o js wt q m (ct s f o js wt sq t q m) (got s f o js wt (ct s f o js wt sq t) left) k
            have pv := ps (thrown s o js q ((k : Int) + 1)) (m || (thrown s o js q ((k : Int) + 1) == wt))
            rw [← pv] at p2
            simp only [updS, and_self, if_true] at p2
            have hc0 := HC.out
            obtain ⟨w4, s4, hE4, g4⟩ := hst (got s f o js wt (ct s f o js wt sq t) left (thrown s o js q ((k : Int) + 1)) (m || (thrown s o js q ((k : Int) + 1) == wt)) + ct s f o js wt sq t q m * nx s o js wt q m (thrown s o js q ((k : Int) + 1)) (m || (thrown s o js q ((k : Int) + 1) == wt)) k + ct s f o js wt sq t q m) (by omega) (WalkArith.wf_i64 (by omega))
            exact ⟨_, st, w3, w4, l1, m1, l3, s4, IntWalk.i64_in _ (by omega), hE4.congr ps, g3, g4⟩
          have hz2 : 0 ≤ o ∧ o ≤ 2 := hz.2.2.1
          have hfbb : fb ≠ bb := by omega
          clear HP1 HP2 hp
          go_wp2
          go_region_held3 (fun w' => w'.cell? ⟨g, 107, none⟩ = some (.map (some bb)) ∧ w'.cell? ⟨fb, 0, none⟩ = some (.int .i64 q) ∧ w'.cell? ⟨fb, 1, none⟩ = some (.bool m)) (go_keep)
            (first | (go_at_call 80; refine (next_any g s f o js wt q m ((k : Int) + 1) wr.drew (hcv.drewN 1) c4 hz.1.1 hz.1.2 hz2.1 hz2.2 hon'.1 hon'.2 (good_end HG.out) HN.out (by omega) (by omega)).mono ?_; rintro e w' ⟨rfl, hx⟩; have k7 := keepcell hx (show wr.drew.cell? ⟨g, 107, none⟩ = some (.map (some bb)) from c7); have k0 := keepcell hx (show wr.drew.cell? ⟨fb, 0, none⟩ = some (.int .i64 q) from f0); have k1 := keepcell hx (show wr.drew.cell? ⟨fb, 1, none⟩ = some (.bool m) from f1); obtain ⟨V, st, w3, w4, l1, m1, l3, s4, hwrap, hE4, g3, g4⟩ := hent w' ((hE.keep (w' := wr.drew) rfl).below hx llb); have j7 := grown_cell g3 k7 HGB.out; have j0 := grown_cell g3 k0 hfbb; have j1 := grown_cell g3 k1 hfbb; have n7 := grown_cell g4 k7 HGB.out; have n0 := grown_cell g4 k0 hfbb; have n1 := grown_cell g4 k1 hfbb))
          all_goals
            have hxs := hx.size
            have hlr := hR.lt
            go_wp2
            go_roundw
            case rel => exact ⟨k + 1, hlt, by go_num, ((hR.keep (w' := wr.drew) rfl rfl).below hx hlr.1 hlr.2).kept g4 (by simpa using HNE.out) (by simp; omega), hE4, (g4.block g (Nat.lt_of_lt_of_le lgb hxs) (by simpa using HGB.out)).trans ((hx.block g lgb).trans hW), (g4.block fb (Nat.lt_of_lt_of_le lfb hxs) (by simpa using hfbb)).trans ((hx.block fb lfb).trans hF), (hB.drew.below hx).grown g4 (fun j e => by cases e; exact .inr (.inr (.inl rfl)))⟩
            case measure => simp [intOf]; omega
        · have h3 : ¬ (k : Int) + 1 ≤ f := by omega
          obtain rfl : k = f.toNat := by omega
          have hlr := hR.lt
          have hfbl : fb ≠ bl := by omega
          go_wp2
          go_region_held3 (fun w' => w'.cell? ⟨g, 106, none⟩ = some (.map (some bl)) ∧ w'.cell? ⟨fb, 0, none⟩ = some (.int .i64 q) ∧ w'.cell? ⟨fb, 1, none⟩ = some (.bool m)) (go_keep)
            (first | (refine step_delete spotKey rfl _ _ 55 rfl mapU (hR.keep (w' := wr.drew) rfl rfl) rfl q m rfl (wfi_of (by omega) (by omega)) ?_; intro w5 cnt5 hR5 hle5 g5; have k6 := grown_cell g5 (show wr.drew.cell? ⟨g, 106, none⟩ = some (.map (some bl)) from c6) HGL.out; have k0 := grown_cell g5 (show wr.drew.cell? ⟨fb, 0, none⟩ = some (.int .i64 q) from f0) hfbl; have k1 := grown_cell g5 (show wr.drew.cell? ⟨fb, 1, none⟩ = some (.bool m) from f1) hfbl))
          have hzz : wr.drew.heap.size = wr.heap.size := rfl
          have g5s := g5.size
          rw [strike_strike] at hR5
          go_wp2
          go_roundw
          case rel =>
            refine ⟨strike left q m, cnt5, hR5.congr fun i b => ?_, ((hE.keep (w' := wr.drew) rfl).kept g5 (by simpa using fun e => HNE.out e.symm)).congr fun y b => (got_strike s f o js wt _ left hlq hon'.1 hon'.2 y b).symm, (g5.block g lgb (by simpa using HGL.out)).trans hW, by omega, fun i b hs => ?_, hB.drew.grown g5 (fun j e => by cases e; exact .inr (.inl rfl))⟩
            · unfold keepLeft updS
              by_cases e : i = q ∧ b = m
              · obtain ⟨rfl, rfl⟩ := e
                simp [strike_same]
              · rw [strike_other (by by_cases e1 : i = q <;> simp_all)]
                simp only [e, if_false]
            · unfold strike at hs
              rw [Bool.and_eq_true] at hs
              exact HLC.out i b hs.1
          case measure => rw [hR5.left_eq, hme]; omega
theorem throw_any (g bl bb : Nat) (s f o : Int) (js : List (Int × Int)) (wt sq : Int) (t : Nat) (w : World) (hW : WA w g s f o (fun i => jumpOf js i) wt (f ^ t) (some bl) (some bb))
    (hL : SW w bl (ct s f o js wt sq t)) (hE : SW w bb (fun _ _ => 0)) (hne : bl ≠ bb) (hg : good ⟨s, f, o, js⟩ = true) (hq : onSq s js sq = true) (ht : t < 20) :
    Calls Try.prog 68 #[.pointer (some ⟨g, 0, none⟩)] w fun e w' => e = .returned (.tuple #[]) ∧ WA w' g s f o (fun i => jumpOf js i) wt (f ^ (t + 1)) (some bb) (some bl) ∧
      SW w' bb (ct s f o js wt sq (t + 1)) ∧ SW w' bl (fun _ _ => 0) ∧ ∀ B, B ≤ g → B ≤ bl → B ≤ bb → Below B w w' :=
  (throw_oth g bl bb s f o js wt sq t w hW hL hE hne hg hq ht).mono fun _ _ ⟨h1, h2, h3, h4, h5⟩ => ⟨h1, h2, h3, h4, fun _ b1 b2 b3 => h5.bel (heap_lt hW) b1 b2 b3⟩
end Go.Proofs.Ytiekdokgjdgajab

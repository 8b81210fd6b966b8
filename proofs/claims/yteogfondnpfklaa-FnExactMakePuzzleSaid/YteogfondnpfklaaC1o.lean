/-
  The least number of throws to the end, the program's: fewest.
-/
import Derived.Test.YteogfondnpfklaaC1d
import Derived.Test.YteogfondnpfklaaWB
import Derived.Test.YteogfondnpfklaaM8
import Derived.Deep.LoopGhost
namespace Go.Proofs.Yteogfondnpfklaa
open Go.RowKit

theorem boolZero2 : Try.zeroCells195 = arrT (fun _ => false) := by kernel_rfl
/-- 101 numbers. -/
def arrN (P : Nat → Int) : Array Value := ((List.range 101).map (fun i => Value.int .i64 (P i))).toArray
theorem arrN_size (P : Nat → Int) : (arrN P).size = 101 := by simp [arrN]
theorem arrN_at (P : Nat → Int) {i : Nat} (hi : i < 101) : (arrN P)[i]? = some (.int .i64 (P i)) := by simp [arrN, hi]
theorem arrN_set (P : Nat → Int) {k : Nat} (hk : k < 101) (v : Int) : (arrN P).setIfInBounds k (.int .i64 v) = arrN (fun i => if i = k then v else P i) := by
  apply Array.ext_getElem?
  intro i
  rw [Array.getElem?_setIfInBounds, arrN_size]
  by_cases hi : k = i
  · subst hi
    rw [if_pos rfl, if_pos hk, arrN_at _ hk, if_pos rfl]
  · rw [if_neg hi]
    by_cases hj : i < 101
    · rw [arrN_at _ hj, arrN_at _ hj, if_neg (fun e => hi e.symm)]
    · rw [Array.getElem?_eq_none (by rw [arrN_size]; omega), Array.getElem?_eq_none (by rw [arrN_size]; omega)]
theorem arrNZero : Try.zeroCells136 = arrN (fun _ => 0) := by kernel_rfl

/-- What fewest hands back. -/
def FewIs (w : World) (s f o : Int) (js : List (Int × Int)) (q : Nat) (e : Ending) (w' : World) : Prop :=
  ∃ x ok, e = .returned (.tuple #[.int .i64 x, .bool ok]) ∧ ((ok = true ∧ ∃ t : Nat, x = (t : Int) ∧ Least (fun t => Way (eB s f o js) q t s.toNat) t) ∨ (ok = false ∧ x = 0 ∧ ∀ t, ¬ Way (eB s f o js) q t s.toNat)) ∧ Below w.heap.size w w'

set_option maxRecDepth 100000 in
set_option maxHeartbeats 2000000 in
theorem fewest_any (g : Nat) (s f o : Int) (q : Nat) (js : List (Int × Int)) (w : World) (hC : CV w g s f o (fun i => jumpOf js i)) (hgw : g < w.heap.size) (ha : asked s f o js q = true) :
    Calls Try.prog 138 #[.pointer (some ⟨g, 0, none⟩), .int .i64 q] w (FewIs w s f o js q) := by
  have hz := good_sizes (asked_good ha)
  have hq := onSq_in (asked_on ha)
  obtain ⟨S, rfl⟩ := Int.eq_ofNat_of_zero_le (show 0 ≤ s by omega)
  have HA := Lib.hid ha; clear ha
  have iq : (q : Int) < 101 := by omega
  have iqn : q < 101 := by omega
  have iS : (S : Int) < 101 := by omega
  have iSn : S < 101 := by omega
  have iS0 : (0 : Int) ≤ (S : Int) := by omega
  go_enter Try.func138, Try.ntmps138
  go_wp2
  go_step3
  go_wp2
  go_step3
  go_wp2
  obtain ⟨w9, hw9⟩ : ∃ w9, w9 = (((w.alloc (.cells (Try.zeroCells195.setIfInBounds q (.bool true)) 195)).alloc (.cells Try.zeroCells136 136)).alloc (.cells (Try.zeroCells136.setIfInBounds 0 (.int .i64 (q : Int))) 136)) := ⟨_, rfl⟩
  have hM9 : w9.heap[w.heap.size]? = some (.cells (arrT (fun i => i == q)) 195 (0, 0)) := by
    have e2 : (fun i => if i = q then true else false) = (fun i => i == q) := by funext i; by_cases e : i = q <;> simp [e]
    have e : (Try.zeroCells195.setIfInBounds q (.bool true)) = arrT (fun i => i == q) := by rw [boolZero2, arrT_set _ iqn, e2]
    rw [hw9, Below.heap_alloc _ _ _ (by simp; omega), Below.heap_alloc _ _ _ (by simp), ← e]
    exact heap_alloc_at _ _ _ rfl
  have hT9 : w9.heap[w.heap.size + 1]? = some (.cells (arrN (fun _ => 0)) 136 (0, 0)) := by
    rw [hw9, Below.heap_alloc _ _ _ (by simp), arrNZero]
    exact heap_alloc_at _ _ _ (by simp)
  have hQ9 : w9.heap[w.heap.size + 1 + 1]? = some (.cells (arrN (fun i => if i = 0 then (q : Int) else 0)) 136 (0, 0)) := by
    rw [hw9, arrNZero, arrN_set _ (by omega)]
    exact heap_alloc_at _ _ _ (by simp)
  have hB9 : Below w.heap.size w w9 := by rw [hw9]; exact below3 _ _ _ _
  have hz9 : w.heap.size + 3 ≤ w9.heap.size := by rw [hw9]; simp
  have hS9 : Bfs (eB S f o js) (okB S js) q (fun i => i == q) (fun _ => 0) [] [q] := Bfs.start (okB_of (asked_on HA.out))
  rw [← hw9]
  clear hw9
  go_loopg [9, 10, 11, 12, 13] 101 (fun gh qd i _ _ _ wr => ∃ (D T : List Nat) (F : Nat → Bool) (L : Nat → Nat) (d Lq : Nat) (Q : Nat → Int), d + gh = 101 ∧ D.length = d ∧ (D ++ T).length = Lq ∧ qd = .int .i64 (Lq : Int) ∧ i = .int .i64 (d : Int) ∧ wr.heap[w.heap.size]? = some (.cells (arrT F) 195 (0, 0)) ∧ wr.heap[w.heap.size + 1]? = some (.cells (arrN (fun i => (L i : Int))) 136 (0, 0)) ∧
    wr.heap[w.heap.size + 1 + 1]? = some (.cells (arrN Q) 136 (0, 0)) ∧ (∀ k (hk : k < (D ++ T).length), Q k = ((D ++ T)[k] : Nat)) ∧ Bfs (eB S f o js) (okB S js) q F L D T ∧ (F S = true → q = S) ∧ (∀ z, L z + 1 ≤ Lq) ∧ Below w.heap.size w wr ∧ w.heap.size + 3 ≤ wr.heap.size)
  case atStart =>
    have hQe : ∀ k (hk : k < ([] ++ [q]).length), (if k = 0 then (q : Int) else 0) = (([] ++ [q])[k] : Nat) := by
      intro k hk
      have e : k = 0 := by simpa using hk
      subst e
      rfl
    have hFS : (S == q) = true → q = S := fun h => (beq_iff_eq.1 h).symm
    exact ⟨[], [q], _, _, 0, 1, _, rfl, rfl, rfl, rfl, rfl, hM9, hT9, hQ9, hQe, hS9, hFS, fun _ => Nat.le_refl _, hB9, hz9⟩
  case round =>
    clear hM9 hT9 hQ9 hB9 hz9 hS9
    obtain ⟨D, T, F, L, d, Lq, Q, hdg, hd, hLq, rfl, rfl, hM, hT, hQ, hQe, hSr, hFS, hLB, hB, hsz⟩ := hrel
    have hlen := hSr.len (n := 101) (fun x hx => by have := okB_lt x hx; omega)
    have hL2 : Lq = d + T.length := by rw [← hLq, ← hd]; simp
    have hCw : CV wr g S f o (fun i => jumpOf js i) := hC.below hB hgw
    cases T with
    | nil =>
      obtain rfl : Lq = d := by simpa using hL2
      have t1 : ¬ (Lq : Int) < (Lq : Int) := by omega
      have c0 := hCw.sq
      have cT : wr.cell? ⟨w.heap.size + 1, S, none⟩ = some (.int .i64 (L S : Int)) := (cell_of_row _ _ _ _ _ _ hT).trans (arrN_at _ iSn)
      have cM : wr.cell? ⟨w.heap.size, S, none⟩ = some (.bool (F S)) := (cell_of_row _ _ _ _ _ _ hM).trans (arrT_at _ iSn)
      have hres : (F S = true ∧ ∃ t : Nat, (L S : Int) = (t : Int) ∧ Least (fun t => Way (eB S f o js) q t (S : Int).toNat) t) ∨ (F S = false ∧ (L S : Int) = 0 ∧ ∀ t, ¬ Way (eB S f o js) q t (S : Int).toNat) := by
        rw [Int.toNat_natCast]
        cases hF : F S
        · refine .inr ⟨rfl, by rw [hSr.rest S hF]; first | done | rfl, fun t ht => ?_⟩
          rcases hSr.cut ht with ⟨h1, _⟩ | ⟨z, hz, _⟩
          · rw [h1] at hF; cases hF
          · simp at hz
        · have e := hFS hF
          refine .inl ⟨rfl, 0, by rw [← e, hSr.zero]; first | done | rfl, by rw [← e]; exact .refl, fun _ _ => Nat.zero_le _⟩
      have HRES := Lib.hid hres
      clear hSr hFS hLB hQe hQ hM hT hLq hd hL2 hdg hlen hres
      go_wp2
      go_quiet (fail)
      go_wp2
      go_ret2
      exact ⟨_, _, rfl, HRES.out, drewB hB _⟩
    | cons x T =>
      have t1 : (d : Int) < (Lq : Int) := by simp at hL2; omega
      have hdk : d < (D ++ x :: T).length := by rw [hLq]; omega
      have qd := hQe d hdk
      have ex : (D ++ x :: T)[d] = x := by subst hd; simp
      rw [ex] at qd
      simp only [List.length_cons] at hlen
      have hd101 : d < 101 := by omega
      have hdi : (d : Int) < 101 := by omega
      have cx : wr.cell? ⟨w.heap.size + 1 + 1, d, none⟩ = some (.int .i64 (x : Int)) := by
        rw [cell_of_row _ _ _ _ _ _ hQ, arrN_at _ hd101, qd]
      have HON := Lib.hid (hSr.on x (.inr (by simp))).1
      have HD := Lib.hid hd; have HDG := Lib.hid hdg; have HQE := Lib.hid hQe; have HFS := Lib.hid hFS; have HLB := Lib.hid hLB; have HLQ := Lib.hid hLq
      clear hdk qd ex hQe hFS hLB hd hdg hL2 hLq hlen
      go_wp2
      go_loopg [12, 9, 13] f.toNat (fun gj fc qd _ wi => ∃ (j : Nat) (T : List Nat) (F : Nat → Bool) (L : Nat → Nat) (Lq : Nat) (Q : Nat → Int), j + gj = f.toNat ∧ fc = .int .i64 ((j : Int) + 1) ∧ (D ++ x :: T).length = Lq ∧ qd = .int .i64 (Lq : Int) ∧ wi.heap[w.heap.size]? = some (.cells (arrT F) 195 (0, 0)) ∧ wi.heap[w.heap.size + 1]? = some (.cells (arrN (fun i => (L i : Int))) 136 (0, 0)) ∧
        wi.heap[w.heap.size + 1 + 1]? = some (.cells (arrN Q) 136 (0, 0)) ∧ (∀ k (hk : k < (D ++ x :: T).length), Q k = ((D ++ x :: T)[k] : Nat)) ∧ Bfs (eB S f o js) (okB S js) q F L D (x :: T) ∧ (F S = true → q = S) ∧ (∀ z, L z + 1 ≤ Lq) ∧ (∀ face, 1 ≤ face → face ≤ j → F (nxB S o js x face) = true) ∧ Below w.heap.size w wi ∧ w.heap.size + 3 ≤ wi.heap.size)
      case atStart => exact ⟨0, T, F, L, Lq, Q, by omega, rfl, HLQ.out, rfl, hM, hT, hQ, HQE.out, hSr, HFS.out, HLB.out, fun face h1 h2 => by omega, hB, hsz⟩
      case round =>
        clear hM hT hQ HQE hSr HFS HLB hB hsz cx t1 HLQ hCw
        obtain ⟨j, T, F, L, Lq, Q, hjg, rfl, hLq, rfl, hM, hT, hQ, hQe, hSr, hFS, hLB, hfaces, hB, hsz⟩ := hrel
        have hCw : CV wr g S f o (fun i => jumpOf js i) := hC.below hB hgw
        have cf := hCw.fa
        have hlen := hSr.len (n := 101) (fun x hx => by have := okB_lt x hx; omega)
        have hL2 : Lq = d + (T.length + 1) := by rw [← hLq, ← HD.out]; simp
        simp only [List.length_cons] at hlen
        have hD := HD.out
        have hLq1 : Lq ≤ 101 := by omega
        by_cases hlj : j < f.toNat
        · have h4 : (j : Int) + 1 ≤ f := by omega
          have hokx := HON.out
          have hth := nxB_eq (o := o) (asked_good HA.out) hokx.1 (show 1 ≤ j + 1 by omega)
          have hoky := okB_next (o := o) (asked_good HA.out) f.toNat x hokx (j + 1) (by omega) (by omega)
          have hedge : eB S f o js x (nxB S o js x (j + 1)) := ⟨j + 1, by omega, by omega, rfl⟩
          obtain ⟨y, hy⟩ : ∃ y, nxB S o js x (j + 1) = y := ⟨_, rfl⟩
          rw [hy] at hth hoky hedge
          have hyn : y < 101 := by have := okB_lt _ hoky; omega
          have hyi : (y : Int) < 101 := by omega
          have hcast : (((j + 1 : Nat) : Int)) = (j : Int) + 1 := by omega
          rw [hcast] at hth
          have HXQ := Lib.hid hokx.2
          have hxs : (x : Int) ≤ (S : Int) := hokx.1
          have hx0 : (0 : Int) ≤ (x : Int) := by omega
          have hxn : x < 101 := by omega
          have hxi : (x : Int) < 101 := by omega
          have HTH := Lib.hid hth; have HY := Lib.hid hy; have HF := Lib.hid hfaces; have HJG := Lib.hid hjg; have HQE := Lib.hid hQe; have HFS := Lib.hid hFS; have HLQ := Lib.hid hLq
          clear hth hy hcast hokx hfaces hjg hQe hFS hLq hL2 hD
          go_wp2_with fail
          refine (behind_bel _ _ _ _ _ _ _ _ hCw hz.1.1 hz.1.2 hz.2.2.1.1 hz.2.2.1.2 hx0 hxs (good_end (asked_good HA.out)) HXQ.out (by omega) (by omega)).mono ?_
          rintro e w5 ⟨rfl, hx5, hs5⟩
          rw [HTH.out]
          have hM5 := (hx5.block w.heap.size (by omega)).trans hM
          have hT5 := (hx5.block (w.heap.size + 1) (by omega)).trans hT
          have hQ5 := (hx5.block (w.heap.size + 1 + 1) (by omega)).trans hQ
          have hB5 : Below w.heap.size w w5 := hB.trans (hx5.mono hB.size)
          have hsz5 : w.heap.size + 3 ≤ w5.heap.size := by omega
          have e1 : w5.cell? ⟨w.heap.size, y, none⟩ = some (.bool (F y)) := (cell_of_row _ _ _ _ _ _ hM5).trans (arrT_at _ hyn)
          have e2 : w5.frozen? ⟨w.heap.size, y, none⟩ = false := frozen_row hM5
          have e3 : w5.cell? ⟨w.heap.size + 1, x, none⟩ = some (.int .i64 (L x : Int)) := (cell_of_row _ _ _ _ _ _ hT5).trans (arrN_at _ hxn)
          have e4 : w5.cell? ⟨w.heap.size + 1, y, none⟩ = some (.int .i64 (L y : Int)) := (cell_of_row _ _ _ _ _ _ hT5).trans (arrN_at _ hyn)
          have e5 : w5.frozen? ⟨w.heap.size + 1, y, none⟩ = false := frozen_row hT5
          have hC5 : CV w5 g S f o (fun i => jumpOf js i) := hC.below hB5 hgw
          have c05 := hC5.sq
          have hgne : g ≠ w.heap.size := by omega
          have hgne1 : g ≠ w.heap.size + 1 := by omega
          clear hM hT hQ hB cf hCw hx5 hs5 hC5
          cases hF : F y
          · have hLx := hLB x
            have hwr : IntKind.i64.wrap ((L x : Int) + 1) = (L x : Int) + 1 := IntWalk.i64_in _ (by omega)
            have hM6 : ((w5.setCell ⟨w.heap.size, y, none⟩ (.bool true)).setCell ⟨w.heap.size + 1, y, none⟩ (.int .i64 ((L x : Int) + 1))).heap[w.heap.size]? = some (.cells (arrT (setB F y)) 195 (0, 0)) := (Below.heap_setCell _ _ _ _ (by simp)).trans ((heap_set _ _ _ _ _ _ hM5).trans (by rw [arrT_set _ hyn]; rfl))
            have hT6 : ((w5.setCell ⟨w.heap.size, y, none⟩ (.bool true)).setCell ⟨w.heap.size + 1, y, none⟩ (.int .i64 ((L x : Int) + 1))).heap[w.heap.size + 1]? = some (.cells (arrN (fun i => (setN L y (L x + 1) i : Int))) 136 (0, 0)) := (heap_set _ _ _ _ _ _ ((Below.heap_setCell _ _ _ _ (by simp)).trans hT5)).trans (by
              rw [arrN_set _ hyn]
              have ef : (fun i => if i = y then (L x : Int) + 1 else (L i : Int)) = (fun i => ((setN L y (L x + 1) i : Nat) : Int)) := by funext i; unfold setN; by_cases e : i = y <;> simp [e]
              rw [ef])
            have hQ6 : ((w5.setCell ⟨w.heap.size, y, none⟩ (.bool true)).setCell ⟨w.heap.size + 1, y, none⟩ (.int .i64 ((L x : Int) + 1))).heap[w.heap.size + 1 + 1]? = some (.cells (arrN Q) 136 (0, 0)) := (Below.heap_setCell _ _ _ _ (by simp)).trans ((Below.heap_setCell _ _ _ _ (by simp; omega)).trans hQ5)
            have hB6 := (hB5.setCell (p := ⟨w.heap.size, y, none⟩) (by simp) (.bool true)).setCell (p := ⟨w.heap.size + 1, y, none⟩) (by simp) (.int .i64 ((L x : Int) + 1))
            have hS6 := hSr.push hedge hoky hF
            have hlen6 := hS6.len (n := 101) (fun x hx => by have := okB_lt x hx; omega)
            simp only [List.length_cons, List.length_append] at hlen6
            have hLq2 : Lq < 101 := by have := HLQ.out; have h2 := HD.out; simp at this; omega
            have hLqi : (Lq : Int) < 101 := by omega
            by_cases hyS : y = S
            · subst hyS
              have HLS := Lib.hid (hSr.found hedge hF)
              have yS : ((y : Int) == (y : Int)) = true := by simp
              have cM6 : ((w5.setCell ⟨w.heap.size, y, none⟩ (.bool true)).setCell ⟨w.heap.size + 1, y, none⟩ (.int .i64 ((L x : Int) + 1))).cell? ⟨w.heap.size, y, none⟩ = some (.bool true) := by rw [cell_of_row _ _ _ _ _ _ hM6, arrT_at _ hyn]; simp [setB]
              have cT6 : ((w5.setCell ⟨w.heap.size, y, none⟩ (.bool true)).setCell ⟨w.heap.size + 1, y, none⟩ (.int .i64 ((L x : Int) + 1))).cell? ⟨w.heap.size + 1, y, none⟩ = some (.int .i64 ((L x : Int) + 1)) := by rw [cell_of_row _ _ _ _ _ _ hT6, arrN_at _ hyn]; simp [setN]
              clear hM6 hT6 hQ6 hS6 hSr hM5 hT5 hQ5 hLB hlen hlen6 HQE
              go_wp2
              go_quiet (fail)
              go_wp2
              go_ret2
              exact ⟨_, _, rfl, .inl ⟨rfl, L x + 1, by omega, by rw [Int.toNat_natCast]; exact HLS.out⟩, drewB hB6 _⟩
            · have yS : ((y : Int) == (S : Int)) = false := beq_eq_false_iff_ne.2 (by omega)
              have eq6 : ((w5.setCell ⟨w.heap.size, y, none⟩ (.bool true)).setCell ⟨w.heap.size + 1, y, none⟩ (.int .i64 ((L x : Int) + 1))).cell? ⟨w.heap.size + 1 + 1, Lq, none⟩ = some (.int .i64 (Q Lq)) := (cell_of_row _ _ _ _ _ _ hQ6).trans (arrN_at _ hLq2)
              have fz6 : ((w5.setCell ⟨w.heap.size, y, none⟩ (.bool true)).setCell ⟨w.heap.size + 1, y, none⟩ (.int .i64 ((L x : Int) + 1))).frozen? ⟨w.heap.size + 1 + 1, Lq, none⟩ = false := frozen_row hQ6
              have hB7 := hB6.setCell (p := ⟨w.heap.size + 1 + 1, Lq, none⟩) (by simp; omega) (.int .i64 (y : Int))
              have hM7 := (Below.heap_setCell _ ⟨w.heap.size + 1 + 1, Lq, none⟩ (.int .i64 (y : Int)) w.heap.size (by simp; omega)).trans hM6
              have hT7 := (Below.heap_setCell _ ⟨w.heap.size + 1 + 1, Lq, none⟩ (.int .i64 (y : Int)) (w.heap.size + 1) (by simp)).trans hT6
              have hQ7 : (((w5.setCell ⟨w.heap.size, y, none⟩ (.bool true)).setCell ⟨w.heap.size + 1, y, none⟩ (.int .i64 ((L x : Int) + 1))).setCell ⟨w.heap.size + 1 + 1, Lq, none⟩ (.int .i64 (y : Int))).heap[w.heap.size + 1 + 1]? = some (.cells (arrN (fun i => if i = Lq then (y : Int) else Q i)) 136 (0, 0)) := (heap_set _ _ _ _ _ _ hQ6).trans (by rw [arrN_set _ hLq2])
              have hsz7 : w.heap.size + 3 ≤ (((w5.setCell ⟨w.heap.size, y, none⟩ (.bool true)).setCell ⟨w.heap.size + 1, y, none⟩ (.int .i64 ((L x : Int) + 1))).setCell ⟨w.heap.size + 1 + 1, Lq, none⟩ (.int .i64 (y : Int))).heap.size := by simpa using hsz5
              have HS6 := Lib.hid hS6
              have HLB := Lib.hid hLB
              clear hM6 hT6 hQ6 hS6 hSr hM5 hT5 hQ5 hlen hlen6 hB6 hLB hsz5
              go_wp2
              go_roundg (f.toNat - (j + 1))
              case rel =>
                refine ⟨j + 1, T ++ [y], setB F y, setN L y (L x + 1), Lq + 1, _, by omega, by go_num, by rw [← HLQ.out]; simp; omega, by go_num, hM7, hT7, hQ7, fun k hk => ?_, HS6.out, ?_, fun z => ?_, fun face h1 h2 => ?_, hB7, hsz7⟩
                · have hl := HLQ.out
                  by_cases e : k = Lq
                  · subst e
                    subst hl
                    simp
                  · have hk2 : k < (D ++ x :: T).length := by simp at hk hl ⊢; omega
                    have := HQE.out k hk2
                    rw [if_neg e, this]
                    have e2 : D ++ x :: (T ++ [y]) = (D ++ x :: T) ++ [y] := by simp
                    simp only [e2]
                    rw [List.getElem_append_left hk2]
                · unfold setB
                  rw [if_neg (fun e => hyS e.symm)]
                  exact HFS.out
                · have h1 := HLB.out z
                  unfold setN
                  split <;> omega
                · unfold setB
                  by_cases e : nxB S o js x face = y
                  · rw [if_pos e]
                  · rw [if_neg e]
                    by_cases e2 : face = j + 1
                    · exact absurd (by rw [e2]; exact HY.out) e
                    · exact HF.out face h1 (by omega)
              case measure => have := HJG.out; omega
          · have HFY := Lib.hid hF
            clear e3 e4 e5
            go_wp2
            go_roundg (f.toNat - (j + 1))
            case rel =>
              refine ⟨j + 1, T, F, L, Lq, Q, by omega, by go_num, HLQ.out, rfl, hM5, hT5, hQ5, HQE.out, hSr, HFS.out, hLB, fun face h1 h2 => ?_, hB5, hsz5⟩
              by_cases e : face = j + 1
              · rw [e, HY.out]; exact HFY.out
              · exact HF.out face h1 (by omega)
            case measure => have := HJG.out; omega
        · have h4 : ¬ (j : Int) + 1 ≤ f := by omega
          obtain rfl : j = f.toNat := by omega
          have HSR := Lib.hid (hSr.finish fun y ⟨face, h1, h2, e⟩ => by rw [← e]; exact hfaces face h1 h2)
          have HLQ := Lib.hid hLq; have HQE := Lib.hid hQe; have HFS := Lib.hid hFS; have HLB := Lib.hid hLB
          clear hSr hLq hQe hFS hLB hfaces hL2 hlen hD
          go_wp2
          go_roundg (101 - (d + 1))
          case rel =>
            refine ⟨D ++ [x], T, F, L, d + 1, Lq, Q, by omega, by rw [← HD.out]; simp, by rw [← HLQ.out]; simp, rfl, by go_num, hM, hT, hQ, fun k hk => ?_, HSR.out, HFS.out, HLB.out, hB, hsz⟩
            have := HQE.out k (by simpa using hk)
            rw [this]; simp
          case measure => have := HDG.out; omega
end Go.Proofs.Yteogfondnpfklaa

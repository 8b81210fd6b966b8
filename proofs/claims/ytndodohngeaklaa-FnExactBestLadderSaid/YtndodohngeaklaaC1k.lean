/-
  Squares that are reached, the model's: sqReached.
-/
import Derived.Test.YtndodohngeaklaaC1e
import Derived.Test.YtndodohngeaklaaC1i
import Derived.Test.YtndodohngeaklaaWB
import Derived.Test.YtndodohngeaklaaM7
import Derived.Deep.RegionHeld3
import Derived.Deep.LoopGhost
namespace Go.Proofs.Ytndodohngeaklaa
open Go.RowKit

theorem wantedK {o : Oper} {y : Nat → Option Bool} (hg : o.guard = none) : Region.wanted o y = true := by unfold Region.wanted; rw [hg]
theorem infoBool1 : (Try.prog.info? 4).map (fun i => (i.zero, i.size, i.bytes)) = some (some (.bool false), 1, 1) := by kernel_rfl
/-- Numbers as cells. -/
def natC (l : List Nat) : List Value := l.map (fun i : Nat => Value.int .i64 i)
theorem cell_new1' (w : World) (v : Value) (t : TypeId) {g : Nat} (hg : g = w.heap.size) : ∀ (j : Nat) u, [v][j]? = some u → (w.alloc (.cells #[v] t)).cell? ((⟨g, 0, none⟩ : Addr).add j) = some u := by subst hg; exact cell_new1 w v t
theorem natC_snoc (l : List Nat) (y : Nat) : natC (l ++ [y]) = natC l ++ [.int .i64 (y : Int)] := by simp [natC]

/-- What a search hands back: which squares are reached. -/
def ReachIs (w : World) (s f o : Int) (js : List (Int × Int)) (q : Nat) (e : Ending) (w' : World) : Prop :=
  ∃ g F, e = .returned (.slice (some ⟨g, 0, none⟩) (s.toNat + 1) (s.toNat + 1)) ∧ w.heap.size ≤ g ∧ RowB w' g 4 (s.toNat + 1) F ∧ (∀ i, F i = true ↔ Rch (nxB s o js) f.toNat q i) ∧ Below w.heap.size w w'

set_option maxRecDepth 100000 in
set_option maxHeartbeats 1000000 in
theorem sqReached_any (s f o : Int) (A : Option Addr) (c : Nat) (q : Nat) (js : List (Int × Int)) (w : World) (hj : RJ w w.heap.size A js) (ha : asked s f o js q = true) :
    Calls Try.prog 64 #[.agg #[.int .i64 s, .int .i64 f, .int .i64 o, .slice A js.length c], .int .i64 q] w (ReachIs w s f o js q) := by
  have hl := hj.1
  have hz := good_sizes (asked_good ha)
  have hq := onSq_in (asked_on ha)
  have HA := Lib.hid ha; clear ha
  obtain ⟨n, hn⟩ : ∃ n : Nat, n = s.toNat + 1 := ⟨_, rfl⟩
  have hsn : s + 1 = (n : Int) := by omega
  have HN := Lib.hid hn; clear hn
  have iw : IntKind.i64.wrap (s + 1) = s + 1 := IntWalk.i64_in _ (by omega)
  rw [hsn] at iw
  have hn1 : n ≤ 101 := by omega
  have iq : (q : Int) < (n : Int) := by omega
  have iqn : q < n := by omega
  obtain ⟨i0, hi, hz0, hz1, hz2⟩ := info_parts infoBool1
  obtain ⟨j0, hji, hjz0, hjz1, hjz2⟩ := info_parts infoInt1
  go_enter Try.func64, Try.ntmps64
  go_wp2_with (at_make; refine wpList_make_full _ rfl _ _ 84 rfl (w.heap.size + 1) 4 i0 _ 1 Try.underlying84 hi hz0 hz1 _ _ _ _ n rfl rfl rfl rfl (by rw [hz2]; omega) (by unfold maxLen; omega) (by simp) ?_; intro w1 hown hgrow; have hrow := madeB hown rfl; simp only [World.size_alloc] at hrow; have d1 := hrow.cell iqn; have d2 := hrow.free q)
  have hs1 := hrow.lt
  have hB1 : Below (w.heap.size + 1) (w.alloc (.cells #[.int .i64 s, .int .i64 f, .int .i64 o, .slice A js.length c] 30)) (w1.setCell ⟨w.heap.size + 1, q, none⟩ (.bool true)) := ((Below.refl _ _).grown hgrow (by simp) (fun k e => by cases e)).setCell (by simp) _
  have hR1 : RowB (w1.setCell ⟨w.heap.size + 1, q, none⟩ (.bool true)) (w.heap.size + 1) 4 n (fun i => i == q) := (hrow.set iqn true).congr (fun i _ => by by_cases e : i = q <;> simp [e])
  have hB2 := hB1.alloc (by simp; omega) (.cells #[.int .i64 (q : Int)] 3)
  have hR2 := hR1.alloc (.cells #[.int .i64 (q : Int)] 3)
  have hO2 : ((w1.setCell ⟨w.heap.size + 1, q, none⟩ (.bool true)).alloc (.cells #[.int .i64 (q : Int)] 3)).ownsRow (w.heap.size + 2) 3 1 (.slice (some ⟨w1.heap.size, 0, none⟩) 1 1) 1 (natC ([] ++ [q])) := ⟨rfl, .inr ⟨w1.heap.size, 1, #[.int .i64 (q : Int)], rfl, by omega, heap_alloc_at _ _ _ (by simp), Nat.le_refl _, by decide, rfl, rfl⟩⟩
  have hS2 : Srch (nxB s o js) f.toNat (okB s js) q (fun i => i == q) [] [q] := Srch.start (okB_of (asked_on HA.out))
  clear d1 d2 hrow hown hgrow hB1 hR1
  go_loopw [6, 7, 8, 9] (fun v k _ _ wr => ∃ (D T : List Nat) (F : Nat → Bool) (d L : Nat), D.length = d ∧ (D ++ T).length = L ∧ k = .int .i64 (d : Int) ∧ wr.ownsRow (w.heap.size + 2) 3 1 v L (natC (D ++ T)) ∧ RowB wr (w.heap.size + 1) 4 n F ∧ Srch (nxB s o js) f.toNat (okB s js) q F D T ∧ Below (w.heap.size + 1) (w.alloc (.cells #[.int .i64 s, .int .i64 f, .int .i64 o, .slice A js.length c] 30)) wr ∧ w.heap.size + 2 ≤ wr.heap.size) (fun _ k _ _ _ => n - (intOf k).toNat)
  case atStart => exact ⟨[], [q], _, 0, 1, rfl, rfl, rfl, hO2, hR2, hS2, hB2, by simp; omega⟩
  case round =>
    clear hB2 hR2 hO2 hS2
    obtain ⟨D, T, F, d, L, hd, hL, rfl, hown, hrow, hSr, hB, hsz⟩ := hrel
    have hlen := hSr.len (n := n) (fun x hx => by have := okB_lt x hx; rw [HN.out]; exact this)
    have hL2 : L = d + T.length := by rw [← hL, ← hd]; simp
    have hpos : 0 < L := by
      rcases (hSr.seen q).1 hSr.has with h | h
      · have := List.length_pos_of_mem h; omega
      · have := List.length_pos_of_mem h; omega
    obtain ⟨gq, cq, rfl, hgq, hcq, hlq, hcell⟩ := own_open hown hL hpos
    cases T with
    | nil =>
      have HALL := Lib.hid hSr.all
      obtain rfl : L = d := by simpa using hL2
      have t1 : ¬ (L : Int) < (L : Int) := by omega
      clear hcell hown hSr hlen hpos hd hL hL2
      go_wp2
      go_ret
      exact ⟨_, F, by rw [← HN.out]; rfl, by omega, by rw [← HN.out]; exact hrow, HALL.out, (below1 _ _).trans (hB.mono (by omega))⟩
    | cons x T =>
      have t1 : (d : Int) < (L : Int) := by simp at hL2; omega
      have HON := Lib.hid (hSr.on x (.inr (by simp)))
      have HD := Lib.hid hd; have HL := Lib.hid hL
      clear hcell hpos hL2 hL hd hlen
      go_wp2
      go_loopw [8, 6, 9] (fun fc v _ wi => ∃ (j : Nat) (T : List Nat) (F : Nat → Bool) (L : Nat), j ≤ f.toNat ∧ fc = .int .i64 ((j : Int) + 1) ∧ (D ++ x :: T).length = L ∧ wi.ownsRow (w.heap.size + 2) 3 1 v L (natC (D ++ x :: T)) ∧ RowB wi (w.heap.size + 1) 4 n F ∧ Srch (nxB s o js) f.toNat (okB s js) q F D (x :: T) ∧ (∀ face, 1 ≤ face → face ≤ j → F (nxB s o js x face) = true) ∧ Below (w.heap.size + 1) (w.alloc (.cells #[.int .i64 s, .int .i64 f, .int .i64 o, .slice A js.length c] 30)) wi ∧ w.heap.size + 2 ≤ wi.heap.size) (fun fc _ _ _ => f.toNat + 1 - (intOf fc).toNat)
      case atStart => exact ⟨0, T, F, L, Nat.zero_le _, rfl, HL.out, hown, hrow, hSr, fun face h1 h2 => by omega, hB, hsz⟩
      case round =>
        clear hown hrow hSr hB hsz HL t1 hcq
        obtain ⟨j, T, F, L, hjf, rfl, hL, hown, hrow, hSr, hfaces, hB, hsz⟩ := hrel
        have hlen := hSr.len (n := n) (fun x hx => by have := okB_lt x hx; rw [HN.out]; exact this)
        have hd := HD.out
        have hL2 : L = d + (T.length + 1) := by rw [← hL, ← hd]; simp
        simp only [List.length_cons] at hlen
        have hLn : L ≤ n := by omega
        have hdn : d < n := by omega
        have bc := boxcells hB
        by_cases hlj : j < f.toNat
        · have h4 : (j : Int) + 1 ≤ f := by omega
          obtain ⟨gq, cq, rfl, hgq, hcq, hlq, hcell⟩ := own_open hown hL (by omega)
          have cx := hcell d (by omega)
          have ex : (D ++ x :: T)[d]'(by omega) = x := by subst hd; simp
          rw [ex] at cx
          have iD : (d : Int) < (L : Int) := by omega
          have hokx := HON.out.1
          have hth := nxB_eq (o := o) (asked_good HA.out) hokx.1 (show 1 ≤ j + 1 by omega)
          have hoky := okB_next (o := o) (asked_good HA.out) f.toNat x hokx (j + 1) (by omega) (by omega)
          have hyn : nxB s o js x (j + 1) < n := by have := okB_lt _ hoky; rw [HN.out]; exact this
          obtain ⟨y, hy⟩ : ∃ y, nxB s o js x (j + 1) = y := ⟨_, rfl⟩
          rw [hy] at hyn hth
          have hyi : (y : Int) < (n : Int) := by omega
          have hcast : (((j + 1 : Nat) : Int)) = (j : Int) + 1 := by omega
          rw [hcast] at hth
          have HTH := Lib.hid hth; have HY := Lib.hid hy; have HF := Lib.hid hfaces; have HL := Lib.hid hL
          have hxs : (x : Int) ≤ s := hokx.1
          have hbd := hB.drew
          have hx0 : (0 : Int) ≤ (x : Int) := by omega
          clear hcell ex hth hy hcast hoky hokx hfaces hd hL hL2 hlen
          go_wp2_with fail
          refine wp_region_held_drew (S := (fun w' => Below (w.heap.size + 1) (w.alloc (.cells #[.int .i64 s, .int .i64 f, .int .i64 o, .slice A js.length c] 30)) w' ∧ (∀ i, w'.cell? ⟨w.heap.size, i, none⟩ = #[.int .i64 s, .int .i64 f, .int .i64 o, .slice A js.length c][i]?) ∧ w'.cell? ⟨gq, d, none⟩ = some (.int .i64 (x : Int)))) (by kernel_rfl) ⟨hbd, boxcells hbd, cx⟩ (fun hS => ?_)
          refine wpAnyH_take (i := 0) (oi := ⟨some 31, _, _, _, _, _⟩) (v := ?va1) rfl (by kernel_rfl) (by kernel_rfl) (by kernel_rfl) (fun _ _ _ h => h) (Or.inl ⟨by rfl, ?ha1⟩) hS ?ra1
          case ha1 => (intro w' hSw; (try dsimp only at hSw); go_simp; (try with_reducible rfl))
          try simp only [Act.put, List.setIfInBounds_toArray, List.set_cons_zero, List.set_cons_succ]
          refine wpAnyH_take (i := 1) (oi := ⟨some 32, _, _, _, _, _⟩) (v := ?va2) rfl (by kernel_rfl) (by kernel_rfl) (by kernel_rfl) (fun _ _ _ h => h) (Or.inl ⟨by rfl, ?ha2⟩) hS ?ra2
          case ha2 => (intro w' hSw; (try dsimp only at hSw); go_simp; (try with_reducible rfl))
          try simp only [Act.put, List.setIfInBounds_toArray, List.set_cons_zero, List.set_cons_succ]
          refine wpAnyH_take (i := 2) (oi := ⟨some 33, _, _, _, _, _⟩) (v := ?va3) rfl (by kernel_rfl) (by kernel_rfl) (by kernel_rfl) (fun _ _ _ h => h) (Or.inl ⟨by rfl, ?ha3⟩) hS ?ra3
          case ha3 => (intro w' hSw; (try dsimp only at hSw); go_simp; (try with_reducible rfl))
          try simp only [Act.put, List.setIfInBounds_toArray, List.set_cons_zero, List.set_cons_succ]
          refine wpAnyH_take (i := 3) (oi := ⟨some 34, _, _, _, _, _⟩) (v := ?va4) rfl (by kernel_rfl) (by kernel_rfl) (by kernel_rfl) (fun _ _ _ h => h) (Or.inl ⟨by rfl, ?ha4⟩) hS ?ra4
          case ha4 => (intro w' hSw; (try dsimp only at hSw); go_simp; (try with_reducible rfl))
          try simp only [Act.put, List.setIfInBounds_toArray, List.set_cons_zero, List.set_cons_succ]
          refine wpAnyH_take (i := 4) (oi := ⟨some 35, _, _, _, _, _⟩) (v := ?va5) rfl (by kernel_rfl) (by kernel_rfl) (by kernel_rfl) (fun _ _ _ h => h) (Or.inl ⟨by rfl, ?ha5⟩) hS ?ra5
          case ha5 => (intro w' hSw; (try dsimp only at hSw); go_simp; (try with_reducible rfl))
          try simp only [Act.put, List.setIfInBounds_toArray, List.set_cons_zero, List.set_cons_succ]
          refine wpAnyH_take (i := 5) (oi := ⟨some 36, _, _, _, _, _⟩) (v := ?va6) rfl (by kernel_rfl) (by kernel_rfl) (by kernel_rfl) (fun _ _ _ h => h) (Or.inl ⟨by rfl, ?ha6⟩) hS ?ra6
          case ha6 => (intro w' hSw; (try dsimp only at hSw); go_simp; (try with_reducible rfl))
          try simp only [Act.put, List.setIfInBounds_toArray, List.set_cons_zero, List.set_cons_succ]
          refine wpAnyH_ready (rs := [6]) (by kernel_rfl) (by simp) ?_
          refine AllReadyH.cons (o := ⟨some 37, _, _, _, _, _⟩) rfl (fun K' hK' => ?_) AllReadyH.nil
          go_simp
          go_at_call 57
          refine (sqThrow_any s f o A c x ((j : Int) + 1) js _ (hj.go ((below1 _ _).trans (hbd.mono (by omega)))) hz.1.1 hz.1.2 hz.2.2.1.1 hz.2.2.1.2 hx0 hxs (by omega) (by omega)).mono ?_
          rintro e w5 ⟨rfl, hx5⟩
          rw [HTH.out]
          have k1 := box_on hbd hx5 (by have := hbd.size; simpa using this)
          have k2 := keepcell hx5 (show wr.drew.cell? ⟨gq, d, none⟩ = _ from cx)
          refine hK'.out _ _ ⟨k1, boxcells k1, k2⟩ (fun _ => ?_)
          clear hK' K'
          try simp only [Act.put, List.setIfInBounds_toArray, List.set_cons_zero, List.set_cons_succ]
          refine wpAnyH_ready (rs := [7]) (by kernel_rfl) (by simp) ?_
          refine AllReadyH.cons (o := ⟨some 9, _, _, _, _, _⟩) rfl (fun K' hK' => ?_) AllReadyH.nil
          go_simp
          refine hK'.out _ _ ⟨k1, boxcells k1, k2⟩ (fun _ => ?_)
          clear hK' K'
          try simp only [Act.put, List.setIfInBounds_toArray, List.set_cons_zero, List.set_cons_succ]
          refine wpAnyH_done (by kernel_rfl) ?_ _
          have hrow5 := hrow.drew.below hx5 hrow.lt
          have hown5 := own_below (show World.ownsRow wr.drew (w.heap.size + 2) 3 1 _ _ _ from hown) hx5
          have hsz5 : w.heap.size + 2 ≤ w5.heap.size := Nat.le_trans hsz hx5.size
          have e1 := hrow5.cell hyn
          have e2 := hrow5.free y
          clear hown hrow hB hbd bc cx
          cases hF : F y
          · have HFY := Lib.hid hF
            have hown6 := (ownsRow_setCell_below hown5 (a := ⟨w.heap.size + 1, y, none⟩) (by simp) (.bool true)).alloc (.cells #[.int .i64 (y : Int)] 3)
            have hrow6 := (hrow5.set hyn true).alloc (.cells #[.int .i64 (y : Int)] 3)
            have hB6 := (k1.setCell (p := ⟨w.heap.size + 1, y, none⟩) (by simp) (.bool true)).alloc (by simp; omega) (.cells #[.int .i64 (y : Int)] 3)
            have hS6 := Lib.hid (hSr.push (x := x) (face := j + 1) (.inr (by simp)) (by omega) (by omega) (okB_next (asked_good HA.out) f.toNat) HY.out hF)
            have hlen6 := hS6.out.len (n := n) (fun x hx => by have := okB_lt x hx; rw [HN.out]; exact this)
            clear hrow5 hown5 k1 k2 hSr
            go_wp2_with (at_builtin; go_loud (refine wpList_append_own _ rfl _ _ 70 rfl (w.heap.size + 2) 3 j0 (.int .i64 0) 1 8 Try.underlying70 hji hjz0 hjz1 hjz2 rfl (by decide) _ _ _ rfl hown6 ⟨w5.heap.size, 0, none⟩ 1 1 [.int .i64 (y : Int)] rfl rfl (cell_new1' _ _ _ (by simp)) (one_int _) (by unfold maxLen; omega) (by omega) (by simp; omega) ?_; intro v1 w7 hown7 hg7 _))
            have hf := own_from hown6
            go_roundw
            case rel =>
              refine ⟨j + 1, T ++ [y], setB F y, L + 1, hlj, by go_num, ?_, ?_, hrow6.grown hg7 (fun e => by have := hf _ e.symm; omega), hS6.out, fun face h1 h2 => ?_, hB6.grown hg7 (by simp; omega) (fun j e => by have := hf _ e; omega), by have := hg7.size; simp at this; omega⟩
              · rw [← HL.out]; simp; omega
              · rw [← List.cons_append, ← List.append_assoc, natC_snoc]; exact hown7
              · unfold setB
                by_cases e : nxB s o js x face = y
                · rw [if_pos e]
                · rw [if_neg e]
                  by_cases e2 : face = j + 1
                  · exact absurd (by rw [e2]; exact HY.out) e
                  · exact HF.out face h1 (by omega)
            case measure => simp [intOf]; omega
          · have HFY := Lib.hid hF
            go_wp2
            go_roundw
            case rel =>
              refine ⟨j + 1, T, F, L, hlj, by go_num, HL.out, hown5, hrow5, hSr, fun face h1 h2 => ?_, k1, hsz5⟩
              by_cases e : face = j + 1
              · rw [e, HY.out]; exact HFY.out
              · exact HF.out face h1 (by omega)
            case measure => simp [intOf]; omega
        · have h4 : ¬ (j : Int) + 1 ≤ f := by omega
          obtain rfl : j = f.toNat := by omega
          have HFN := Lib.hid (hSr.finish hfaces)
          have HL := Lib.hid hL
          clear hfaces hSr hL hd hL2
          go_wp2
          go_roundw
          case rel => exact ⟨D ++ [x], T, F, d + 1, L, by rw [← HD.out]; simp, by rw [← HL.out]; simp, by go_num, by simpa using hown, hrow, HFN.out, hB, hsz⟩
          case measure => simp [intOf]; omega
end Go.Proofs.Ytndodohngeaklaa

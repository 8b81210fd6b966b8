/-
  Squares that are reached, the program's: reached.
-/
import Derived.Test.YtndodohngeaklaaC1k
import Derived.Test.YtndodohngeaklaaC1d
import Derived.Deep.LoopGhost
namespace Go.Proofs.Ytndodohngeaklaa
open Go.RowKit

theorem boolZero : Try.zeroCells83 = arrT (fun _ => false) := by kernel_rfl
theorem sizeBools : (Try.prog.info? 83).map (·.size) = some 101 := by kernel_rfl
/-- What the program's search hands back. -/
def ReachArr (w : World) (s f o : Int) (js : List (Int × Int)) (q : Nat) (e : Ending) (w' : World) : Prop :=
  ∃ F, e = .returned (.agg (arrT F)) ∧ (∀ i, F i = true ↔ Rch (nxB s o js) f.toNat q i) ∧ Below w.heap.size w w'
/-- The front of a row. -/
theorem own_cut {w : World} {base e g n c m : Nat} {xs : List Value} (h : w.ownsRow base e 1 (.slice (some ⟨g, 0, none⟩) n c) n xs) (hm : m ≤ n) : w.ownsRow base e 1 (.slice (some ⟨g, 0, none⟩) m c) m (xs.take m) := by
  obtain ⟨h0, ⟨hv, _⟩ | ⟨g', cap, cs, hv, hb, hh, hn, hx, hsz, htk⟩⟩ := h
  · cases hv
  · injection hv with h1 h2 h3
    injection h1 with h1; injection h1 with h1 _ _
    subst h1; subst h3
    refine ⟨by rw [List.length_take, h0]; omega, .inr ⟨g, c, cs, rfl, hb, hh, by omega, hx, hsz, ?_⟩⟩
    rw [← htk, List.take_take]
    congr 1
    omega

set_option maxRecDepth 100000 in
set_option maxHeartbeats 1000000 in
theorem reached_any (g : Nat) (s f o : Int) (q : Nat) (js : List (Int × Int)) (w : World) (hC : CV w g s f o (fun i => jumpOf js i)) (hgw : g < w.heap.size) (ha : asked s f o js q = true) :
    Calls Try.prog 65 #[.pointer (some ⟨g, 0, none⟩), .int .i64 q] w (ReachArr w s f o js q) := by
  have hz := good_sizes (asked_good ha)
  have hq := onSq_in (asked_on ha)
  have HA := Lib.hid ha; clear ha
  have iq : (q : Int) < 101 := by omega
  have iqn : q < 101 := by omega
  obtain ⟨j0, hji, hjz0, hjz1, hjz2⟩ := info_parts infoInt1
  have hW2 : ((w.alloc (.cells Try.zeroCells83 83)).alloc (.cells Try.zeroCells83 83)).heap[w.heap.size + 1]? = some (.cells Try.zeroCells83 83 (0, 0)) := heap_alloc_at _ _ _ (by simp)
  have hR2 : ((w.alloc (.cells Try.zeroCells83 83)).alloc (.cells Try.zeroCells83 83)).heap[w.heap.size]? = some (.cells Try.zeroCells83 83 (0, 0)) := (Below.heap_alloc _ _ _ (by simp)).trans (heap_alloc_at _ _ _ rfl)
  have c1 : ((w.alloc (.cells Try.zeroCells83 83)).alloc (.cells Try.zeroCells83 83)).cell? ⟨w.heap.size + 1, q, none⟩ = some (.bool false) := by
    rw [cell_of_row _ _ _ _ _ _ hW2, boolZero]; exact arrT_at _ iqn
  have c2 : ((w.alloc (.cells Try.zeroCells83 83)).alloc (.cells Try.zeroCells83 83)).frozen? ⟨w.heap.size + 1, q, none⟩ = false := frozen_row hW2
  have HW2 := Lib.hid hW2; have HR2 := Lib.hid hR2; clear hW2 hR2
  go_enter Try.func65, Try.ntmps65
  go_wp2
  obtain ⟨w9, hw9⟩ : ∃ w9, w9 = (((w.alloc (.cells Try.zeroCells83 83)).alloc (.cells (Try.zeroCells83.setIfInBounds q (.bool true)) 83)).alloc (.cells #[.int .i64 (q : Int)] 3)) := ⟨_, rfl⟩
  have hA9 : w9.heap[w.heap.size + 1]? = some (.cells (arrT (fun i => i == q)) 83 (0, 0)) := by
    have e : (Try.zeroCells83.setIfInBounds q (.bool true)) = arrT (fun i => i == q) := by
      have e2 : (fun i => if i = q then true else false) = (fun i => i == q) := by funext i; by_cases e : i = q <;> simp [e]
      rw [boolZero, arrT_set _ iqn, e2]
    rw [hw9, Below.heap_alloc _ _ _ (by simp), ← e]
    first | done | exact heap_alloc_at _ _ _ (by simp)
  have hR9 : w9.heap[w.heap.size]? = some (.cells Try.zeroCells83 83 (0, 0)) := by
    rw [hw9, Below.heap_alloc _ _ _ (by simp; omega), Below.heap_alloc _ _ _ (by simp)]
    first | done | exact heap_alloc_at _ _ _ rfl
  have hB9 : Below w.heap.size w w9 := by rw [hw9]; exact below3 _ _ _ _
  have hO9 : w9.ownsRow (w.heap.size + 2) 3 1 (.slice (some ⟨w.heap.size + 1 + 1, 0, none⟩) 1 1) 1 (natC [q]) := by
    rw [hw9]
    exact ⟨rfl, .inr ⟨w.heap.size + 1 + 1, 1, #[.int .i64 (q : Int)], rfl, Nat.le_refl _, heap_alloc_at _ _ _ (by simp), Nat.le_refl _, by decide, rfl, rfl⟩⟩
  have hS9 : Srch (nxB s o js) f.toNat (okB s js) q (fun i => i == q) [] [q] := Srch.start (okB_of (asked_on HA.out))
  have hz9 : w.heap.size + 3 ≤ w9.heap.size := by rw [hw9]; simp
  rw [← hw9]
  clear hw9 c1 c2 HW2 HR2
  go_loopg [6, 7, 8, 9] 101 (fun gh v _ _ _ wr => ∃ (D T : List Nat) (F : Nat → Bool) (L : Nat), D.length + gh = 101 ∧ T.length = L ∧ wr.ownsRow (w.heap.size + 2) 3 1 v L (natC T) ∧ (∃ A c, v = .slice A L c) ∧ wr.heap[w.heap.size + 1]? = some (.cells (arrT F) 83 (0, 0)) ∧ wr.heap[w.heap.size]? = some (.cells Try.zeroCells83 83 (0, 0)) ∧ Srch (nxB s o js) f.toNat (okB s js) q F D T ∧ Below w.heap.size w wr ∧ w.heap.size + 3 ≤ wr.heap.size)
  case atStart => exact ⟨[], [q], _, 1, rfl, rfl, hO9, ⟨_, _, rfl⟩, hA9, hR9, hS9, hB9, hz9⟩
  case round =>
    clear hA9 hR9 hB9 hO9 hS9 hz9
    obtain ⟨D, T, F, L, hDg, hL, hown, ⟨Av, cv, rfl⟩, hA, hR, hSr, hB, hsz⟩ := hrel
    rcases List.eq_nil_or_concat T with rfl | ⟨T, x, rfl⟩
    · have HALL := Lib.hid hSr.all
      obtain rfl : L = 0 := by simpa using hL.symm
      clear hown hSr hL hDg
      go_wp2_with (first | (refine wpList_load_row rfl 83 _ rfl (w.heap.size + 1) rfl _ _ _ _ hA Try.underlying83 rfl ?_ ?_; (rw [arrT_size]; exact sizeBools)) | (refine wpList_store_row rfl 83 _ _ rfl w.heap.size rfl _ _ _ rfl hR ?_ ?_ (arrT_one _) ?_; (rw [arrT_size, boolZero, arrT_size]); (rw [arrT_size]; exact sizeBools); intro w7 h7 g7 s7))
      exact bodyPost_ret (v := .agg (arrT F)) (results_cell1k Try.results65 _ _ _ _ _ _ _ rfl h7 Try.underlying83 rfl (by rw [arrT_size]; exact sizeBools)) rfl
        ⟨F, rfl, HALL.out, hB.grown g7 (by omega) (fun j h => by cases h; omega)⟩
    · rw [List.concat_eq_append] at hown hSr hL
      obtain ⟨M, rfl⟩ : ∃ M, L = M + 1 := ⟨T.length, by rw [← hL]; simp⟩
      have hTM : T.length = M := by simpa using hL
      have hM100 : M + 1 ≤ 101 := by
        have := hSr.len (n := 101) (fun x hx => by have := okB_lt x hx; omega)
        rw [hL] at this; omega
      obtain ⟨gq, cq, hv, hgq, hcq, hlq, hcell⟩ := own_open hown hL (by omega)
      injection hv with hv1 _ hv3
      subst hv1; subst hv3
      have cx := hcell M (by rw [hL]; omega)
      have ex : (T ++ [x])[M]'(by simp; omega) = x := by subst hTM; simp
      rw [ex] at cx
      have hcut := own_cut hown (show M ≤ M + 1 by omega)
      have etk : (natC (T ++ [x])).take M = natC T := by rw [natC, List.map_append, List.take_left' (by simpa using hTM)]; rfl
      rw [etk] at hcut
      have hSp : Srch (nxB s o js) f.toNat (okB s js) q F D (x :: T) := hSr.perm (List.perm_append_singleton x T)
      have hon := hSr.on x (.inr (by simp))
      have w1 : IntKind.i64.wrap (((M + 1 : Nat) : Int) - 1) = (M : Int) := by rw [IntWalk.i64_in _ (by omega)]; omega
      have m1 : (0 : Int) < ((M + 1 : Nat) : Int) := by omega
      have m2 : (M : Int) < ((M + 1 : Nat) : Int) := by omega
      have m3 : (M : Int) ≤ (cv : Int) := by omega
      have m4 : (0 : Int) ≤ (M : Int) := by omega
      have HON := Lib.hid hon; have HTM := Lib.hid hTM; have HDG := Lib.hid hDg
      clear hcell ex etk hown hSr hL hon hTM hDg
      go_wp2
      go_loopg [8, 6, 9] f.toNat (fun gj fc v _ wi => ∃ (j : Nat) (T : List Nat) (F : Nat → Bool) (L : Nat), j + gj = f.toNat ∧ fc = .int .i64 ((j : Int) + 1) ∧ T.length = L ∧ wi.ownsRow (w.heap.size + 2) 3 1 v L (natC T) ∧ (∃ A c, v = .slice A L c) ∧ wi.heap[w.heap.size + 1]? = some (.cells (arrT F) 83 (0, 0)) ∧ wi.heap[w.heap.size]? = some (.cells Try.zeroCells83 83 (0, 0)) ∧ Srch (nxB s o js) f.toNat (okB s js) q F D (x :: T) ∧ (∀ face, 1 ≤ face → face ≤ j → F (nxB s o js x face) = true) ∧ Below w.heap.size w wi ∧ w.heap.size + 3 ≤ wi.heap.size)
      case atStart => exact ⟨0, T, F, M, by omega, rfl, HTM.out, hcut, ⟨_, _, rfl⟩, hA, hR, hSp, fun face h1 h2 => by omega, hB, hsz⟩
      case round =>
        clear hcut hA hR hSp hB hsz cx w1 m1 m2 m3 m4 hM100 hgq hcq hlq HTM
        obtain ⟨j, T, F, L, hjg, rfl, hL, hown, ⟨Av, cv, rfl⟩, hA, hR, hSr, hfaces, hB, hsz⟩ := hrel
        have hCw : CV wr g s f o (fun i => jumpOf js i) := hC.below hB hgw
        have cf := hCw.fa
        by_cases hlj : j < f.toNat
        · have h4 : (j : Int) + 1 ≤ f := by omega
          have hokx := HON.out.1
          have hth := nxB_eq (o := o) (asked_good HA.out) hokx.1 (show 1 ≤ j + 1 by omega)
          have hoky := okB_next (o := o) (asked_good HA.out) f.toNat x hokx (j + 1) (by omega) (by omega)
          obtain ⟨y, hy⟩ : ∃ y, nxB s o js x (j + 1) = y := ⟨_, rfl⟩
          have hyn : y < 101 := by have := okB_lt _ hoky; omega
          rw [hy] at hth
          have hyi : (y : Int) < 101 := by omega
          have hcast : (((j + 1 : Nat) : Int)) = (j : Int) + 1 := by omega
          rw [hcast] at hth
          have hxq := hokx.2
          have hlen := hSr.len (n := 101) (fun x hx => by have := okB_lt x hx; omega)
          simp only [List.length_cons, hL] at hlen
          have HTH := Lib.hid hth; have HY := Lib.hid hy; have HF := Lib.hid hfaces; have HL := Lib.hid hL; have HXQ := Lib.hid hxq; have HJG := Lib.hid hjg
          have hxs : (x : Int) ≤ s := hokx.1
          have hx0 : (0 : Int) ≤ (x : Int) := by omega
          clear hth hy hcast hoky hokx hfaces hL hxq hjg
          go_wp2_with fail
          refine (behind_bel _ _ _ _ _ _ _ _ hCw hz.1.1 hz.1.2 hz.2.2.1.1 hz.2.2.1.2 hx0 hxs (good_end (asked_good HA.out)) HXQ.out (by omega) (by omega)).mono ?_
          rintro e w5 ⟨rfl, hx5, hs5⟩
          rw [HTH.out]
          have hA5 := (hx5.block (w.heap.size + 1) (by omega)).trans hA
          have hR5 := (hx5.block w.heap.size (by omega)).trans hR
          have hown5 := own_below hown hx5
          have hB5 : Below w.heap.size w w5 := hB.trans (hx5.mono hB.size)
          have hsz5 : w.heap.size + 3 ≤ w5.heap.size := by omega
          have e1 : w5.cell? ⟨w.heap.size + 1, y, none⟩ = some (.bool (F y)) := (cell_of_row _ _ _ _ _ _ hA5).trans (arrT_at _ hyn)
          have e2 : w5.frozen? ⟨w.heap.size + 1, y, none⟩ = false := frozen_row hA5
          clear hown hA hR hB cf hCw hx5 hs5
          cases hF : F y
          · have hA6 : (w5.setCell ⟨w.heap.size + 1, y, none⟩ (.bool true)).heap[w.heap.size + 1]? = some (.cells (arrT (setB F y)) 83 (0, 0)) := (heap_set _ _ _ _ _ _ hA5).trans (by rw [arrT_set _ hyn]; rfl)
            have hown6 := (ownsRow_setCell_below hown5 (a := ⟨w.heap.size + 1, y, none⟩) (by simp) (.bool true)).alloc (.cells #[.int .i64 (y : Int)] 3)
            have hA7 := (Below.heap_alloc _ (.cells #[.int .i64 (y : Int)] 3) _ (heap_lt hA6)).trans hA6
            have hR7 := (Below.heap_alloc _ (.cells #[.int .i64 (y : Int)] 3) w.heap.size (by simp; omega)).trans ((Below.heap_setCell w5 ⟨w.heap.size + 1, y, none⟩ (.bool true) w.heap.size (by simp)).trans hR5)
            have hB7 := (hB5.setCell (p := ⟨w.heap.size + 1, y, none⟩) (by simp) (.bool true)).alloc (by simp; omega) (.cells #[.int .i64 (y : Int)] 3)
            have hS6 := Lib.hid (hSr.push (x := x) (face := j + 1) (.inr (by simp)) (by omega) (by omega) (okB_next (asked_good HA.out) f.toNat) HY.out hF)
            clear hA5 hR5 hown5 hA6 hSr
            go_wp2_with (at_builtin; go_loud (refine wpList_append_own _ rfl _ _ 70 rfl (w.heap.size + 2) 3 j0 (.int .i64 0) 1 8 Try.underlying70 hji hjz0 hjz1 hjz2 rfl (by decide) _ _ _ rfl hown6 ⟨w5.heap.size, 0, none⟩ 1 1 [.int .i64 (y : Int)] rfl rfl (cell_new1' _ _ _ (by simp)) (one_int _) (by unfold maxLen; omega) (by omega) (by simp; omega) ?_; intro v1 w7 hown7 hg7 _))
            have hf := own_from hown6
            go_roundg (f.toNat - (j + 1))
            case rel =>
              refine ⟨j + 1, T ++ [y], setB F y, L + 1, by omega, by go_num, by rw [← HL.out]; simp, by rw [natC_snoc]; exact hown7, ?_, (hg7.block _ (by simp; omega) (fun e => by have := hf _ e.symm; omega)).trans hA7, (hg7.block _ (by simp; omega) (fun e => by have := hf _ e.symm; omega)).trans hR7, hS6.out, fun face h1 h2 => ?_, hB7.grown hg7 (by simp; omega) (fun j e => by have := hf _ e; omega), by have := hg7.size; simp at this; omega⟩
              · rcases hown7.2 with ⟨rfl, h0⟩ | ⟨g', c', cs, rfl, _⟩
                · exact absurd h0 (by omega)
                · exact ⟨_, _, rfl⟩
              · unfold setB
                by_cases e : nxB s o js x face = y
                · rw [if_pos e]
                · rw [if_neg e]
                  by_cases e2 : face = j + 1
                  · exact absurd (by rw [e2]; exact HY.out) e
                  · exact HF.out face h1 (by omega)
            case measure => have := HJG.out; omega
          · have HFY := Lib.hid hF
            go_wp2
            go_roundg (f.toNat - (j + 1))
            case rel =>
              refine ⟨j + 1, T, F, L, by omega, by go_num, HL.out, hown5, ⟨_, _, rfl⟩, hA5, hR5, hSr, fun face h1 h2 => ?_, hB5, hsz5⟩
              by_cases e : face = j + 1
              · rw [e, HY.out]; exact HFY.out
              · exact HF.out face h1 (by omega)
            case measure => have := HJG.out; omega
        · have h4 : ¬ (j : Int) + 1 ≤ f := by omega
          obtain rfl : j = f.toNat := by omega
          have HFN := Lib.hid (hSr.finish hfaces)
          have HL := Lib.hid hL
          clear hfaces hSr hL hjg
          go_wp2
          go_roundg (101 - (D.length + 1))
          case rel => exact ⟨D ++ [x], T, F, L, by have := HDG.out; have hl2 := (HFN.out.len (n := 101) (fun x hx => by have := okB_lt x hx; omega)); simp at hl2 ⊢; omega, HL.out, hown, ⟨_, _, rfl⟩, hA, hR, HFN.out, hB, hsz⟩
          case measure => have := HDG.out; have hl2 := (HFN.out.len (n := 101) (fun x hx => by have := okB_lt x hx; omega)); simp at hl2; omega
end Go.Proofs.Ytndodohngeaklaa

/-
  The model's sqParse.
-/
import Derived.Test.YtbblmbibddjedacDoorC1bb
import Derived.Test.YtbblmbibddjedacDoorC1cd
import Derived.Test.YtbblmbibddjedacDoorC1cg
import Derived.Test.YtbblmbibddjedacDoorWReg
import Derived.StillTailTactics
import Derived.Deep.RegionHeld3
import Derived.Deep.CutRange
namespace Go.Proofs.YtbblmbibddjedacDoor
open Go.RowKit

/-- What sqParse hands back: a board, and whether it is the one that has the text. -/
def SqBack (s : List UInt8) (B : Nat) (w : World) (e : Ending) (w' : World) : Prop :=
  ∃ (b : Bd) (A : Option Addr) (c : Nat) (ok : Bool), e = .returned (.tuple #[.agg #[.int .i64 b.sq, .int .i64 b.fa, .int .i64 b.ov, .slice A b.js.length c], .bool ok]) ∧ OJ w' B 57 A b.js.length (fun k => b.js.getD k (0, 0)) ∧ Below B w w' ∧ boardOf s = (if ok then some b else none)
theorem splitL_len (b : UInt8) (l : List UInt8) : ∀ x ∈ splitL b l, x.length ≤ l.length := by
  have h : ∀ (l cur : List UInt8), ∀ x ∈ splitGo b cur l, x.length ≤ cur.length + l.length := by
    intro l
    induction l with
    | nil => intro cur x hx; simp [splitGo] at hx; subst hx; simp
    | cons a t ih =>
      intro cur x hx
      rw [splitGo] at hx
      split at hx
      · rcases List.mem_cons.1 hx with rfl | hx
        · simp
        · have := ih [] x hx; simp at this ⊢; omega
      · have := ih _ x hx; simp at this ⊢; omega
  intro x hx
  have := h l [] x hx
  simpa using this
theorem own_ltT {w : World} {base e size n : Nat} {v : Value} {xs : List Value} (h : w.ownsRow base e size v n xs) : ∀ g, v.ownBlock = some g → g < w.heap.size := by
  intro g hg
  rcases h.2 with ⟨rfl, _⟩ | ⟨g', cap, cs, rfl, _, hh, _⟩
  · simp [Value.ownBlock] at hg
  · simp [Value.ownBlock] at hg
    subst hg
    exact heap_lt hh
theorem cell_grown {w w' : World} {row : Option Nat} (hg : w.grownBy w' row) {b o : Nat} (hb : b < w.heap.size) (hne : some b ≠ row) : w'.cell? ⟨b, o, none⟩ = w.cell? ⟨b, o, none⟩ := by
  unfold World.cell?
  rw [hg.block b hb hne]
theorem cell_pre (w : World) (ob : Obj) (b o : Nat) (hb : b < w.heap.size) : (w.alloc ob).drew.cell? ⟨b, o, none⟩ = w.cell? ⟨b, o, none⟩ := by
  show (w.alloc ob).cell? ⟨b, o, none⟩ = _
  unfold World.cell?
  rw [Below.heap_alloc w ob b hb]
theorem cell_setP {w : World} {b n : Nat} (v : Value) (j : Nat) (h : b ≠ n) (i : Nat) : (w.setCell ⟨n, j, none⟩ v).cell? ⟨b, i, none⟩ = w.cell? ⟨b, i, none⟩ := by
  unfold World.cell?
  rw [Below.heap_setCell _ _ _ _ h]
theorem mapM_step {ts : List (List UInt8)} {k : Nat} {acc : List (Int × Int)} {j : Int × Int} (hlt : k < ts.length) (hj : jumpS ts[k] = some j) (h : ts.mapM jumpS = ((ts.drop k).mapM jumpS).map (acc ++ ·)) :
    ts.mapM jumpS = ((ts.drop (k + 1)).mapM jumpS).map ((acc ++ [j]) ++ ·) := by
  rw [h, drop_step _ _ hlt, List.mapM_cons, hj]
  cases (ts.drop (k + 1)).mapM jumpS <;> simp
theorem mapM_fail {ts : List (List UInt8)} {k : Nat} {acc : List (Int × Int)} (hlt : k < ts.length) (hj : jumpS ts[k] = none) (h : ts.mapM jumpS = ((ts.drop k).mapM jumpS).map (acc ++ ·)) : ts.mapM jumpS = none := by
  rw [h, drop_step _ _ hlt, List.mapM_cons, hj]
  rfl
theorem jumpS_two {t u v : List UInt8} (h : splitL 62 t = [u, v]) : jumpS t = some (readL u, readL v) := by unfold jumpS; rw [h]
theorem jumpS_not {t : List UInt8} (h : ¬ (splitL 62 t).length = 2) : jumpS t = none := by
  unfold jumpS
  split
  · rename_i h2
    rw [h2] at h
    simp at h
  · rfl
theorem two_of {α : Type} {l : List α} (h : l.length = 2) : ∃ a b, l = [a, b] := by
  match l, h with
  | [a, b], _ => exact ⟨a, b, rfl⟩
theorem splitL_count (b : UInt8) (l : List UInt8) : (splitL b l).length ≤ l.length + 1 := by
  have h : ∀ (l cur : List UInt8), (splitGo b cur l).length ≤ l.length + 1 := by
    intro l
    induction l with
    | nil => intro cur; simp [splitGo]
    | cons a t ih =>
      intro cur
      rw [splitGo]
      split
      · have := ih []; simp; omega
      · have := ih (cur ++ [a]); simp; omega
  exact h l []

set_option maxRecDepth 100000 in
set_option maxHeartbeats 4000000 in
theorem sqParse_any (s : List UInt8) (w : World) (hs : s.length ≤ 1048576) :
    Calls Tryd.prog 30 #[strV s] w (SqBack s w.heap.size w) := by
  obtain ⟨ti, hi, hz0, hz1, hz2⟩ := info_parts infoJumpT
  obtain ⟨W0, hW0⟩ : ∃ W0, W0 = w.alloc (.cells #[.int .i64 0, .int .i64 0, .int .i64 0, .slice none 0 0] 32) := ⟨_, rfl⟩
  have z0 : W0.heap.size = w.heap.size + 1 := by rw [hW0]; simp
  have h0 : Below w.heap.size w W0 := by rw [hW0]; exact below1 _ _
  have k0 : W0.heap[w.heap.size]? = some (.cells #[.int .i64 0, .int .i64 0, .int .i64 0, .slice none 0 0] 32 (0, 0)) := by rw [hW0]; exact heap_alloc_at _ _ _ rfl
  have HW := Lib.hid hW0
  by_cases h200 : 200 < s.length
  · have HB := Lib.hid (show boardOf s = none by unfold boardOf parseS; rw [if_pos h200]; rfl)
    have h2 : (200 : Int) < s.length := by omega
    go_enter Tryd.func30, Tryd.ntmps30
    go_wp2_with fail
    refine bodyPost_ret (v := .tuple #[.agg #[.int .i64 0, .int .i64 0, .int .i64 0, .slice none 0 0], .bool false]) (by simp [results, Tryd.results30, go_sem]) rfl ?_
    exact ⟨⟨0, 0, 0, []⟩, none, 0, false, rfl, .inl rfl, below1 _ _, HB.out⟩
  · have h2 : ¬ (200 : Int) < s.length := by omega
    obtain ⟨p, ts, hpts⟩ : ∃ p ts, splitL 59 s = p :: ts := by
      cases h : splitL 59 s with
      | nil => exact absurd h (splitGo_ne _ _ _)
      | cons p ts => exact ⟨p, ts, rfl⟩
    have hS : parseS s = match splitL 100 p with
      | [a, r] => (match splitL 47 r with
        | [x, y] => (ts.mapM jumpS).map fun js => ⟨readL a, readL x, readL y, js⟩
        | _ => none)
      | _ => none := by unfold parseS; rw [if_neg h200, hpts]; rfl
    have hpl : p.length ≤ 200 := by have := splitL_len 59 s p (by rw [hpts]; simp); omega
    have hsp := l1Split_any s 59 W0 hs
    rw [hpts] at hsp
    go_enter Tryd.func30, Tryd.ntmps30
    go_wp2_with fail
    rw [← HW.out]
    clear hW0
    refine hsp.mono ?_
    rintro e w1 ⟨g1, c1, rfl, ⟨hg1, hc1⟩, hr1, hx⟩
    rw [z0] at hx hg1
    have q1 := hr1.cell (k := 0) (by simp)
    simp only [List.getElem_cons_zero] at q1
    go_wp2_with fail
    have hlt1 := hr1.lt
    refine (l1Split_any p 100 w1 (by omega)).mono ?_
    rintro e w2 ⟨g2, c2, rfl, ⟨hg2, hc2⟩, hr2, hy⟩
    have hb2 := hx.trans (hy.mono (by have := hx.size; omega))
    have hr1' := hr1.below hy hlt1
    by_cases hn2 : (splitL 100 p).length = 2
    · obtain ⟨a, r, har⟩ : ∃ a r, splitL 100 p = [a, r] := two_of hn2
      rw [har] at hr2 hS ⊢
      clear hn2
      have q2 := hr2.cell (k := 1) (by simp)
      have q20 := hr2.cell (k := 0) (by simp)
      simp only [List.getElem_cons_zero, List.getElem_cons_succ] at q2 q20
      have hlt2 := hr2.lt
      have hrl : r.length ≤ 200 := by have := splitL_len 100 p r (by rw [har]; simp); omega
      go_wp2_with fail
      refine (l1Split_any r 47 w2 (by omega)).mono ?_
      rintro e w3 ⟨g3, c3, rfl, ⟨hg3, hc3⟩, hr3, hz⟩
      have hb3 := hb2.trans (hz.mono (by have := hb2.size; omega))
      have hr2' := hr2.below hz hlt2
      have hr1'' := hr1'.below hz hr1'.lt
      by_cases hn3 : (splitL 47 r).length = 2
      · obtain ⟨x, y, hxy⟩ : ∃ x y, splitL 47 r = [x, y] := two_of hn3
        rw [hxy] at hr3 hS ⊢
        clear hn3 q1 q2 q20
        have q2 := hr2'.cell (k := 0) (by simp)
        have q3 := hr3.cell (k := 0) (by simp)
        have q31 := hr3.cell (k := 1) (by simp)
        simp only [List.getElem_cons_zero, List.getElem_cons_succ] at q2 q3 q31
        have hl3 := splitL_len 47 r
        rw [hxy] at hl3
        have hxl := hl3 x (by simp)
        have hyl := hl3 y (by simp)
        have hal : a.length ≤ 200 := by have := splitL_len 100 p a (by rw [har]; simp); omega
        go_upto_region 10 with fail
        go_cut [7] from 33 to 45 (fun s7 wx => s7 = .pointer (some ⟨w3.heap.size, 0, none⟩) ∧ wx = (w3.alloc (.cells #[.int .i64 (readL a), .int .i64 (readL x), .int .i64 (readL y), .slice none 0 0] 32)).drew)
        case first =>
         go_region_held3 (fun w' => w'.cell? ⟨g2, 0, none⟩ = some (strV a) ∧ w'.cell? ⟨g3, 0, none⟩ = some (strV x) ∧ w'.cell? ⟨g3, 1, none⟩ = some (strV y)) (go_keep)
          (first
            | (go_at_call 47; refine (l1Read_any _ _ (by omega)).mono ?_; rintro e w4 ⟨rfl, rfl⟩))
         all_goals (go_wp2_with fail; go_meet; exact ⟨rfl, rfl⟩)
        case rest =>
          obtain ⟨rfl, hwc⟩ := hcut
          have HWC := Lib.hid hwc
          have hN : w3.heap.size < wc.heap.size := by rw [hwc]; simp
          have hzN : wc.heap.size = w3.heap.size + 1 := by rw [hwc]; simp
          have hw3 : Below w3.heap.size w3 wc := by rw [hwc]; exact ((Below.refl _ _).alloc (Nat.le_refl _) _).drew
          have hNr : wc.heap[w3.heap.size]? = some (.cells #[.int .i64 (readL a), .int .i64 (readL x), .int .i64 (readL y), .slice none 0 0] 32 (0, 0)) := by rw [hwc]; exact heap_alloc_at _ _ _ rfl
          clear hwc
          have hbc := hb3.trans (hw3.mono (by have := hb3.size; omega))
          have hrc := hr1''.below hw3 hr1''.lt
          have hlt3 := hr1''.lt
          have zb3 := hb3.size
          obtain ⟨N, eN⟩ : ∃ N, N = w3.heap.size := ⟨_, rfl⟩
          rw [← eN] at hNr hN hzN hlt3
          rw [← eN]
          have hNw : w.heap.size + 1 ≤ N := by omega
          have EN := Lib.hid eN; clear eN
          clear q2 q3 q31
          have hcc : ts.length + 1 ≤ c1 := by simpa using hc1
          have hS' : parseS s = (ts.mapM jumpS).map fun js => ⟨readL a, readL x, readL y, js⟩ := hS
          have HS := Lib.hid hS'; clear hS hS'
          have hTL := splitL_len 59 s
          rw [hpts] at hTL
          have hTC := splitL_count 59 s
          rw [hpts] at hTC
          simp only [List.length_cons] at hTC
          clear hsp hpts
          obtain ⟨ra, hra⟩ : ∃ n, n = readL a := ⟨_, rfl⟩
          obtain ⟨rx, hrx⟩ : ∃ n, n = readL x := ⟨_, rfl⟩
          obtain ⟨ry, hry⟩ : ∃ n, n = readL y := ⟨_, rfl⟩
          rw [← hra, ← hrx, ← hry] at hNr HS
          have HR := Lib.hid (And.intro hra (And.intro hrx hry)); clear hra hrx hry
          go_wp2_with fail
          · go_loopw [49] (fun i wr => ∃ (k : Nat) (acc : List (Int × Int)) (A : Option Addr) (cp : Nat), k ≤ ts.length ∧ i = .int .i64 (k : Int) ∧ acc.length = k ∧ wfJ acc ∧ Below (w.heap.size + 1) W0 wr ∧ Below N wc wr ∧ N + 1 ≤ wr.heap.size ∧
              wr.heap[N]? = some (.cells #[.int .i64 ra, .int .i64 rx, .int .i64 ry, .slice A k cp] 32 (0, 0)) ∧ wr.ownsRow (N + 1) 57 2 (.slice A k cp) k (flatJ acc) ∧ ts.mapM jumpS = ((ts.drop k).mapM jumpS).map (acc ++ ·)) (fun i _ => ts.length - (intOf i).toNat)
            case atStart => exact ⟨0, [], none, 0, Nat.zero_le _, rfl, rfl, fun j hj => by simp at hj, hbc, Below.refl _ _, by omega, hNr, World.ownsRow_nil _ _ _ _, by simp⟩
            case round =>
             obtain ⟨k, acc, A, cp, hk, rfl, hka, hwf, hb, hbN, hsz, hNk, ho, hd⟩ := hrel
             have HD := Lib.hid hd; have HK := Lib.hid hka; clear hd hka
             by_cases hlt : k < ts.length
             · first
               | (exfalso; omega)
               | (have hlt' : (k : Int) < (ts.length : Int) := by omega
                  have qt := (hrc.below hbN (by omega)).cell (k := k + 1) (by simpa using hlt)
                  simp only [List.getElem_cons_succ] at qt
                  have hq : wr.cell? ⟨g1, 1 + k, none⟩ = some (strV ts[k]) := by rw [Nat.add_comm]; exact qt
                  have htl : ts[k].length ≤ 200 := by have := hTL ts[k] (by simp); omega
                  clear qt
                  go_wp2_with fail
                  refine (l1Split_any ts[k] 62 wr (by omega)).mono ?_
                  rintro e w5 ⟨g5, c5, rfl, ⟨hg5, hc5⟩, hr5, hx5⟩
                  by_cases hn5 : (splitL 62 ts[k]).length = 2
                  · obtain ⟨u, v, huv⟩ := two_of hn5
                    rw [huv] at hr5 hc5 ⊢
                    have hl5 := splitL_len 62 ts[k]
                    rw [huv] at hl5
                    have hul := hl5 u (by simp)
                    have hvl := hl5 v (by simp)
                    have q5 := hr5.cell (k := 0) (by simp)
                    have q51 := hr5.cell (k := 1) (by simp)
                    simp only [List.getElem_cons_zero, List.getElem_cons_succ] at q5 q51
                    have hN5 := (hx5.block N (by omega)).trans hNk
                    have qN := fun i => cell_of_row w5 N i _ _ _ hN5
                    have fN := fun i => frozen_row (i := i) hN5
                    have qN3 : w5.cell? ⟨N, 3, none⟩ = some (.slice A k cp) := qN 3
                    have fN3 : w5.frozen? ⟨N, 3, none⟩ = false := fN 3
                    clear qN fN
                    have HN5 := Lib.hid hN5; clear hN5
                    have hlt5 := hr5.lt
                    have zx5 := hx5.size
                    have hltN : N < w5.heap.size := by omega
                    have hno5 : some g5 ≠ (Value.slice A k cp).ownBlock := fun e => by have := own_ltT ho g5 e.symm; omega
                    have hnoN : some N ≠ (Value.slice A k cp).ownBlock := fun e => by have := own_from ho N e.symm; omega
                    have hN5s : N + 1 ≤ (w5.alloc (.cells #[.int .i64 (readL u), .int .i64 (readL v)] 57)).drew.heap.size := by simp; omega
                    have ho5 := own_below ho hx5
                    have HUV := Lib.hid huv
                    have gne : g5 ≠ N := by omega
                    clear huv
                    go_wp2_with fail
                    refine wp_region_held_drew (S := (fun w' => w'.cell? ⟨g5, 0, none⟩ = some (strV u) ∧ w'.cell? ⟨g5, 1, none⟩ = some (strV v))) (by kernel_rfl) ⟨q5, q51⟩ (fun hS => ?_)
                    refine wpAnyH_take (i := 0) (oi := ⟨some 59, _, _, _, _, _⟩) (v := ?vap1) rfl (by kernel_rfl) (by kernel_rfl) (by kernel_rfl) (fun _ _ _ h => h) (Or.inl ⟨by rfl, ?hap1⟩) hS ?rap1
                    case hap1 => (intro w' hSw; (try dsimp only at hSw); go_simp; (try with_reducible rfl))
                    try simp only [Act.put, List.setIfInBounds_toArray, List.set_cons_zero, List.set_cons_succ]
                    refine wpAnyH_take (i := 2) (oi := ⟨some 61, _, _, _, _, _⟩) (v := ?vap2) rfl (by kernel_rfl) (by kernel_rfl) (by kernel_rfl) (fun _ _ _ h => h) (Or.inl ⟨by rfl, ?hap2⟩) hS ?rap2
                    case hap2 => (intro w' hSw; (try dsimp only at hSw); go_simp; (try with_reducible rfl))
                    try simp only [Act.put, List.setIfInBounds_toArray, List.set_cons_zero, List.set_cons_succ]
                    refine wpAnyH_take (i := 3) (oi := ⟨some 62, _, _, _, _, _⟩) (v := ?vap3) rfl (by kernel_rfl) (by kernel_rfl) (by kernel_rfl) (fun _ _ _ h => h) (Or.inl ⟨by rfl, ?hap3⟩) hS ?rap3
                    case hap3 => (intro w' hSw; (try dsimp only at hSw); go_simp; (try with_reducible rfl))
                    try simp only [Act.put, List.setIfInBounds_toArray, List.set_cons_zero, List.set_cons_succ]
                    refine wpAnyH_take (i := 4) (oi := ⟨some 63, _, _, _, _, _⟩) (v := ?vap4) rfl (by kernel_rfl) (by kernel_rfl) (by kernel_rfl) (fun _ _ _ h => h) (Or.inl ⟨by rfl, ?hap4⟩) hS ?rap4
                    case hap4 => (intro w' hSw; (try dsimp only at hSw); go_simp; (try with_reducible rfl))
                    try simp only [Act.put, List.setIfInBounds_toArray, List.set_cons_zero, List.set_cons_succ]
                    refine wpAnyH_take (i := 6) (oi := ⟨some 65, _, _, _, _, _⟩) (v := ?vap5) rfl (by kernel_rfl) (by kernel_rfl) (by kernel_rfl) (fun _ _ _ h => h) (Or.inl ⟨by rfl, ?hap5⟩) hS ?rap5
                    case hap5 => (intro w' hSw; (try dsimp only at hSw); go_simp; (try with_reducible rfl))
                    try simp only [Act.put, List.setIfInBounds_toArray, List.set_cons_zero, List.set_cons_succ]
                    refine wpAnyH_take (i := 7) (oi := ⟨some 66, _, _, _, _, _⟩) (v := ?vap6) rfl (by kernel_rfl) (by kernel_rfl) (by kernel_rfl) (fun _ _ _ h => h) (Or.inl ⟨by rfl, ?hap6⟩) hS ?rap6
                    case hap6 => (intro w' hSw; (try dsimp only at hSw); go_simp; (try with_reducible rfl))
                    try simp only [Act.put, List.setIfInBounds_toArray, List.set_cons_zero, List.set_cons_succ]
                    refine wpAnyH_take (i := 8) (oi := ⟨some 67, _, _, _, _, _⟩) (v := ?vap7) rfl (by kernel_rfl) (by kernel_rfl) (by kernel_rfl) (fun _ _ _ h => h) (Or.inl ⟨by rfl, ?hap7⟩) hS ?rap7
                    case hap7 => (intro w' hSw; (try dsimp only at hSw); go_simp; (try with_reducible rfl))
                    try simp only [Act.put, List.setIfInBounds_toArray, List.set_cons_zero, List.set_cons_succ]
                    refine wpAnyH_ready (rs := [1, 5]) (by kernel_rfl) (by simp) ?_
                    refine AllReadyH.cons (o := ⟨some 60, _, _, _, _, _⟩) rfl (fun K' hK' => ?_) (AllReadyH.cons (o := ⟨some 64, _, _, _, _, _⟩) rfl (fun K' hK' => ?_) AllReadyH.nil)
                    focus
                      go_simp
                      refine hK'.out _ _ hS (fun _ => ?_)
                      clear hK' K'
                      try simp only [Act.put, List.setIfInBounds_toArray, List.set_cons_zero, List.set_cons_succ]
                      refine wpAnyH_ready (rs := [5]) (by kernel_rfl) (by simp) ?_
                      refine AllReadyH.cons (o := ⟨some 64, _, _, _, _, _⟩) rfl (fun K' hK' => ?_) AllReadyH.nil
                      go_simp
                      go_at_call 47
                      refine (l1Read_any _ _ (by omega)).mono ?_
                      rintro e w6 ⟨rfl, rfl⟩
                      refine hK'.out _ _ ⟨q5, q51⟩ (fun _ => ?_)
                      clear hK' K'
                      try simp only [Act.put, List.setIfInBounds_toArray, List.set_cons_zero, List.set_cons_succ]
                      refine wpAnyH_ready (rs := [9]) (by kernel_rfl) (by simp) ?_
                      refine AllReadyH.cons (o := ⟨some 68, _, _, _, _, _⟩) rfl (fun K' hK' => ?_) AllReadyH.nil
                      go_simp
                      go_at_call 47
                      refine (l1Read_any _ _ (by omega)).mono ?_
                      rintro e w6 ⟨rfl, rfl⟩
                      refine hK'.out _ _ ⟨q5, q51⟩ (fun _ => ?_)
                      clear hK' K'
                      try simp only [Act.put, List.setIfInBounds_toArray, List.set_cons_zero, List.set_cons_succ]
                      refine wpAnyH_take (i := 10) (oi := ⟨some 69, _, _, _, _, _⟩) (v := ?vap8) rfl (by kernel_rfl) (by kernel_rfl) (by kernel_rfl) (fun _ _ _ h => h) (Or.inl ⟨by rfl, ?hap8⟩) ⟨q5, q51⟩ ?rap8
                      case hap8 => (intro w' hSw; (try dsimp only at hSw); go_simp; (try with_reducible rfl))
                      try simp only [Act.put, List.setIfInBounds_toArray, List.set_cons_zero, List.set_cons_succ]
                      refine wpAnyH_ready (rs := [11]) (by kernel_rfl) (by simp) ?_
                      refine AllReadyH.cons (o := ⟨some 70, _, _, _, _, _⟩) rfl (fun K' hK' => ?_) AllReadyH.nil
                      go_simp
                      refine hK'.out _ _ ⟨(cell_pre _ _ _ 0 hlt5).trans q5, (cell_pre _ _ _ 1 hlt5).trans q51⟩ (fun _ => ?_)
                      clear hK' K'
                      try simp only [Act.put, List.setIfInBounds_toArray, List.set_cons_zero, List.set_cons_succ]
                      refine wpAnyH_ready (rs := [12]) (by kernel_rfl) (by simp) ?_
                      refine AllReadyH.cons (o := ⟨some 71, _, _, _, _, _⟩) rfl (fun K' hK' => ?_) AllReadyH.nil
                      rw [if_pos (wanted_plain rfl)]
                      refine wp_append_own _ _ _ 30 rfl (N + 1) 57 ti (.agg #[.int .i64 0, .int .i64 0]) 2 16 Tryd.underlying30 hi hz0 hz1 hz2 rfl (by decide) _ _ _ rfl (ho5.alloc _).drew ⟨w5.heap.size, 0, none⟩ 1 1 [.int .i64 (readL u), .int .i64 (readL v)] rfl rfl (cell_new2 _ _ _ _) (two_int _ _) (by unfold maxLen; omega) (by omega) hN5s ?_
                      intro v1 w7 ho7 hg7 _
                      have e50 := (cell_grown hg7 (b := g5) (o := 0) (by simp; omega) hno5).trans ((cell_pre _ _ _ 0 hlt5).trans q5)
                      have e51 := (cell_grown hg7 (b := g5) (o := 1) (by simp; omega) hno5).trans ((cell_pre _ _ _ 1 hlt5).trans q51)
                      have e5N := (cell_grown hg7 (b := N) (o := 3) (by simp; omega) hnoN).trans ((cell_pre _ _ _ 3 hltN).trans qN3)
                      have f7 : w7.frozen? ⟨N, 3, none⟩ = false := frozen_row (i := 3) ((hg7.block N (by simp; omega) hnoN).trans ((Below.heap_alloc _ _ _ hltN).trans HN5.out))
                      obtain ⟨A7, c7, rfl⟩ := own_slT ho7
                      refine hK'.out _ _ ⟨e50, e51⟩ (fun _ => ?_)
                      clear hK' K'
                      try simp only [Act.put, List.setIfInBounds_toArray, List.set_cons_zero, List.set_cons_succ]
                      refine wpAnyH_take (i := 13) (oi := ⟨some 72, _, _, _, _, _⟩) (v := ?vap9) rfl (by kernel_rfl) (by kernel_rfl) (by kernel_rfl) (fun _ _ _ h => h) (Or.inl ⟨by rfl, ?hap9⟩) ⟨e50, e51⟩ ?rap9
                      case hap9 => (intro w' hSw; (try dsimp only at hSw); go_simp; (try with_reducible rfl))
                      try simp only [Act.put, List.setIfInBounds_toArray, List.set_cons_zero, List.set_cons_succ]
                      refine wpAnyH_ready (rs := [14]) (by kernel_rfl) (by simp) ?_
                      refine AllReadyH.cons (o := ⟨none, _, _, _, _, _⟩) rfl (fun K' hK' => ?_) AllReadyH.nil
                      go_simp
                      refine hK'.out _ _ ⟨(cell_setP _ _ gne 0).trans e50, (cell_setP _ _ gne 1).trans e51⟩ (fun _ => ?_)
                      clear hK' K'
                      try simp only [Act.put, List.setIfInBounds_toArray, List.set_cons_zero, List.set_cons_succ]
                      refine wpAnyH_done (by kernel_rfl) ?_ _
                    rotate_left 1
                    focus
                      go_simp
                      go_at_call 47
                      refine (l1Read_any _ _ (by omega)).mono ?_
                      rintro e w6 ⟨rfl, rfl⟩
                      refine hK'.out _ _ ⟨q5, q51⟩ (fun _ => ?_)
                      clear hK' K'
                      try simp only [Act.put, List.setIfInBounds_toArray, List.set_cons_zero, List.set_cons_succ]
                      refine wpAnyH_ready (rs := [1, 9]) (by kernel_rfl) (by simp) ?_
                      refine AllReadyH.cons (o := ⟨some 60, _, _, _, _, _⟩) rfl (fun K' hK' => ?_) (AllReadyH.cons (o := ⟨some 68, _, _, _, _, _⟩) rfl (fun K' hK' => ?_) AllReadyH.nil)
                      focus
                        go_simp
                        refine hK'.out _ _ ⟨q5, q51⟩ (fun _ => ?_)
                        clear hK' K'
                        try simp only [Act.put, List.setIfInBounds_toArray, List.set_cons_zero, List.set_cons_succ]
                        refine wpAnyH_ready (rs := [9]) (by kernel_rfl) (by simp) ?_
                        refine AllReadyH.cons (o := ⟨some 68, _, _, _, _, _⟩) rfl (fun K' hK' => ?_) AllReadyH.nil
                        go_simp
                        go_at_call 47
                        refine (l1Read_any _ _ (by omega)).mono ?_
                        rintro e w6 ⟨rfl, rfl⟩
                        refine hK'.out _ _ ⟨q5, q51⟩ (fun _ => ?_)
                        clear hK' K'
                        try simp only [Act.put, List.setIfInBounds_toArray, List.set_cons_zero, List.set_cons_succ]
                        refine wpAnyH_take (i := 10) (oi := ⟨some 69, _, _, _, _, _⟩) (v := ?vap10) rfl (by kernel_rfl) (by kernel_rfl) (by kernel_rfl) (fun _ _ _ h => h) (Or.inl ⟨by rfl, ?hap10⟩) ⟨q5, q51⟩ ?rap10
                        case hap10 => (intro w' hSw; (try dsimp only at hSw); go_simp; (try with_reducible rfl))
                        try simp only [Act.put, List.setIfInBounds_toArray, List.set_cons_zero, List.set_cons_succ]
                        refine wpAnyH_ready (rs := [11]) (by kernel_rfl) (by simp) ?_
                        refine AllReadyH.cons (o := ⟨some 70, _, _, _, _, _⟩) rfl (fun K' hK' => ?_) AllReadyH.nil
                        go_simp
                        refine hK'.out _ _ ⟨(cell_pre _ _ _ 0 hlt5).trans q5, (cell_pre _ _ _ 1 hlt5).trans q51⟩ (fun _ => ?_)
                        clear hK' K'
                        try simp only [Act.put, List.setIfInBounds_toArray, List.set_cons_zero, List.set_cons_succ]
                        refine wpAnyH_ready (rs := [12]) (by kernel_rfl) (by simp) ?_
                        refine AllReadyH.cons (o := ⟨some 71, _, _, _, _, _⟩) rfl (fun K' hK' => ?_) AllReadyH.nil
                        rw [if_pos (wanted_plain rfl)]
                        refine wp_append_own _ _ _ 30 rfl (N + 1) 57 ti (.agg #[.int .i64 0, .int .i64 0]) 2 16 Tryd.underlying30 hi hz0 hz1 hz2 rfl (by decide) _ _ _ rfl (ho5.alloc _).drew ⟨w5.heap.size, 0, none⟩ 1 1 [.int .i64 (readL u), .int .i64 (readL v)] rfl rfl (cell_new2 _ _ _ _) (two_int _ _) (by unfold maxLen; omega) (by omega) hN5s ?_
                        intro v1 w7 ho7 hg7 _
                        have e50 := (cell_grown hg7 (b := g5) (o := 0) (by simp; omega) hno5).trans ((cell_pre _ _ _ 0 hlt5).trans q5)
                        have e51 := (cell_grown hg7 (b := g5) (o := 1) (by simp; omega) hno5).trans ((cell_pre _ _ _ 1 hlt5).trans q51)
                        have e5N := (cell_grown hg7 (b := N) (o := 3) (by simp; omega) hnoN).trans ((cell_pre _ _ _ 3 hltN).trans qN3)
                        have f7 : w7.frozen? ⟨N, 3, none⟩ = false := frozen_row (i := 3) ((hg7.block N (by simp; omega) hnoN).trans ((Below.heap_alloc _ _ _ hltN).trans HN5.out))
                        obtain ⟨A7, c7, rfl⟩ := own_slT ho7
                        refine hK'.out _ _ ⟨e50, e51⟩ (fun _ => ?_)
                        clear hK' K'
                        try simp only [Act.put, List.setIfInBounds_toArray, List.set_cons_zero, List.set_cons_succ]
                        refine wpAnyH_take (i := 13) (oi := ⟨some 72, _, _, _, _, _⟩) (v := ?vap11) rfl (by kernel_rfl) (by kernel_rfl) (by kernel_rfl) (fun _ _ _ h => h) (Or.inl ⟨by rfl, ?hap11⟩) ⟨e50, e51⟩ ?rap11
                        case hap11 => (intro w' hSw; (try dsimp only at hSw); go_simp; (try with_reducible rfl))
                        try simp only [Act.put, List.setIfInBounds_toArray, List.set_cons_zero, List.set_cons_succ]
                        refine wpAnyH_ready (rs := [14]) (by kernel_rfl) (by simp) ?_
                        refine AllReadyH.cons (o := ⟨none, _, _, _, _, _⟩) rfl (fun K' hK' => ?_) AllReadyH.nil
                        go_simp
                        refine hK'.out _ _ ⟨(cell_setP _ _ gne 0).trans e50, (cell_setP _ _ gne 1).trans e51⟩ (fun _ => ?_)
                        clear hK' K'
                        try simp only [Act.put, List.setIfInBounds_toArray, List.set_cons_zero, List.set_cons_succ]
                        refine wpAnyH_done (by kernel_rfl) ?_ _
                      rotate_left 1
                      focus
                        go_simp
                        go_at_call 47
                        refine (l1Read_any _ _ (by omega)).mono ?_
                        rintro e w6 ⟨rfl, rfl⟩
                        refine hK'.out _ _ ⟨q5, q51⟩ (fun _ => ?_)
                        clear hK' K'
                        try simp only [Act.put, List.setIfInBounds_toArray, List.set_cons_zero, List.set_cons_succ]
                        refine wpAnyH_take (i := 10) (oi := ⟨some 69, _, _, _, _, _⟩) (v := ?vap12) rfl (by kernel_rfl) (by kernel_rfl) (by kernel_rfl) (fun _ _ _ h => h) (Or.inl ⟨by rfl, ?hap12⟩) ⟨q5, q51⟩ ?rap12
                        case hap12 => (intro w' hSw; (try dsimp only at hSw); go_simp; (try with_reducible rfl))
                        try simp only [Act.put, List.setIfInBounds_toArray, List.set_cons_zero, List.set_cons_succ]
                        refine wpAnyH_ready (rs := [1, 11]) (by kernel_rfl) (by simp) ?_
                        refine AllReadyH.cons (o := ⟨some 60, _, _, _, _, _⟩) rfl (fun K' hK' => ?_) (AllReadyH.cons (o := ⟨some 70, _, _, _, _, _⟩) rfl (fun K' hK' => ?_) AllReadyH.nil)
                        focus
                          go_simp
                          refine hK'.out _ _ ⟨q5, q51⟩ (fun _ => ?_)
                          clear hK' K'
                          try simp only [Act.put, List.setIfInBounds_toArray, List.set_cons_zero, List.set_cons_succ]
                          refine wpAnyH_ready (rs := [11]) (by kernel_rfl) (by simp) ?_
                          refine AllReadyH.cons (o := ⟨some 70, _, _, _, _, _⟩) rfl (fun K' hK' => ?_) AllReadyH.nil
                          go_simp
                          refine hK'.out _ _ ⟨(cell_pre _ _ _ 0 hlt5).trans q5, (cell_pre _ _ _ 1 hlt5).trans q51⟩ (fun _ => ?_)
                          clear hK' K'
                          try simp only [Act.put, List.setIfInBounds_toArray, List.set_cons_zero, List.set_cons_succ]
                          refine wpAnyH_ready (rs := [12]) (by kernel_rfl) (by simp) ?_
                          refine AllReadyH.cons (o := ⟨some 71, _, _, _, _, _⟩) rfl (fun K' hK' => ?_) AllReadyH.nil
                          rw [if_pos (wanted_plain rfl)]
                          refine wp_append_own _ _ _ 30 rfl (N + 1) 57 ti (.agg #[.int .i64 0, .int .i64 0]) 2 16 Tryd.underlying30 hi hz0 hz1 hz2 rfl (by decide) _ _ _ rfl (ho5.alloc _).drew ⟨w5.heap.size, 0, none⟩ 1 1 [.int .i64 (readL u), .int .i64 (readL v)] rfl rfl (cell_new2 _ _ _ _) (two_int _ _) (by unfold maxLen; omega) (by omega) hN5s ?_
                          intro v1 w7 ho7 hg7 _
                          have e50 := (cell_grown hg7 (b := g5) (o := 0) (by simp; omega) hno5).trans ((cell_pre _ _ _ 0 hlt5).trans q5)
                          have e51 := (cell_grown hg7 (b := g5) (o := 1) (by simp; omega) hno5).trans ((cell_pre _ _ _ 1 hlt5).trans q51)
                          have e5N := (cell_grown hg7 (b := N) (o := 3) (by simp; omega) hnoN).trans ((cell_pre _ _ _ 3 hltN).trans qN3)
                          have f7 : w7.frozen? ⟨N, 3, none⟩ = false := frozen_row (i := 3) ((hg7.block N (by simp; omega) hnoN).trans ((Below.heap_alloc _ _ _ hltN).trans HN5.out))
                          obtain ⟨A7, c7, rfl⟩ := own_slT ho7
                          refine hK'.out _ _ ⟨e50, e51⟩ (fun _ => ?_)
                          clear hK' K'
                          try simp only [Act.put, List.setIfInBounds_toArray, List.set_cons_zero, List.set_cons_succ]
                          refine wpAnyH_take (i := 13) (oi := ⟨some 72, _, _, _, _, _⟩) (v := ?vap13) rfl (by kernel_rfl) (by kernel_rfl) (by kernel_rfl) (fun _ _ _ h => h) (Or.inl ⟨by rfl, ?hap13⟩) ⟨e50, e51⟩ ?rap13
                          case hap13 => (intro w' hSw; (try dsimp only at hSw); go_simp; (try with_reducible rfl))
                          try simp only [Act.put, List.setIfInBounds_toArray, List.set_cons_zero, List.set_cons_succ]
                          refine wpAnyH_ready (rs := [14]) (by kernel_rfl) (by simp) ?_
                          refine AllReadyH.cons (o := ⟨none, _, _, _, _, _⟩) rfl (fun K' hK' => ?_) AllReadyH.nil
                          go_simp
                          refine hK'.out _ _ ⟨(cell_setP _ _ gne 0).trans e50, (cell_setP _ _ gne 1).trans e51⟩ (fun _ => ?_)
                          clear hK' K'
                          try simp only [Act.put, List.setIfInBounds_toArray, List.set_cons_zero, List.set_cons_succ]
                          refine wpAnyH_done (by kernel_rfl) ?_ _
                        rotate_left 1
                        focus
                          go_simp
                          refine hK'.out _ _ ⟨(cell_pre _ _ _ 0 hlt5).trans q5, (cell_pre _ _ _ 1 hlt5).trans q51⟩ (fun _ => ?_)
                          clear hK' K'
                          try simp only [Act.put, List.setIfInBounds_toArray, List.set_cons_zero, List.set_cons_succ]
                          refine wpAnyH_ready (rs := [1]) (by kernel_rfl) (by simp) ?_
                          refine AllReadyH.cons (o := ⟨some 60, _, _, _, _, _⟩) rfl (fun K' hK' => ?_) AllReadyH.nil
                          go_simp
                          refine hK'.out _ _ ⟨(cell_pre _ _ _ 0 hlt5).trans q5, (cell_pre _ _ _ 1 hlt5).trans q51⟩ (fun _ => ?_)
                          clear hK' K'
                          try simp only [Act.put, List.setIfInBounds_toArray, List.set_cons_zero, List.set_cons_succ]
                          refine wpAnyH_ready (rs := [12]) (by kernel_rfl) (by simp) ?_
                          refine AllReadyH.cons (o := ⟨some 71, _, _, _, _, _⟩) rfl (fun K' hK' => ?_) AllReadyH.nil
                          rw [if_pos (wanted_plain rfl)]
                          refine wp_append_own _ _ _ 30 rfl (N + 1) 57 ti (.agg #[.int .i64 0, .int .i64 0]) 2 16 Tryd.underlying30 hi hz0 hz1 hz2 rfl (by decide) _ _ _ rfl (ho5.alloc _).drew ⟨w5.heap.size, 0, none⟩ 1 1 [.int .i64 (readL u), .int .i64 (readL v)] rfl rfl (cell_new2 _ _ _ _) (two_int _ _) (by unfold maxLen; omega) (by omega) hN5s ?_
                          intro v1 w7 ho7 hg7 _
                          have e50 := (cell_grown hg7 (b := g5) (o := 0) (by simp; omega) hno5).trans ((cell_pre _ _ _ 0 hlt5).trans q5)
                          have e51 := (cell_grown hg7 (b := g5) (o := 1) (by simp; omega) hno5).trans ((cell_pre _ _ _ 1 hlt5).trans q51)
                          have e5N := (cell_grown hg7 (b := N) (o := 3) (by simp; omega) hnoN).trans ((cell_pre _ _ _ 3 hltN).trans qN3)
                          have f7 : w7.frozen? ⟨N, 3, none⟩ = false := frozen_row (i := 3) ((hg7.block N (by simp; omega) hnoN).trans ((Below.heap_alloc _ _ _ hltN).trans HN5.out))
                          obtain ⟨A7, c7, rfl⟩ := own_slT ho7
                          refine hK'.out _ _ ⟨e50, e51⟩ (fun _ => ?_)
                          clear hK' K'
                          try simp only [Act.put, List.setIfInBounds_toArray, List.set_cons_zero, List.set_cons_succ]
                          refine wpAnyH_take (i := 13) (oi := ⟨some 72, _, _, _, _, _⟩) (v := ?vap14) rfl (by kernel_rfl) (by kernel_rfl) (by kernel_rfl) (fun _ _ _ h => h) (Or.inl ⟨by rfl, ?hap14⟩) ⟨e50, e51⟩ ?rap14
                          case hap14 => (intro w' hSw; (try dsimp only at hSw); go_simp; (try with_reducible rfl))
                          try simp only [Act.put, List.setIfInBounds_toArray, List.set_cons_zero, List.set_cons_succ]
                          refine wpAnyH_ready (rs := [14]) (by kernel_rfl) (by simp) ?_
                          refine AllReadyH.cons (o := ⟨none, _, _, _, _, _⟩) rfl (fun K' hK' => ?_) AllReadyH.nil
                          go_simp
                          refine hK'.out _ _ ⟨(cell_setP _ _ gne 0).trans e50, (cell_setP _ _ gne 1).trans e51⟩ (fun _ => ?_)
                          clear hK' K'
                          try simp only [Act.put, List.setIfInBounds_toArray, List.set_cons_zero, List.set_cons_succ]
                          refine wpAnyH_done (by kernel_rfl) ?_ _
                        rotate_left 1
                      rotate_left 2
                    rotate_left 3
                    all_goals
                      have hs7 := hg7.size
                      simp at hs7
                      have hN7 := (hg7.block N (by simp; omega) hnoN).trans ((Below.heap_alloc _ _ _ hltN).trans HN5.out)
                      have HO7 := Lib.hid ho7; have HG7 := Lib.hid hg7; have HN7 := Lib.hid hN7
                      clear ho7 hg7 hN7
                      go_wp2_with fail
                      go_roundw
                      case rel =>
                        refine ⟨k + 1, acc ++ [(readL u, readL v)], A7, c7, by omega, by go_num, by simp [HK.out], fun j hj => ?_, ?_, ?_, ?_, ?_, ?_, mapM_step hlt (jumpS_two HUV.out) HD.out⟩
                        · rcases List.mem_append.1 hj with h | h
                          · exact hwf j h
                          · simp only [List.mem_singleton] at h
                            subst h
                            have a1 := readL_wf u
                            have a2 := readL_wf v
                            exact ⟨wfi_of (by dsimp only; omega) (by dsimp only; omega), wfi_of (by dsimp only; omega) (by dsimp only; omega)⟩
                        · exact ((((hb.trans (hx5.mono (by have := hb.size; omega))).alloc (by omega) _).drew).grown HG7.out (by simp; omega) (fun g hg => by have := own_from ho5 g hg; omega)).setCell (by dsimp only; omega) _
                        · exact ((((hbN.trans (hx5.mono (by omega))).alloc (by omega) _).drew).grown HG7.out (by simp; omega) (fun g hg => by have := own_from ho5 g hg; omega)).setCell (by dsimp only; omega) _
                        · simp only [World.size_setCell]; omega
                        · exact heap_set _ N 3 _ _ _ HN7.out
                        · have hF : flatJ (acc ++ [(readL u, readL v)]) = flatJ acc ++ [.int .i64 (readL u), .int .i64 (readL v)] := by rw [flatJ_app]; rfl
                          rw [hF]
                          exact ownsRow_setCell_below HO7.out (by dsimp only; omega) _
                      case measure => simp [intOf]; omega
                  · have hn5' : (((splitL 62 ts[k]).length : Int) != 2) = true := by simp; omega
                    have HB := Lib.hid (show boardOf s = none by unfold boardOf; rw [HS.out, mapM_fail hlt (jumpS_not hn5) HD.out]; rfl)
                    have hb5 := hb.trans (hx5.mono (by have := hb.size; omega))
                    clear hn5
                    have q0 := cell_atT hb5 (by omega) k0
                    have f0 := free_atT hb5 (by omega) k0
                    have hb1 := h0.trans (hb5.mono (by omega))
                    have hlt0 : w.heap.size < w5.heap.size := by have := hb5.size; omega
                    go_wp2_with fail
                    refine bodyPost_ret (v := .tuple #[.agg #[.int .i64 0, .int .i64 0, .int .i64 0, .slice none 0 0], .bool false]) (by simp [results, Tryd.results30, go_sem, q0, hlt0]) rfl ?_
                    exact ⟨⟨0, 0, 0, []⟩, none, 0, false, rfl, .inl rfl, (((hb1.setCell (by dsimp only; omega) _).setCell (by dsimp only; omega) _).setCell (by dsimp only; omega) _).setCell (by dsimp only; omega) _, HB.out⟩)
             · have h3 : ¬ ((k : Int) < (ts.length : Int)) := by omega
               obtain rfl := HK.out
               have hke : acc.length = ts.length := by omega
               have hP : parseS s = some ⟨ra, rx, ry, acc⟩ := by
                 rw [HS.out, HD.out, List.drop_eq_nil_of_le (by omega)]
                 simp
               have HP := Lib.hid hP; clear hP
               have HKE := Lib.hid hke; clear hke
               have hOJ := own_rowT ho rfl
               have hal2 : acc.length ≤ 1048576 := by omega
               have hRJ := hOJ.rjT rfl hal2 hwf
               have qN := fun i => cell_of_row wr N i _ _ _ hNk
               have hltN : N < wr.heap.size := by omega
               have hlt0 : w.heap.size < wr.heap.size := by omega
               have hneN : N ≠ w.heap.size := by omega
               cases hg : good ⟨ra, rx, ry, acc⟩
               · have HB := Lib.hid (show boardOf s = none by unfold boardOf; rw [HP.out]; simp [parsed, hg])
                 have HG := Lib.hid hg; clear hg
                 have q0 := cell_atT hb (by omega) k0
                 have f0 := free_atT hb (by omega) k0
                 clear q0 f0
                 go_wp2_with fail
                 refine wp_region_held_drew (S := (fun w' => ∀ i, w'.cell? ⟨N, i, none⟩ = #[.int .i64 ra, .int .i64 rx, .int .i64 ry, .slice A acc.length cp][i]?)) (by kernel_rfl) qN (fun hS => ?_)
                 refine wpAnyH_take (i := 0) (oi := ⟨some 74, _, _, _, _, _⟩) (v := ?vbp1) rfl (by kernel_rfl) (by kernel_rfl) (by kernel_rfl) (fun _ _ _ h => h) (Or.inl ⟨by rfl, ?hbp1⟩) hS ?rbp1
                 case hbp1 => (intro w' hSw; (try dsimp only at hSw); go_simp; (try with_reducible rfl))
                 try simp only [Act.put, List.setIfInBounds_toArray, List.set_cons_zero, List.set_cons_succ]
                 refine wpAnyH_take (i := 1) (oi := ⟨some 75, _, _, _, _, _⟩) (v := ?vbp2) rfl (by kernel_rfl) (by kernel_rfl) (by kernel_rfl) (fun _ _ _ h => h) (Or.inl ⟨by rfl, ?hbp2⟩) hS ?rbp2
                 case hbp2 => (intro w' hSw; (try dsimp only at hSw); go_simp; (try with_reducible rfl))
                 try simp only [Act.put, List.setIfInBounds_toArray, List.set_cons_zero, List.set_cons_succ]
                 refine wpAnyH_ready (rs := [2]) (by kernel_rfl) (by simp) ?_
                 refine AllReadyH.cons (o := ⟨some 76, _, _, _, _, _⟩) rfl (fun K' hK' => ?_) AllReadyH.nil
                 go_simp
                 go_at_call 37
                 refine (sqGood_any _ _ _ _ _ _ _ (hRJ.go ((Below.refl _ _).drew))).mono ?_
                 rintro e w6 ⟨rfl, hx6⟩
                 rw [HG.out]
                 have c6 := cell_atT hx6 hltN hNk
                 have b6 : Below wr.heap.size wr w6 := (Below.refl _ _).drew.trans hx6
                 have hb6 := hb.trans (b6.mono (by have := hb.size; omega))
                 have q0 := cell_atT hb6 (by omega) k0
                 have f0 := free_atT hb6 (by omega) k0
                 refine hK'.out _ _ c6 (fun _ => ?_)
                 clear hK' K'
                 try simp only [Act.put, List.setIfInBounds_toArray, List.set_cons_zero, List.set_cons_succ]
                 refine wpAnyH_take (i := 3) (oi := ⟨some 77, _, _, _, _, _⟩) (v := ?vbp3) rfl (by kernel_rfl) (by kernel_rfl) (by kernel_rfl) (fun _ _ _ h => h) (Or.inl ⟨by rfl, ?hbp3⟩) c6 ?rbp3
                 case hbp3 => (intro w' hSw; (try dsimp only at hSw); go_simp; (try with_reducible rfl))
                 try simp only [Act.put, List.setIfInBounds_toArray, List.set_cons_zero, List.set_cons_succ]
                 refine wpAnyH_take (i := 4) (oi := ⟨some 78, _, _, _, _, _⟩) (v := undef) rfl (by kernel_rfl) (by kernel_rfl) (by kernel_rfl) (fun _ _ _ h => h) (Or.inr ⟨by rfl, rfl⟩) c6 ?rbp4
                 try simp only [Act.put, List.setIfInBounds_toArray, List.set_cons_zero, List.set_cons_succ]
                 refine wpAnyH_take (i := 5) (oi := ⟨some 79, _, _, _, _, _⟩) (v := undef) rfl (by kernel_rfl) (by kernel_rfl) (by kernel_rfl) (fun _ _ _ h => h) (Or.inr ⟨by rfl, rfl⟩) c6 ?rbp5
                 try simp only [Act.put, List.setIfInBounds_toArray, List.set_cons_zero, List.set_cons_succ]
                 refine wpAnyH_take (i := 6) (oi := ⟨some 80, _, _, _, _, _⟩) (v := undef) rfl (by kernel_rfl) (by kernel_rfl) (by kernel_rfl) (fun _ _ _ h => h) (Or.inr ⟨by rfl, rfl⟩) c6 ?rbp6
                 try simp only [Act.put, List.setIfInBounds_toArray, List.set_cons_zero, List.set_cons_succ]
                 refine wpAnyH_take (i := 7) (oi := ⟨some 81, _, _, _, _, _⟩) (v := undef) rfl (by kernel_rfl) (by kernel_rfl) (by kernel_rfl) (fun _ _ _ h => h) (Or.inr ⟨by rfl, rfl⟩) c6 ?rbp7
                 try simp only [Act.put, List.setIfInBounds_toArray, List.set_cons_zero, List.set_cons_succ]
                 refine wpAnyH_ready (rs := [8, 9]) (by kernel_rfl) (by simp) ?_
                 refine AllReadyH.cons (o := ⟨some 82, _, _, _, _, _⟩) rfl (fun K' hK' => ?_) (AllReadyH.cons (o := ⟨none, _, _, _, _, _⟩) rfl (fun K' hK' => ?_) AllReadyH.nil)
                 focus
                   go_simp
                   refine hK'.out _ _ c6 (fun _ => ?_)
                   clear hK' K'
                   try simp only [Act.put, List.setIfInBounds_toArray, List.set_cons_zero, List.set_cons_succ]
                   refine wpAnyH_ready (rs := [9]) (by kernel_rfl) (by simp) ?_
                   refine AllReadyH.cons (o := ⟨none, _, _, _, _, _⟩) rfl (fun K' hK' => ?_) AllReadyH.nil
                   go_simp
                   refine hK'.out _ _ (fun i => (cell_setP _ _ hneN i).trans ((cell_setP _ _ hneN i).trans ((cell_setP _ _ hneN i).trans ((cell_setP _ _ hneN i).trans (c6 i))))) (fun _ => ?_)
                   clear hK' K'
                   try simp only [Act.put, List.setIfInBounds_toArray, List.set_cons_zero, List.set_cons_succ]
                   refine wpAnyH_ready (rs := [10]) (by kernel_rfl) (by simp) ?_
                   refine AllReadyH.cons (o := ⟨some 3, _, _, _, _, _⟩) rfl (fun K' hK' => ?_) AllReadyH.nil
                   go_simp
                   refine hK'.out _ _ (fun i => (cell_setP _ _ hneN i).trans ((cell_setP _ _ hneN i).trans ((cell_setP _ _ hneN i).trans ((cell_setP _ _ hneN i).trans (c6 i))))) (fun _ => ?_)
                   clear hK' K'
                   try simp only [Act.put, List.setIfInBounds_toArray, List.set_cons_zero, List.set_cons_succ]
                   refine wpAnyH_done (by kernel_rfl) ?_ _
                 rotate_left 1
                 focus
                   go_simp
                   refine hK'.out _ _ (fun i => (cell_setP _ _ hneN i).trans ((cell_setP _ _ hneN i).trans ((cell_setP _ _ hneN i).trans ((cell_setP _ _ hneN i).trans (c6 i))))) (fun _ => ?_)
                   clear hK' K'
                   try simp only [Act.put, List.setIfInBounds_toArray, List.set_cons_zero, List.set_cons_succ]
                   refine wpAnyH_ready (rs := [8]) (by kernel_rfl) (by simp) ?_
                   refine AllReadyH.cons (o := ⟨some 82, _, _, _, _, _⟩) rfl (fun K' hK' => ?_) AllReadyH.nil
                   go_simp
                   refine hK'.out _ _ (fun i => (cell_setP _ _ hneN i).trans ((cell_setP _ _ hneN i).trans ((cell_setP _ _ hneN i).trans ((cell_setP _ _ hneN i).trans (c6 i))))) (fun _ => ?_)
                   clear hK' K'
                   try simp only [Act.put, List.setIfInBounds_toArray, List.set_cons_zero, List.set_cons_succ]
                   refine wpAnyH_ready (rs := [10]) (by kernel_rfl) (by simp) ?_
                   refine AllReadyH.cons (o := ⟨some 3, _, _, _, _, _⟩) rfl (fun K' hK' => ?_) AllReadyH.nil
                   go_simp
                   refine hK'.out _ _ (fun i => (cell_setP _ _ hneN i).trans ((cell_setP _ _ hneN i).trans ((cell_setP _ _ hneN i).trans ((cell_setP _ _ hneN i).trans (c6 i))))) (fun _ => ?_)
                   clear hK' K'
                   try simp only [Act.put, List.setIfInBounds_toArray, List.set_cons_zero, List.set_cons_succ]
                   refine wpAnyH_done (by kernel_rfl) ?_ _
                 rotate_left 1
                 all_goals
                   have hlt9 : w.heap.size < w6.heap.size := by have := b6.size; omega
                   go_wp2_with fail
                   refine bodyPost_ret (v := .tuple #[.agg #[.int .i64 ra, .int .i64 rx, .int .i64 ry, .slice A acc.length cp], .bool false]) (by simp [results, Tryd.results30, go_sem, q0, hlt9]) rfl ?_
                   exact ⟨⟨ra, rx, ry, acc⟩, A, cp, false, rfl, (((((hOJ.below b6 (Nat.le_refl _)).farT (by dsimp only; omega) _).farT (by dsimp only; omega) _).farT (by dsimp only; omega) _).farT (by dsimp only; omega) _).loT (by omega), (((((h0.trans (hb6.mono (by omega))).setCell (by dsimp only; omega) _).setCell (by dsimp only; omega) _).setCell (by dsimp only; omega) _).setCell (by dsimp only; omega) _), HB.out⟩
               · have HG := Lib.hid hg
                 have GB := Lib.hid (good_bounds hg)
                 by_cases htx : txtL ⟨ra, rx, ry, acc⟩ = s
                 · have HB := Lib.hid (show boardOf s = some ⟨ra, rx, ry, acc⟩ by unfold boardOf; rw [HP.out]; exact parsed_ok hg htx)
                   have HTX : txtB ra rx ry acc = ⟨s.toArray⟩ := by rw [← htx]; rfl
                   clear hg htx
                   go_wp2_with fail
                   refine wp_region_held_drew (S := (fun w' => ∀ i, w'.cell? ⟨N, i, none⟩ = #[.int .i64 ra, .int .i64 rx, .int .i64 ry, .slice A acc.length cp][i]?)) (by kernel_rfl) qN (fun hS => ?_)
                   refine wpAnyH_take (i := 0) (oi := ⟨some 74, _, _, _, _, _⟩) (v := ?vcp1) rfl (by kernel_rfl) (by kernel_rfl) (by kernel_rfl) (fun _ _ _ h => h) (Or.inl ⟨by rfl, ?hcp1⟩) hS ?rcp1
                   case hcp1 => (intro w' hSw; (try dsimp only at hSw); go_simp; (try with_reducible rfl))
                   try simp only [Act.put, List.setIfInBounds_toArray, List.set_cons_zero, List.set_cons_succ]
                   refine wpAnyH_take (i := 1) (oi := ⟨some 75, _, _, _, _, _⟩) (v := ?vcp2) rfl (by kernel_rfl) (by kernel_rfl) (by kernel_rfl) (fun _ _ _ h => h) (Or.inl ⟨by rfl, ?hcp2⟩) hS ?rcp2
                   case hcp2 => (intro w' hSw; (try dsimp only at hSw); go_simp; (try with_reducible rfl))
                   try simp only [Act.put, List.setIfInBounds_toArray, List.set_cons_zero, List.set_cons_succ]
                   refine wpAnyH_ready (rs := [2]) (by kernel_rfl) (by simp) ?_
                   refine AllReadyH.cons (o := ⟨some 76, _, _, _, _, _⟩) rfl (fun K' hK' => ?_) AllReadyH.nil
                   go_simp
                   go_at_call 37
                   refine (sqGood_any _ _ _ _ _ _ _ (hRJ.go ((Below.refl _ _).drew))).mono ?_
                   rintro e w6 ⟨rfl, hx6⟩
                   rw [HG.out]
                   have c6 := cell_atT hx6 hltN hNk
                   have b6 : Below wr.heap.size wr w6 := (Below.refl _ _).drew.trans hx6
                   have hb6 := hb.trans (b6.mono (by have := hb.size; omega))
                   have q0 := cell_atT hb6 (by omega) k0
                   have f0 := free_atT hb6 (by omega) k0
                   refine hK'.out _ _ c6 (fun _ => ?_)
                   clear hK' K'
                   try simp only [Act.put, List.setIfInBounds_toArray, List.set_cons_zero, List.set_cons_succ]
                   refine wpAnyH_take (i := 3) (oi := ⟨some 77, _, _, _, _, _⟩) (v := ?vcp3) rfl (by kernel_rfl) (by kernel_rfl) (by kernel_rfl) (fun _ _ _ h => h) (Or.inl ⟨by rfl, ?hcp3⟩) c6 ?rcp3
                   case hcp3 => (intro w' hSw; (try dsimp only at hSw); go_simp; (try with_reducible rfl))
                   try simp only [Act.put, List.setIfInBounds_toArray, List.set_cons_zero, List.set_cons_succ]
                   refine wpAnyH_take (i := 4) (oi := ⟨some 78, _, _, _, _, _⟩) (v := ?vcp4) rfl (by kernel_rfl) (by kernel_rfl) (by kernel_rfl) (fun _ _ _ h => h) (Or.inl ⟨by rfl, ?hcp4⟩) c6 ?rcp4
                   case hcp4 => (intro w' hSw; (try dsimp only at hSw); go_simp; (try with_reducible rfl))
                   try simp only [Act.put, List.setIfInBounds_toArray, List.set_cons_zero, List.set_cons_succ]
                   refine wpAnyH_take (i := 6) (oi := ⟨some 80, _, _, _, _, _⟩) (v := ?vcp5) rfl (by kernel_rfl) (by kernel_rfl) (by kernel_rfl) (fun _ _ _ h => h) (Or.inl ⟨by rfl, ?hcp5⟩) c6 ?rcp5
                   case hcp5 => (intro w' hSw; (try dsimp only at hSw); go_simp; (try with_reducible rfl))
                   try simp only [Act.put, List.setIfInBounds_toArray, List.set_cons_zero, List.set_cons_succ]
                   refine wpAnyH_ready (rs := [5]) (by kernel_rfl) (by simp) ?_
                   refine AllReadyH.cons (o := ⟨some 79, _, _, _, _, _⟩) rfl (fun K' hK' => ?_) AllReadyH.nil
                   go_simp
                   go_at_call 40
                   refine (sqText_any _ _ _ _ _ _ _ (hRJ.go b6) GB.out.1 GB.out.2.1 GB.out.2.2.1 GB.out.2.2.2).mono ?_
                   rintro e w7 ⟨rfl, hx7⟩
                   rw [HTX]
                   have b7 : Below wr.heap.size wr w7 := b6.trans (hx7.mono b6.size)
                   have hb7 := hb.trans (b7.mono (by have := hb.size; omega))
                   have c7 := cell_atT b7 hltN hNk
                   clear q0 f0
                   have q0 := cell_atT hb7 (by omega) k0
                   have f0 := free_atT hb7 (by omega) k0
                   refine hK'.out _ _ c7 (fun _ => ?_)
                   clear hK' K'
                   try simp only [Act.put, List.setIfInBounds_toArray, List.set_cons_zero, List.set_cons_succ]
                   refine wpAnyH_take (i := 7) (oi := ⟨some 81, _, _, _, _, _⟩) (v := ?vcp6) rfl (by kernel_rfl) (by kernel_rfl) (by kernel_rfl) (fun _ _ _ h => h) (Or.inl ⟨by rfl, ?hcp6⟩) c7 ?rcp6
                   case hcp6 => (intro w' hSw; (try dsimp only at hSw); go_simp; (try with_reducible rfl))
                   try simp only [Act.put, List.setIfInBounds_toArray, List.set_cons_zero, List.set_cons_succ]
                   refine wpAnyH_ready (rs := [8, 9]) (by kernel_rfl) (by simp) ?_
                   refine AllReadyH.cons (o := ⟨some 82, _, _, _, _, _⟩) rfl (fun K' hK' => ?_) (AllReadyH.cons (o := ⟨none, _, _, _, _, _⟩) rfl (fun K' hK' => ?_) AllReadyH.nil)
                   focus
                     go_simp
                     refine hK'.out _ _ c7 (fun _ => ?_)
                     clear hK' K'
                     try simp only [Act.put, List.setIfInBounds_toArray, List.set_cons_zero, List.set_cons_succ]
                     refine wpAnyH_ready (rs := [9]) (by kernel_rfl) (by simp) ?_
                     refine AllReadyH.cons (o := ⟨none, _, _, _, _, _⟩) rfl (fun K' hK' => ?_) AllReadyH.nil
                     go_simp
                     refine hK'.out _ _ (fun i => (cell_setP _ _ hneN i).trans ((cell_setP _ _ hneN i).trans ((cell_setP _ _ hneN i).trans ((cell_setP _ _ hneN i).trans (c7 i))))) (fun _ => ?_)
                     clear hK' K'
                     try simp only [Act.put, List.setIfInBounds_toArray, List.set_cons_zero, List.set_cons_succ]
                     refine wpAnyH_ready (rs := [10]) (by kernel_rfl) (by simp) ?_
                     refine AllReadyH.cons (o := ⟨some 3, _, _, _, _, _⟩) rfl (fun K' hK' => ?_) AllReadyH.nil
                     go_simp
                     refine hK'.out _ _ (fun i => (cell_setP _ _ hneN i).trans ((cell_setP _ _ hneN i).trans ((cell_setP _ _ hneN i).trans ((cell_setP _ _ hneN i).trans (c7 i))))) (fun _ => ?_)
                     clear hK' K'
                     try simp only [Act.put, List.setIfInBounds_toArray, List.set_cons_zero, List.set_cons_succ]
                     refine wpAnyH_done (by kernel_rfl) ?_ _
                   rotate_left 1
                   focus
                     go_simp
                     refine hK'.out _ _ (fun i => (cell_setP _ _ hneN i).trans ((cell_setP _ _ hneN i).trans ((cell_setP _ _ hneN i).trans ((cell_setP _ _ hneN i).trans (c7 i))))) (fun _ => ?_)
                     clear hK' K'
                     try simp only [Act.put, List.setIfInBounds_toArray, List.set_cons_zero, List.set_cons_succ]
                     refine wpAnyH_ready (rs := [8]) (by kernel_rfl) (by simp) ?_
                     refine AllReadyH.cons (o := ⟨some 82, _, _, _, _, _⟩) rfl (fun K' hK' => ?_) AllReadyH.nil
                     go_simp
                     refine hK'.out _ _ (fun i => (cell_setP _ _ hneN i).trans ((cell_setP _ _ hneN i).trans ((cell_setP _ _ hneN i).trans ((cell_setP _ _ hneN i).trans (c7 i))))) (fun _ => ?_)
                     clear hK' K'
                     try simp only [Act.put, List.setIfInBounds_toArray, List.set_cons_zero, List.set_cons_succ]
                     refine wpAnyH_ready (rs := [10]) (by kernel_rfl) (by simp) ?_
                     refine AllReadyH.cons (o := ⟨some 3, _, _, _, _, _⟩) rfl (fun K' hK' => ?_) AllReadyH.nil
                     go_simp
                     refine hK'.out _ _ (fun i => (cell_setP _ _ hneN i).trans ((cell_setP _ _ hneN i).trans ((cell_setP _ _ hneN i).trans ((cell_setP _ _ hneN i).trans (c7 i))))) (fun _ => ?_)
                     clear hK' K'
                     try simp only [Act.put, List.setIfInBounds_toArray, List.set_cons_zero, List.set_cons_succ]
                     refine wpAnyH_done (by kernel_rfl) ?_ _
                   rotate_left 1
                   all_goals
                     have hlt9 : w.heap.size < w7.heap.size := by have := b7.size; omega
                     go_wp2_with fail
                     refine bodyPost_ret (v := .tuple #[.agg #[.int .i64 ra, .int .i64 rx, .int .i64 ry, .slice A acc.length cp], .bool true]) (by simp [results, Tryd.results30, go_sem, q0, hlt9]) rfl ?_
                     exact ⟨⟨ra, rx, ry, acc⟩, A, cp, true, rfl, (((((hOJ.below b7 (Nat.le_refl _)).farT (by dsimp only; omega) _).farT (by dsimp only; omega) _).farT (by dsimp only; omega) _).farT (by dsimp only; omega) _).loT (by omega), (((((h0.trans (hb7.mono (by omega))).setCell (by dsimp only; omega) _).setCell (by dsimp only; omega) _).setCell (by dsimp only; omega) _).setCell (by dsimp only; omega) _), HB.out⟩
                 · have HB := Lib.hid (show boardOf s = none by unfold boardOf; rw [HP.out]; simp [parsed, htx])
                   have hne : ((txtB ra rx ry acc).toList == s) = false := by
                     rw [beq_eq_false_iff_ne]
                     intro e
                     apply htx
                     rw [show txtB ra rx ry acc = ⟨(txtL ⟨ra, rx, ry, acc⟩).toArray⟩ from rfl] at e
                     simpa using e
                   clear hg htx
                   go_wp2_with fail
                   refine wp_region_held_drew (S := (fun w' => ∀ i, w'.cell? ⟨N, i, none⟩ = #[.int .i64 ra, .int .i64 rx, .int .i64 ry, .slice A acc.length cp][i]?)) (by kernel_rfl) qN (fun hS => ?_)
                   refine wpAnyH_take (i := 0) (oi := ⟨some 74, _, _, _, _, _⟩) (v := ?vdp1) rfl (by kernel_rfl) (by kernel_rfl) (by kernel_rfl) (fun _ _ _ h => h) (Or.inl ⟨by rfl, ?hdp1⟩) hS ?rdp1
                   case hdp1 => (intro w' hSw; (try dsimp only at hSw); go_simp; (try with_reducible rfl))
                   try simp only [Act.put, List.setIfInBounds_toArray, List.set_cons_zero, List.set_cons_succ]
                   refine wpAnyH_take (i := 1) (oi := ⟨some 75, _, _, _, _, _⟩) (v := ?vdp2) rfl (by kernel_rfl) (by kernel_rfl) (by kernel_rfl) (fun _ _ _ h => h) (Or.inl ⟨by rfl, ?hdp2⟩) hS ?rdp2
                   case hdp2 => (intro w' hSw; (try dsimp only at hSw); go_simp; (try with_reducible rfl))
                   try simp only [Act.put, List.setIfInBounds_toArray, List.set_cons_zero, List.set_cons_succ]
                   refine wpAnyH_ready (rs := [2]) (by kernel_rfl) (by simp) ?_
                   refine AllReadyH.cons (o := ⟨some 76, _, _, _, _, _⟩) rfl (fun K' hK' => ?_) AllReadyH.nil
                   go_simp
                   go_at_call 37
                   refine (sqGood_any _ _ _ _ _ _ _ (hRJ.go ((Below.refl _ _).drew))).mono ?_
                   rintro e w6 ⟨rfl, hx6⟩
                   rw [HG.out]
                   have c6 := cell_atT hx6 hltN hNk
                   have b6 : Below wr.heap.size wr w6 := (Below.refl _ _).drew.trans hx6
                   have hb6 := hb.trans (b6.mono (by have := hb.size; omega))
                   have q0 := cell_atT hb6 (by omega) k0
                   have f0 := free_atT hb6 (by omega) k0
                   refine hK'.out _ _ c6 (fun _ => ?_)
                   clear hK' K'
                   try simp only [Act.put, List.setIfInBounds_toArray, List.set_cons_zero, List.set_cons_succ]
                   refine wpAnyH_take (i := 3) (oi := ⟨some 77, _, _, _, _, _⟩) (v := ?vdp3) rfl (by kernel_rfl) (by kernel_rfl) (by kernel_rfl) (fun _ _ _ h => h) (Or.inl ⟨by rfl, ?hdp3⟩) c6 ?rdp3
                   case hdp3 => (intro w' hSw; (try dsimp only at hSw); go_simp; (try with_reducible rfl))
                   try simp only [Act.put, List.setIfInBounds_toArray, List.set_cons_zero, List.set_cons_succ]
                   refine wpAnyH_take (i := 4) (oi := ⟨some 78, _, _, _, _, _⟩) (v := ?vdp4) rfl (by kernel_rfl) (by kernel_rfl) (by kernel_rfl) (fun _ _ _ h => h) (Or.inl ⟨by rfl, ?hdp4⟩) c6 ?rdp4
                   case hdp4 => (intro w' hSw; (try dsimp only at hSw); go_simp; (try with_reducible rfl))
                   try simp only [Act.put, List.setIfInBounds_toArray, List.set_cons_zero, List.set_cons_succ]
                   refine wpAnyH_take (i := 6) (oi := ⟨some 80, _, _, _, _, _⟩) (v := ?vdp5) rfl (by kernel_rfl) (by kernel_rfl) (by kernel_rfl) (fun _ _ _ h => h) (Or.inl ⟨by rfl, ?hdp5⟩) c6 ?rdp5
                   case hdp5 => (intro w' hSw; (try dsimp only at hSw); go_simp; (try with_reducible rfl))
                   try simp only [Act.put, List.setIfInBounds_toArray, List.set_cons_zero, List.set_cons_succ]
                   refine wpAnyH_ready (rs := [5]) (by kernel_rfl) (by simp) ?_
                   refine AllReadyH.cons (o := ⟨some 79, _, _, _, _, _⟩) rfl (fun K' hK' => ?_) AllReadyH.nil
                   go_simp
                   go_at_call 40
                   refine (sqText_any _ _ _ _ _ _ _ (hRJ.go b6) GB.out.1 GB.out.2.1 GB.out.2.2.1 GB.out.2.2.2).mono ?_
                   rintro e w7 ⟨rfl, hx7⟩
                   skip
                   have b7 : Below wr.heap.size wr w7 := b6.trans (hx7.mono b6.size)
                   have hb7 := hb.trans (b7.mono (by have := hb.size; omega))
                   have c7 := cell_atT b7 hltN hNk
                   clear q0 f0
                   have q0 := cell_atT hb7 (by omega) k0
                   have f0 := free_atT hb7 (by omega) k0
                   refine hK'.out _ _ c7 (fun _ => ?_)
                   clear hK' K'
                   try simp only [Act.put, List.setIfInBounds_toArray, List.set_cons_zero, List.set_cons_succ]
                   refine wpAnyH_take (i := 7) (oi := ⟨some 81, _, _, _, _, _⟩) (v := ?vdp6) rfl (by kernel_rfl) (by kernel_rfl) (by kernel_rfl) (fun _ _ _ h => h) (Or.inl ⟨by rfl, ?hdp6⟩) c7 ?rdp6
                   case hdp6 => (intro w' hSw; (try dsimp only at hSw); go_simp; (try with_reducible rfl))
                   try simp only [Act.put, List.setIfInBounds_toArray, List.set_cons_zero, List.set_cons_succ]
                   refine wpAnyH_ready (rs := [8, 9]) (by kernel_rfl) (by simp) ?_
                   refine AllReadyH.cons (o := ⟨some 82, _, _, _, _, _⟩) rfl (fun K' hK' => ?_) (AllReadyH.cons (o := ⟨none, _, _, _, _, _⟩) rfl (fun K' hK' => ?_) AllReadyH.nil)
                   focus
                     go_simp
                     refine hK'.out _ _ c7 (fun _ => ?_)
                     clear hK' K'
                     try simp only [Act.put, List.setIfInBounds_toArray, List.set_cons_zero, List.set_cons_succ]
                     refine wpAnyH_ready (rs := [9]) (by kernel_rfl) (by simp) ?_
                     refine AllReadyH.cons (o := ⟨none, _, _, _, _, _⟩) rfl (fun K' hK' => ?_) AllReadyH.nil
                     go_simp
                     refine hK'.out _ _ (fun i => (cell_setP _ _ hneN i).trans ((cell_setP _ _ hneN i).trans ((cell_setP _ _ hneN i).trans ((cell_setP _ _ hneN i).trans (c7 i))))) (fun _ => ?_)
                     clear hK' K'
                     try simp only [Act.put, List.setIfInBounds_toArray, List.set_cons_zero, List.set_cons_succ]
                     refine wpAnyH_ready (rs := [10]) (by kernel_rfl) (by simp) ?_
                     refine AllReadyH.cons (o := ⟨some 3, _, _, _, _, _⟩) rfl (fun K' hK' => ?_) AllReadyH.nil
                     go_simp
                     refine hK'.out _ _ (fun i => (cell_setP _ _ hneN i).trans ((cell_setP _ _ hneN i).trans ((cell_setP _ _ hneN i).trans ((cell_setP _ _ hneN i).trans (c7 i))))) (fun _ => ?_)
                     clear hK' K'
                     try simp only [Act.put, List.setIfInBounds_toArray, List.set_cons_zero, List.set_cons_succ]
                     refine wpAnyH_done (by kernel_rfl) ?_ _
                   rotate_left 1
                   focus
                     go_simp
                     refine hK'.out _ _ (fun i => (cell_setP _ _ hneN i).trans ((cell_setP _ _ hneN i).trans ((cell_setP _ _ hneN i).trans ((cell_setP _ _ hneN i).trans (c7 i))))) (fun _ => ?_)
                     clear hK' K'
                     try simp only [Act.put, List.setIfInBounds_toArray, List.set_cons_zero, List.set_cons_succ]
                     refine wpAnyH_ready (rs := [8]) (by kernel_rfl) (by simp) ?_
                     refine AllReadyH.cons (o := ⟨some 82, _, _, _, _, _⟩) rfl (fun K' hK' => ?_) AllReadyH.nil
                     go_simp
                     refine hK'.out _ _ (fun i => (cell_setP _ _ hneN i).trans ((cell_setP _ _ hneN i).trans ((cell_setP _ _ hneN i).trans ((cell_setP _ _ hneN i).trans (c7 i))))) (fun _ => ?_)
                     clear hK' K'
                     try simp only [Act.put, List.setIfInBounds_toArray, List.set_cons_zero, List.set_cons_succ]
                     refine wpAnyH_ready (rs := [10]) (by kernel_rfl) (by simp) ?_
                     refine AllReadyH.cons (o := ⟨some 3, _, _, _, _, _⟩) rfl (fun K' hK' => ?_) AllReadyH.nil
                     go_simp
                     refine hK'.out _ _ (fun i => (cell_setP _ _ hneN i).trans ((cell_setP _ _ hneN i).trans ((cell_setP _ _ hneN i).trans ((cell_setP _ _ hneN i).trans (c7 i))))) (fun _ => ?_)
                     clear hK' K'
                     try simp only [Act.put, List.setIfInBounds_toArray, List.set_cons_zero, List.set_cons_succ]
                     refine wpAnyH_done (by kernel_rfl) ?_ _
                   rotate_left 1
                   all_goals
                     have hlt9 : w.heap.size < w7.heap.size := by have := b7.size; omega
                     go_wp2_with fail
                     refine bodyPost_ret (v := .tuple #[.agg #[.int .i64 ra, .int .i64 rx, .int .i64 ry, .slice A acc.length cp], .bool false]) (by simp [results, Tryd.results30, go_sem, q0, hlt9]) rfl ?_
                     exact ⟨⟨ra, rx, ry, acc⟩, A, cp, false, rfl, (((((hOJ.below b7 (Nat.le_refl _)).farT (by dsimp only; omega) _).farT (by dsimp only; omega) _).farT (by dsimp only; omega) _).farT (by dsimp only; omega) _).loT (by omega), (((((h0.trans (hb7.mono (by omega))).setCell (by dsimp only; omega) _).setCell (by dsimp only; omega) _).setCell (by dsimp only; omega) _).setCell (by dsimp only; omega) _), HB.out⟩
          · go_loopw [49] (fun i wr => ∃ (k : Nat) (acc : List (Int × Int)) (A : Option Addr) (cp : Nat), k ≤ ts.length ∧ i = .int .i64 (k : Int) ∧ acc.length = k ∧ wfJ acc ∧ Below (w.heap.size + 1) W0 wr ∧ Below N wc wr ∧ N + 1 ≤ wr.heap.size ∧
              wr.heap[N]? = some (.cells #[.int .i64 ra, .int .i64 rx, .int .i64 ry, .slice A k cp] 32 (0, 0)) ∧ wr.ownsRow (N + 1) 57 2 (.slice A k cp) k (flatJ acc) ∧ ts.mapM jumpS = ((ts.drop k).mapM jumpS).map (acc ++ ·)) (fun i _ => ts.length - (intOf i).toNat)
            case atStart => exact ⟨0, [], none, 0, Nat.zero_le _, rfl, rfl, fun j hj => by simp at hj, hbc, Below.refl _ _, by omega, hNr, World.ownsRow_nil _ _ _ _, by simp⟩
            case round =>
             obtain ⟨k, acc, A, cp, hk, rfl, hka, hwf, hb, hbN, hsz, hNk, ho, hd⟩ := hrel
             have HD := Lib.hid hd; have HK := Lib.hid hka; clear hd hka
             by_cases hlt : k < ts.length
             · first
               | (exfalso; omega)
               | (have hlt' : (k : Int) < (ts.length : Int) := by omega
                  have qt := (hrc.below hbN (by omega)).cell (k := k + 1) (by simpa using hlt)
                  simp only [List.getElem_cons_succ] at qt
                  have hq : wr.cell? ⟨g1, 1 + k, none⟩ = some (strV ts[k]) := by rw [Nat.add_comm]; exact qt
                  have htl : ts[k].length ≤ 200 := by have := hTL ts[k] (by simp); omega
                  clear qt
                  go_wp2_with fail
                  refine (l1Split_any ts[k] 62 wr (by omega)).mono ?_
                  rintro e w5 ⟨g5, c5, rfl, ⟨hg5, hc5⟩, hr5, hx5⟩
                  by_cases hn5 : (splitL 62 ts[k]).length = 2
                  · obtain ⟨u, v, huv⟩ := two_of hn5
                    rw [huv] at hr5 hc5 ⊢
                    have hl5 := splitL_len 62 ts[k]
                    rw [huv] at hl5
                    have hul := hl5 u (by simp)
                    have hvl := hl5 v (by simp)
                    have q5 := hr5.cell (k := 0) (by simp)
                    have q51 := hr5.cell (k := 1) (by simp)
                    simp only [List.getElem_cons_zero, List.getElem_cons_succ] at q5 q51
                    have hN5 := (hx5.block N (by omega)).trans hNk
                    have qN := fun i => cell_of_row w5 N i _ _ _ hN5
                    have fN := fun i => frozen_row (i := i) hN5
                    have qN3 : w5.cell? ⟨N, 3, none⟩ = some (.slice A k cp) := qN 3
                    have fN3 : w5.frozen? ⟨N, 3, none⟩ = false := fN 3
                    clear qN fN
                    have HN5 := Lib.hid hN5; clear hN5
                    have hlt5 := hr5.lt
                    have zx5 := hx5.size
                    have hltN : N < w5.heap.size := by omega
                    have hno5 : some g5 ≠ (Value.slice A k cp).ownBlock := fun e => by have := own_ltT ho g5 e.symm; omega
                    have hnoN : some N ≠ (Value.slice A k cp).ownBlock := fun e => by have := own_from ho N e.symm; omega
                    have hN5s : N + 1 ≤ (w5.alloc (.cells #[.int .i64 (readL u), .int .i64 (readL v)] 57)).drew.heap.size := by simp; omega
                    have ho5 := own_below ho hx5
                    have HUV := Lib.hid huv
                    have gne : g5 ≠ N := by omega
                    clear huv
                    go_wp2_with fail
                    refine wp_region_held_drew (S := (fun w' => w'.cell? ⟨g5, 0, none⟩ = some (strV u) ∧ w'.cell? ⟨g5, 1, none⟩ = some (strV v))) (by kernel_rfl) ⟨q5, q51⟩ (fun hS => ?_)
                    refine wpAnyH_take (i := 0) (oi := ⟨some 59, _, _, _, _, _⟩) (v := ?vaq1) rfl (by kernel_rfl) (by kernel_rfl) (by kernel_rfl) (fun _ _ _ h => h) (Or.inl ⟨by rfl, ?haq1⟩) hS ?raq1
                    case haq1 => (intro w' hSw; (try dsimp only at hSw); go_simp; (try with_reducible rfl))
                    try simp only [Act.put, List.setIfInBounds_toArray, List.set_cons_zero, List.set_cons_succ]
                    refine wpAnyH_take (i := 2) (oi := ⟨some 61, _, _, _, _, _⟩) (v := ?vaq2) rfl (by kernel_rfl) (by kernel_rfl) (by kernel_rfl) (fun _ _ _ h => h) (Or.inl ⟨by rfl, ?haq2⟩) hS ?raq2
                    case haq2 => (intro w' hSw; (try dsimp only at hSw); go_simp; (try with_reducible rfl))
                    try simp only [Act.put, List.setIfInBounds_toArray, List.set_cons_zero, List.set_cons_succ]
                    refine wpAnyH_take (i := 3) (oi := ⟨some 62, _, _, _, _, _⟩) (v := ?vaq3) rfl (by kernel_rfl) (by kernel_rfl) (by kernel_rfl) (fun _ _ _ h => h) (Or.inl ⟨by rfl, ?haq3⟩) hS ?raq3
                    case haq3 => (intro w' hSw; (try dsimp only at hSw); go_simp; (try with_reducible rfl))
                    try simp only [Act.put, List.setIfInBounds_toArray, List.set_cons_zero, List.set_cons_succ]
                    refine wpAnyH_take (i := 4) (oi := ⟨some 63, _, _, _, _, _⟩) (v := ?vaq4) rfl (by kernel_rfl) (by kernel_rfl) (by kernel_rfl) (fun _ _ _ h => h) (Or.inl ⟨by rfl, ?haq4⟩) hS ?raq4
                    case haq4 => (intro w' hSw; (try dsimp only at hSw); go_simp; (try with_reducible rfl))
                    try simp only [Act.put, List.setIfInBounds_toArray, List.set_cons_zero, List.set_cons_succ]
                    refine wpAnyH_take (i := 6) (oi := ⟨some 65, _, _, _, _, _⟩) (v := ?vaq5) rfl (by kernel_rfl) (by kernel_rfl) (by kernel_rfl) (fun _ _ _ h => h) (Or.inl ⟨by rfl, ?haq5⟩) hS ?raq5
                    case haq5 => (intro w' hSw; (try dsimp only at hSw); go_simp; (try with_reducible rfl))
                    try simp only [Act.put, List.setIfInBounds_toArray, List.set_cons_zero, List.set_cons_succ]
                    refine wpAnyH_take (i := 7) (oi := ⟨some 66, _, _, _, _, _⟩) (v := ?vaq6) rfl (by kernel_rfl) (by kernel_rfl) (by kernel_rfl) (fun _ _ _ h => h) (Or.inl ⟨by rfl, ?haq6⟩) hS ?raq6
                    case haq6 => (intro w' hSw; (try dsimp only at hSw); go_simp; (try with_reducible rfl))
                    try simp only [Act.put, List.setIfInBounds_toArray, List.set_cons_zero, List.set_cons_succ]
                    refine wpAnyH_take (i := 8) (oi := ⟨some 67, _, _, _, _, _⟩) (v := ?vaq7) rfl (by kernel_rfl) (by kernel_rfl) (by kernel_rfl) (fun _ _ _ h => h) (Or.inl ⟨by rfl, ?haq7⟩) hS ?raq7
                    case haq7 => (intro w' hSw; (try dsimp only at hSw); go_simp; (try with_reducible rfl))
                    try simp only [Act.put, List.setIfInBounds_toArray, List.set_cons_zero, List.set_cons_succ]
                    refine wpAnyH_ready (rs := [1, 5]) (by kernel_rfl) (by simp) ?_
                    refine AllReadyH.cons (o := ⟨some 60, _, _, _, _, _⟩) rfl (fun K' hK' => ?_) (AllReadyH.cons (o := ⟨some 64, _, _, _, _, _⟩) rfl (fun K' hK' => ?_) AllReadyH.nil)
                    focus
                      go_simp
                      refine hK'.out _ _ hS (fun _ => ?_)
                      clear hK' K'
                      try simp only [Act.put, List.setIfInBounds_toArray, List.set_cons_zero, List.set_cons_succ]
                      refine wpAnyH_ready (rs := [5]) (by kernel_rfl) (by simp) ?_
                      refine AllReadyH.cons (o := ⟨some 64, _, _, _, _, _⟩) rfl (fun K' hK' => ?_) AllReadyH.nil
                      go_simp
                      go_at_call 47
                      refine (l1Read_any _ _ (by omega)).mono ?_
                      rintro e w6 ⟨rfl, rfl⟩
                      refine hK'.out _ _ ⟨q5, q51⟩ (fun _ => ?_)
                      clear hK' K'
                      try simp only [Act.put, List.setIfInBounds_toArray, List.set_cons_zero, List.set_cons_succ]
                      refine wpAnyH_ready (rs := [9]) (by kernel_rfl) (by simp) ?_
                      refine AllReadyH.cons (o := ⟨some 68, _, _, _, _, _⟩) rfl (fun K' hK' => ?_) AllReadyH.nil
                      go_simp
                      go_at_call 47
                      refine (l1Read_any _ _ (by omega)).mono ?_
                      rintro e w6 ⟨rfl, rfl⟩
                      refine hK'.out _ _ ⟨q5, q51⟩ (fun _ => ?_)
                      clear hK' K'
                      try simp only [Act.put, List.setIfInBounds_toArray, List.set_cons_zero, List.set_cons_succ]
                      refine wpAnyH_take (i := 10) (oi := ⟨some 69, _, _, _, _, _⟩) (v := ?vaq8) rfl (by kernel_rfl) (by kernel_rfl) (by kernel_rfl) (fun _ _ _ h => h) (Or.inl ⟨by rfl, ?haq8⟩) ⟨q5, q51⟩ ?raq8
                      case haq8 => (intro w' hSw; (try dsimp only at hSw); go_simp; (try with_reducible rfl))
                      try simp only [Act.put, List.setIfInBounds_toArray, List.set_cons_zero, List.set_cons_succ]
                      refine wpAnyH_ready (rs := [11]) (by kernel_rfl) (by simp) ?_
                      refine AllReadyH.cons (o := ⟨some 70, _, _, _, _, _⟩) rfl (fun K' hK' => ?_) AllReadyH.nil
                      go_simp
                      refine hK'.out _ _ ⟨(cell_pre _ _ _ 0 hlt5).trans q5, (cell_pre _ _ _ 1 hlt5).trans q51⟩ (fun _ => ?_)
                      clear hK' K'
                      try simp only [Act.put, List.setIfInBounds_toArray, List.set_cons_zero, List.set_cons_succ]
                      refine wpAnyH_ready (rs := [12]) (by kernel_rfl) (by simp) ?_
                      refine AllReadyH.cons (o := ⟨some 71, _, _, _, _, _⟩) rfl (fun K' hK' => ?_) AllReadyH.nil
                      rw [if_pos (wanted_plain rfl)]
                      refine wp_append_own _ _ _ 30 rfl (N + 1) 57 ti (.agg #[.int .i64 0, .int .i64 0]) 2 16 Tryd.underlying30 hi hz0 hz1 hz2 rfl (by decide) _ _ _ rfl (ho5.alloc _).drew ⟨w5.heap.size, 0, none⟩ 1 1 [.int .i64 (readL u), .int .i64 (readL v)] rfl rfl (cell_new2 _ _ _ _) (two_int _ _) (by unfold maxLen; omega) (by omega) hN5s ?_
                      intro v1 w7 ho7 hg7 _
                      have e50 := (cell_grown hg7 (b := g5) (o := 0) (by simp; omega) hno5).trans ((cell_pre _ _ _ 0 hlt5).trans q5)
                      have e51 := (cell_grown hg7 (b := g5) (o := 1) (by simp; omega) hno5).trans ((cell_pre _ _ _ 1 hlt5).trans q51)
                      have e5N := (cell_grown hg7 (b := N) (o := 3) (by simp; omega) hnoN).trans ((cell_pre _ _ _ 3 hltN).trans qN3)
                      have f7 : w7.frozen? ⟨N, 3, none⟩ = false := frozen_row (i := 3) ((hg7.block N (by simp; omega) hnoN).trans ((Below.heap_alloc _ _ _ hltN).trans HN5.out))
                      obtain ⟨A7, c7, rfl⟩ := own_slT ho7
                      refine hK'.out _ _ ⟨e50, e51⟩ (fun _ => ?_)
                      clear hK' K'
                      try simp only [Act.put, List.setIfInBounds_toArray, List.set_cons_zero, List.set_cons_succ]
                      refine wpAnyH_take (i := 13) (oi := ⟨some 72, _, _, _, _, _⟩) (v := ?vaq9) rfl (by kernel_rfl) (by kernel_rfl) (by kernel_rfl) (fun _ _ _ h => h) (Or.inl ⟨by rfl, ?haq9⟩) ⟨e50, e51⟩ ?raq9
                      case haq9 => (intro w' hSw; (try dsimp only at hSw); go_simp; (try with_reducible rfl))
                      try simp only [Act.put, List.setIfInBounds_toArray, List.set_cons_zero, List.set_cons_succ]
                      refine wpAnyH_ready (rs := [14]) (by kernel_rfl) (by simp) ?_
                      refine AllReadyH.cons (o := ⟨none, _, _, _, _, _⟩) rfl (fun K' hK' => ?_) AllReadyH.nil
                      go_simp
                      refine hK'.out _ _ ⟨(cell_setP _ _ gne 0).trans e50, (cell_setP _ _ gne 1).trans e51⟩ (fun _ => ?_)
                      clear hK' K'
                      try simp only [Act.put, List.setIfInBounds_toArray, List.set_cons_zero, List.set_cons_succ]
                      refine wpAnyH_done (by kernel_rfl) ?_ _
                    rotate_left 1
                    focus
                      go_simp
                      go_at_call 47
                      refine (l1Read_any _ _ (by omega)).mono ?_
                      rintro e w6 ⟨rfl, rfl⟩
                      refine hK'.out _ _ ⟨q5, q51⟩ (fun _ => ?_)
                      clear hK' K'
                      try simp only [Act.put, List.setIfInBounds_toArray, List.set_cons_zero, List.set_cons_succ]
                      refine wpAnyH_ready (rs := [1, 9]) (by kernel_rfl) (by simp) ?_
                      refine AllReadyH.cons (o := ⟨some 60, _, _, _, _, _⟩) rfl (fun K' hK' => ?_) (AllReadyH.cons (o := ⟨some 68, _, _, _, _, _⟩) rfl (fun K' hK' => ?_) AllReadyH.nil)
                      focus
                        go_simp
                        refine hK'.out _ _ ⟨q5, q51⟩ (fun _ => ?_)
                        clear hK' K'
                        try simp only [Act.put, List.setIfInBounds_toArray, List.set_cons_zero, List.set_cons_succ]
                        refine wpAnyH_ready (rs := [9]) (by kernel_rfl) (by simp) ?_
                        refine AllReadyH.cons (o := ⟨some 68, _, _, _, _, _⟩) rfl (fun K' hK' => ?_) AllReadyH.nil
                        go_simp
                        go_at_call 47
                        refine (l1Read_any _ _ (by omega)).mono ?_
                        rintro e w6 ⟨rfl, rfl⟩
                        refine hK'.out _ _ ⟨q5, q51⟩ (fun _ => ?_)
                        clear hK' K'
                        try simp only [Act.put, List.setIfInBounds_toArray, List.set_cons_zero, List.set_cons_succ]
                        refine wpAnyH_take (i := 10) (oi := ⟨some 69, _, _, _, _, _⟩) (v := ?vaq10) rfl (by kernel_rfl) (by kernel_rfl) (by kernel_rfl) (fun _ _ _ h => h) (Or.inl ⟨by rfl, ?haq10⟩) ⟨q5, q51⟩ ?raq10
                        case haq10 => (intro w' hSw; (try dsimp only at hSw); go_simp; (try with_reducible rfl))
                        try simp only [Act.put, List.setIfInBounds_toArray, List.set_cons_zero, List.set_cons_succ]
                        refine wpAnyH_ready (rs := [11]) (by kernel_rfl) (by simp) ?_
                        refine AllReadyH.cons (o := ⟨some 70, _, _, _, _, _⟩) rfl (fun K' hK' => ?_) AllReadyH.nil
                        go_simp
                        refine hK'.out _ _ ⟨(cell_pre _ _ _ 0 hlt5).trans q5, (cell_pre _ _ _ 1 hlt5).trans q51⟩ (fun _ => ?_)
                        clear hK' K'
                        try simp only [Act.put, List.setIfInBounds_toArray, List.set_cons_zero, List.set_cons_succ]
                        refine wpAnyH_ready (rs := [12]) (by kernel_rfl) (by simp) ?_
                        refine AllReadyH.cons (o := ⟨some 71, _, _, _, _, _⟩) rfl (fun K' hK' => ?_) AllReadyH.nil
                        rw [if_pos (wanted_plain rfl)]
                        refine wp_append_own _ _ _ 30 rfl (N + 1) 57 ti (.agg #[.int .i64 0, .int .i64 0]) 2 16 Tryd.underlying30 hi hz0 hz1 hz2 rfl (by decide) _ _ _ rfl (ho5.alloc _).drew ⟨w5.heap.size, 0, none⟩ 1 1 [.int .i64 (readL u), .int .i64 (readL v)] rfl rfl (cell_new2 _ _ _ _) (two_int _ _) (by unfold maxLen; omega) (by omega) hN5s ?_
                        intro v1 w7 ho7 hg7 _
                        have e50 := (cell_grown hg7 (b := g5) (o := 0) (by simp; omega) hno5).trans ((cell_pre _ _ _ 0 hlt5).trans q5)
                        have e51 := (cell_grown hg7 (b := g5) (o := 1) (by simp; omega) hno5).trans ((cell_pre _ _ _ 1 hlt5).trans q51)
                        have e5N := (cell_grown hg7 (b := N) (o := 3) (by simp; omega) hnoN).trans ((cell_pre _ _ _ 3 hltN).trans qN3)
                        have f7 : w7.frozen? ⟨N, 3, none⟩ = false := frozen_row (i := 3) ((hg7.block N (by simp; omega) hnoN).trans ((Below.heap_alloc _ _ _ hltN).trans HN5.out))
                        obtain ⟨A7, c7, rfl⟩ := own_slT ho7
                        refine hK'.out _ _ ⟨e50, e51⟩ (fun _ => ?_)
                        clear hK' K'
                        try simp only [Act.put, List.setIfInBounds_toArray, List.set_cons_zero, List.set_cons_succ]
                        refine wpAnyH_take (i := 13) (oi := ⟨some 72, _, _, _, _, _⟩) (v := ?vaq11) rfl (by kernel_rfl) (by kernel_rfl) (by kernel_rfl) (fun _ _ _ h => h) (Or.inl ⟨by rfl, ?haq11⟩) ⟨e50, e51⟩ ?raq11
                        case haq11 => (intro w' hSw; (try dsimp only at hSw); go_simp; (try with_reducible rfl))
                        try simp only [Act.put, List.setIfInBounds_toArray, List.set_cons_zero, List.set_cons_succ]
                        refine wpAnyH_ready (rs := [14]) (by kernel_rfl) (by simp) ?_
                        refine AllReadyH.cons (o := ⟨none, _, _, _, _, _⟩) rfl (fun K' hK' => ?_) AllReadyH.nil
                        go_simp
                        refine hK'.out _ _ ⟨(cell_setP _ _ gne 0).trans e50, (cell_setP _ _ gne 1).trans e51⟩ (fun _ => ?_)
                        clear hK' K'
                        try simp only [Act.put, List.setIfInBounds_toArray, List.set_cons_zero, List.set_cons_succ]
                        refine wpAnyH_done (by kernel_rfl) ?_ _
                      rotate_left 1
                      focus
                        go_simp
                        go_at_call 47
                        refine (l1Read_any _ _ (by omega)).mono ?_
                        rintro e w6 ⟨rfl, rfl⟩
                        refine hK'.out _ _ ⟨q5, q51⟩ (fun _ => ?_)
                        clear hK' K'
                        try simp only [Act.put, List.setIfInBounds_toArray, List.set_cons_zero, List.set_cons_succ]
                        refine wpAnyH_take (i := 10) (oi := ⟨some 69, _, _, _, _, _⟩) (v := ?vaq12) rfl (by kernel_rfl) (by kernel_rfl) (by kernel_rfl) (fun _ _ _ h => h) (Or.inl ⟨by rfl, ?haq12⟩) ⟨q5, q51⟩ ?raq12
                        case haq12 => (intro w' hSw; (try dsimp only at hSw); go_simp; (try with_reducible rfl))
                        try simp only [Act.put, List.setIfInBounds_toArray, List.set_cons_zero, List.set_cons_succ]
                        refine wpAnyH_ready (rs := [1, 11]) (by kernel_rfl) (by simp) ?_
                        refine AllReadyH.cons (o := ⟨some 60, _, _, _, _, _⟩) rfl (fun K' hK' => ?_) (AllReadyH.cons (o := ⟨some 70, _, _, _, _, _⟩) rfl (fun K' hK' => ?_) AllReadyH.nil)
                        focus
                          go_simp
                          refine hK'.out _ _ ⟨q5, q51⟩ (fun _ => ?_)
                          clear hK' K'
                          try simp only [Act.put, List.setIfInBounds_toArray, List.set_cons_zero, List.set_cons_succ]
                          refine wpAnyH_ready (rs := [11]) (by kernel_rfl) (by simp) ?_
                          refine AllReadyH.cons (o := ⟨some 70, _, _, _, _, _⟩) rfl (fun K' hK' => ?_) AllReadyH.nil
                          go_simp
                          refine hK'.out _ _ ⟨(cell_pre _ _ _ 0 hlt5).trans q5, (cell_pre _ _ _ 1 hlt5).trans q51⟩ (fun _ => ?_)
                          clear hK' K'
                          try simp only [Act.put, List.setIfInBounds_toArray, List.set_cons_zero, List.set_cons_succ]
                          refine wpAnyH_ready (rs := [12]) (by kernel_rfl) (by simp) ?_
                          refine AllReadyH.cons (o := ⟨some 71, _, _, _, _, _⟩) rfl (fun K' hK' => ?_) AllReadyH.nil
                          rw [if_pos (wanted_plain rfl)]
                          refine wp_append_own _ _ _ 30 rfl (N + 1) 57 ti (.agg #[.int .i64 0, .int .i64 0]) 2 16 Tryd.underlying30 hi hz0 hz1 hz2 rfl (by decide) _ _ _ rfl (ho5.alloc _).drew ⟨w5.heap.size, 0, none⟩ 1 1 [.int .i64 (readL u), .int .i64 (readL v)] rfl rfl (cell_new2 _ _ _ _) (two_int _ _) (by unfold maxLen; omega) (by omega) hN5s ?_
                          intro v1 w7 ho7 hg7 _
                          have e50 := (cell_grown hg7 (b := g5) (o := 0) (by simp; omega) hno5).trans ((cell_pre _ _ _ 0 hlt5).trans q5)
                          have e51 := (cell_grown hg7 (b := g5) (o := 1) (by simp; omega) hno5).trans ((cell_pre _ _ _ 1 hlt5).trans q51)
                          have e5N := (cell_grown hg7 (b := N) (o := 3) (by simp; omega) hnoN).trans ((cell_pre _ _ _ 3 hltN).trans qN3)
                          have f7 : w7.frozen? ⟨N, 3, none⟩ = false := frozen_row (i := 3) ((hg7.block N (by simp; omega) hnoN).trans ((Below.heap_alloc _ _ _ hltN).trans HN5.out))
                          obtain ⟨A7, c7, rfl⟩ := own_slT ho7
                          refine hK'.out _ _ ⟨e50, e51⟩ (fun _ => ?_)
                          clear hK' K'
                          try simp only [Act.put, List.setIfInBounds_toArray, List.set_cons_zero, List.set_cons_succ]
                          refine wpAnyH_take (i := 13) (oi := ⟨some 72, _, _, _, _, _⟩) (v := ?vaq13) rfl (by kernel_rfl) (by kernel_rfl) (by kernel_rfl) (fun _ _ _ h => h) (Or.inl ⟨by rfl, ?haq13⟩) ⟨e50, e51⟩ ?raq13
                          case haq13 => (intro w' hSw; (try dsimp only at hSw); go_simp; (try with_reducible rfl))
                          try simp only [Act.put, List.setIfInBounds_toArray, List.set_cons_zero, List.set_cons_succ]
                          refine wpAnyH_ready (rs := [14]) (by kernel_rfl) (by simp) ?_
                          refine AllReadyH.cons (o := ⟨none, _, _, _, _, _⟩) rfl (fun K' hK' => ?_) AllReadyH.nil
                          go_simp
                          refine hK'.out _ _ ⟨(cell_setP _ _ gne 0).trans e50, (cell_setP _ _ gne 1).trans e51⟩ (fun _ => ?_)
                          clear hK' K'
                          try simp only [Act.put, List.setIfInBounds_toArray, List.set_cons_zero, List.set_cons_succ]
                          refine wpAnyH_done (by kernel_rfl) ?_ _
                        rotate_left 1
                        focus
                          go_simp
                          refine hK'.out _ _ ⟨(cell_pre _ _ _ 0 hlt5).trans q5, (cell_pre _ _ _ 1 hlt5).trans q51⟩ (fun _ => ?_)
                          clear hK' K'
                          try simp only [Act.put, List.setIfInBounds_toArray, List.set_cons_zero, List.set_cons_succ]
                          refine wpAnyH_ready (rs := [1]) (by kernel_rfl) (by simp) ?_
                          refine AllReadyH.cons (o := ⟨some 60, _, _, _, _, _⟩) rfl (fun K' hK' => ?_) AllReadyH.nil
                          go_simp
                          refine hK'.out _ _ ⟨(cell_pre _ _ _ 0 hlt5).trans q5, (cell_pre _ _ _ 1 hlt5).trans q51⟩ (fun _ => ?_)
                          clear hK' K'
                          try simp only [Act.put, List.setIfInBounds_toArray, List.set_cons_zero, List.set_cons_succ]
                          refine wpAnyH_ready (rs := [12]) (by kernel_rfl) (by simp) ?_
                          refine AllReadyH.cons (o := ⟨some 71, _, _, _, _, _⟩) rfl (fun K' hK' => ?_) AllReadyH.nil
                          rw [if_pos (wanted_plain rfl)]
                          refine wp_append_own _ _ _ 30 rfl (N + 1) 57 ti (.agg #[.int .i64 0, .int .i64 0]) 2 16 Tryd.underlying30 hi hz0 hz1 hz2 rfl (by decide) _ _ _ rfl (ho5.alloc _).drew ⟨w5.heap.size, 0, none⟩ 1 1 [.int .i64 (readL u), .int .i64 (readL v)] rfl rfl (cell_new2 _ _ _ _) (two_int _ _) (by unfold maxLen; omega) (by omega) hN5s ?_
                          intro v1 w7 ho7 hg7 _
                          have e50 := (cell_grown hg7 (b := g5) (o := 0) (by simp; omega) hno5).trans ((cell_pre _ _ _ 0 hlt5).trans q5)
                          have e51 := (cell_grown hg7 (b := g5) (o := 1) (by simp; omega) hno5).trans ((cell_pre _ _ _ 1 hlt5).trans q51)
                          have e5N := (cell_grown hg7 (b := N) (o := 3) (by simp; omega) hnoN).trans ((cell_pre _ _ _ 3 hltN).trans qN3)
                          have f7 : w7.frozen? ⟨N, 3, none⟩ = false := frozen_row (i := 3) ((hg7.block N (by simp; omega) hnoN).trans ((Below.heap_alloc _ _ _ hltN).trans HN5.out))
                          obtain ⟨A7, c7, rfl⟩ := own_slT ho7
                          refine hK'.out _ _ ⟨e50, e51⟩ (fun _ => ?_)
                          clear hK' K'
                          try simp only [Act.put, List.setIfInBounds_toArray, List.set_cons_zero, List.set_cons_succ]
                          refine wpAnyH_take (i := 13) (oi := ⟨some 72, _, _, _, _, _⟩) (v := ?vaq14) rfl (by kernel_rfl) (by kernel_rfl) (by kernel_rfl) (fun _ _ _ h => h) (Or.inl ⟨by rfl, ?haq14⟩) ⟨e50, e51⟩ ?raq14
                          case haq14 => (intro w' hSw; (try dsimp only at hSw); go_simp; (try with_reducible rfl))
                          try simp only [Act.put, List.setIfInBounds_toArray, List.set_cons_zero, List.set_cons_succ]
                          refine wpAnyH_ready (rs := [14]) (by kernel_rfl) (by simp) ?_
                          refine AllReadyH.cons (o := ⟨none, _, _, _, _, _⟩) rfl (fun K' hK' => ?_) AllReadyH.nil
                          go_simp
                          refine hK'.out _ _ ⟨(cell_setP _ _ gne 0).trans e50, (cell_setP _ _ gne 1).trans e51⟩ (fun _ => ?_)
                          clear hK' K'
                          try simp only [Act.put, List.setIfInBounds_toArray, List.set_cons_zero, List.set_cons_succ]
                          refine wpAnyH_done (by kernel_rfl) ?_ _
                        rotate_left 1
                      rotate_left 2
                    rotate_left 3
                    all_goals
                      have hs7 := hg7.size
                      simp at hs7
                      have hN7 := (hg7.block N (by simp; omega) hnoN).trans ((Below.heap_alloc _ _ _ hltN).trans HN5.out)
                      have HO7 := Lib.hid ho7; have HG7 := Lib.hid hg7; have HN7 := Lib.hid hN7
                      clear ho7 hg7 hN7
                      go_wp2_with fail
                      go_roundw
                      case rel =>
                        refine ⟨k + 1, acc ++ [(readL u, readL v)], A7, c7, by omega, by go_num, by simp [HK.out], fun j hj => ?_, ?_, ?_, ?_, ?_, ?_, mapM_step hlt (jumpS_two HUV.out) HD.out⟩
                        · rcases List.mem_append.1 hj with h | h
                          · exact hwf j h
                          · simp only [List.mem_singleton] at h
                            subst h
                            have a1 := readL_wf u
                            have a2 := readL_wf v
                            exact ⟨wfi_of (by dsimp only; omega) (by dsimp only; omega), wfi_of (by dsimp only; omega) (by dsimp only; omega)⟩
                        · exact ((((hb.trans (hx5.mono (by have := hb.size; omega))).alloc (by omega) _).drew).grown HG7.out (by simp; omega) (fun g hg => by have := own_from ho5 g hg; omega)).setCell (by dsimp only; omega) _
                        · exact ((((hbN.trans (hx5.mono (by omega))).alloc (by omega) _).drew).grown HG7.out (by simp; omega) (fun g hg => by have := own_from ho5 g hg; omega)).setCell (by dsimp only; omega) _
                        · simp only [World.size_setCell]; omega
                        · exact heap_set _ N 3 _ _ _ HN7.out
                        · have hF : flatJ (acc ++ [(readL u, readL v)]) = flatJ acc ++ [.int .i64 (readL u), .int .i64 (readL v)] := by rw [flatJ_app]; rfl
                          rw [hF]
                          exact ownsRow_setCell_below HO7.out (by dsimp only; omega) _
                      case measure => simp [intOf]; omega
                  · have hn5' : (((splitL 62 ts[k]).length : Int) != 2) = true := by simp; omega
                    have HB := Lib.hid (show boardOf s = none by unfold boardOf; rw [HS.out, mapM_fail hlt (jumpS_not hn5) HD.out]; rfl)
                    have hb5 := hb.trans (hx5.mono (by have := hb.size; omega))
                    clear hn5
                    have q0 := cell_atT hb5 (by omega) k0
                    have f0 := free_atT hb5 (by omega) k0
                    have hb1 := h0.trans (hb5.mono (by omega))
                    have hlt0 : w.heap.size < w5.heap.size := by have := hb5.size; omega
                    go_wp2_with fail
                    refine bodyPost_ret (v := .tuple #[.agg #[.int .i64 0, .int .i64 0, .int .i64 0, .slice none 0 0], .bool false]) (by simp [results, Tryd.results30, go_sem, q0, hlt0]) rfl ?_
                    exact ⟨⟨0, 0, 0, []⟩, none, 0, false, rfl, .inl rfl, (((hb1.setCell (by dsimp only; omega) _).setCell (by dsimp only; omega) _).setCell (by dsimp only; omega) _).setCell (by dsimp only; omega) _, HB.out⟩)
             · have h3 : ¬ ((k : Int) < (ts.length : Int)) := by omega
               obtain rfl := HK.out
               have hke : acc.length = ts.length := by omega
               have hP : parseS s = some ⟨ra, rx, ry, acc⟩ := by
                 rw [HS.out, HD.out, List.drop_eq_nil_of_le (by omega)]
                 simp
               have HP := Lib.hid hP; clear hP
               have HKE := Lib.hid hke; clear hke
               have hOJ := own_rowT ho rfl
               have hal2 : acc.length ≤ 1048576 := by omega
               have hRJ := hOJ.rjT rfl hal2 hwf
               have qN := fun i => cell_of_row wr N i _ _ _ hNk
               have hltN : N < wr.heap.size := by omega
               have hlt0 : w.heap.size < wr.heap.size := by omega
               have hneN : N ≠ w.heap.size := by omega
               cases hg : good ⟨ra, rx, ry, acc⟩
               · have HB := Lib.hid (show boardOf s = none by unfold boardOf; rw [HP.out]; simp [parsed, hg])
                 have HG := Lib.hid hg; clear hg
                 have q0 := cell_atT hb (by omega) k0
                 have f0 := free_atT hb (by omega) k0
                 clear q0 f0
                 go_wp2_with fail
                 refine wp_region_held_drew (S := (fun w' => ∀ i, w'.cell? ⟨N, i, none⟩ = #[.int .i64 ra, .int .i64 rx, .int .i64 ry, .slice A acc.length cp][i]?)) (by kernel_rfl) qN (fun hS => ?_)
                 refine wpAnyH_take (i := 0) (oi := ⟨some 74, _, _, _, _, _⟩) (v := ?vbq1) rfl (by kernel_rfl) (by kernel_rfl) (by kernel_rfl) (fun _ _ _ h => h) (Or.inl ⟨by rfl, ?hbq1⟩) hS ?rbq1
                 case hbq1 => (intro w' hSw; (try dsimp only at hSw); go_simp; (try with_reducible rfl))
                 try simp only [Act.put, List.setIfInBounds_toArray, List.set_cons_zero, List.set_cons_succ]
                 refine wpAnyH_take (i := 1) (oi := ⟨some 75, _, _, _, _, _⟩) (v := ?vbq2) rfl (by kernel_rfl) (by kernel_rfl) (by kernel_rfl) (fun _ _ _ h => h) (Or.inl ⟨by rfl, ?hbq2⟩) hS ?rbq2
                 case hbq2 => (intro w' hSw; (try dsimp only at hSw); go_simp; (try with_reducible rfl))
                 try simp only [Act.put, List.setIfInBounds_toArray, List.set_cons_zero, List.set_cons_succ]
                 refine wpAnyH_ready (rs := [2]) (by kernel_rfl) (by simp) ?_
                 refine AllReadyH.cons (o := ⟨some 76, _, _, _, _, _⟩) rfl (fun K' hK' => ?_) AllReadyH.nil
                 go_simp
                 go_at_call 37
                 refine (sqGood_any _ _ _ _ _ _ _ (hRJ.go ((Below.refl _ _).drew))).mono ?_
                 rintro e w6 ⟨rfl, hx6⟩
                 rw [HG.out]
                 have c6 := cell_atT hx6 hltN hNk
                 have b6 : Below wr.heap.size wr w6 := (Below.refl _ _).drew.trans hx6
                 have hb6 := hb.trans (b6.mono (by have := hb.size; omega))
                 have q0 := cell_atT hb6 (by omega) k0
                 have f0 := free_atT hb6 (by omega) k0
                 refine hK'.out _ _ c6 (fun _ => ?_)
                 clear hK' K'
                 try simp only [Act.put, List.setIfInBounds_toArray, List.set_cons_zero, List.set_cons_succ]
                 refine wpAnyH_take (i := 3) (oi := ⟨some 77, _, _, _, _, _⟩) (v := ?vbq3) rfl (by kernel_rfl) (by kernel_rfl) (by kernel_rfl) (fun _ _ _ h => h) (Or.inl ⟨by rfl, ?hbq3⟩) c6 ?rbq3
                 case hbq3 => (intro w' hSw; (try dsimp only at hSw); go_simp; (try with_reducible rfl))
                 try simp only [Act.put, List.setIfInBounds_toArray, List.set_cons_zero, List.set_cons_succ]
                 refine wpAnyH_take (i := 4) (oi := ⟨some 78, _, _, _, _, _⟩) (v := undef) rfl (by kernel_rfl) (by kernel_rfl) (by kernel_rfl) (fun _ _ _ h => h) (Or.inr ⟨by rfl, rfl⟩) c6 ?rbq4
                 try simp only [Act.put, List.setIfInBounds_toArray, List.set_cons_zero, List.set_cons_succ]
                 refine wpAnyH_take (i := 5) (oi := ⟨some 79, _, _, _, _, _⟩) (v := undef) rfl (by kernel_rfl) (by kernel_rfl) (by kernel_rfl) (fun _ _ _ h => h) (Or.inr ⟨by rfl, rfl⟩) c6 ?rbq5
                 try simp only [Act.put, List.setIfInBounds_toArray, List.set_cons_zero, List.set_cons_succ]
                 refine wpAnyH_take (i := 6) (oi := ⟨some 80, _, _, _, _, _⟩) (v := undef) rfl (by kernel_rfl) (by kernel_rfl) (by kernel_rfl) (fun _ _ _ h => h) (Or.inr ⟨by rfl, rfl⟩) c6 ?rbq6
                 try simp only [Act.put, List.setIfInBounds_toArray, List.set_cons_zero, List.set_cons_succ]
                 refine wpAnyH_take (i := 7) (oi := ⟨some 81, _, _, _, _, _⟩) (v := undef) rfl (by kernel_rfl) (by kernel_rfl) (by kernel_rfl) (fun _ _ _ h => h) (Or.inr ⟨by rfl, rfl⟩) c6 ?rbq7
                 try simp only [Act.put, List.setIfInBounds_toArray, List.set_cons_zero, List.set_cons_succ]
                 refine wpAnyH_ready (rs := [8, 9]) (by kernel_rfl) (by simp) ?_
                 refine AllReadyH.cons (o := ⟨some 82, _, _, _, _, _⟩) rfl (fun K' hK' => ?_) (AllReadyH.cons (o := ⟨none, _, _, _, _, _⟩) rfl (fun K' hK' => ?_) AllReadyH.nil)
                 focus
                   go_simp
                   refine hK'.out _ _ c6 (fun _ => ?_)
                   clear hK' K'
                   try simp only [Act.put, List.setIfInBounds_toArray, List.set_cons_zero, List.set_cons_succ]
                   refine wpAnyH_ready (rs := [9]) (by kernel_rfl) (by simp) ?_
                   refine AllReadyH.cons (o := ⟨none, _, _, _, _, _⟩) rfl (fun K' hK' => ?_) AllReadyH.nil
                   go_simp
                   refine hK'.out _ _ (fun i => (cell_setP _ _ hneN i).trans ((cell_setP _ _ hneN i).trans ((cell_setP _ _ hneN i).trans ((cell_setP _ _ hneN i).trans (c6 i))))) (fun _ => ?_)
                   clear hK' K'
                   try simp only [Act.put, List.setIfInBounds_toArray, List.set_cons_zero, List.set_cons_succ]
                   refine wpAnyH_ready (rs := [10]) (by kernel_rfl) (by simp) ?_
                   refine AllReadyH.cons (o := ⟨some 3, _, _, _, _, _⟩) rfl (fun K' hK' => ?_) AllReadyH.nil
                   go_simp
                   refine hK'.out _ _ (fun i => (cell_setP _ _ hneN i).trans ((cell_setP _ _ hneN i).trans ((cell_setP _ _ hneN i).trans ((cell_setP _ _ hneN i).trans (c6 i))))) (fun _ => ?_)
                   clear hK' K'
                   try simp only [Act.put, List.setIfInBounds_toArray, List.set_cons_zero, List.set_cons_succ]
                   refine wpAnyH_done (by kernel_rfl) ?_ _
                 rotate_left 1
                 focus
                   go_simp
                   refine hK'.out _ _ (fun i => (cell_setP _ _ hneN i).trans ((cell_setP _ _ hneN i).trans ((cell_setP _ _ hneN i).trans ((cell_setP _ _ hneN i).trans (c6 i))))) (fun _ => ?_)
                   clear hK' K'
                   try simp only [Act.put, List.setIfInBounds_toArray, List.set_cons_zero, List.set_cons_succ]
                   refine wpAnyH_ready (rs := [8]) (by kernel_rfl) (by simp) ?_
                   refine AllReadyH.cons (o := ⟨some 82, _, _, _, _, _⟩) rfl (fun K' hK' => ?_) AllReadyH.nil
                   go_simp
                   refine hK'.out _ _ (fun i => (cell_setP _ _ hneN i).trans ((cell_setP _ _ hneN i).trans ((cell_setP _ _ hneN i).trans ((cell_setP _ _ hneN i).trans (c6 i))))) (fun _ => ?_)
                   clear hK' K'
                   try simp only [Act.put, List.setIfInBounds_toArray, List.set_cons_zero, List.set_cons_succ]
                   refine wpAnyH_ready (rs := [10]) (by kernel_rfl) (by simp) ?_
                   refine AllReadyH.cons (o := ⟨some 3, _, _, _, _, _⟩) rfl (fun K' hK' => ?_) AllReadyH.nil
                   go_simp
                   refine hK'.out _ _ (fun i => (cell_setP _ _ hneN i).trans ((cell_setP _ _ hneN i).trans ((cell_setP _ _ hneN i).trans ((cell_setP _ _ hneN i).trans (c6 i))))) (fun _ => ?_)
                   clear hK' K'
                   try simp only [Act.put, List.setIfInBounds_toArray, List.set_cons_zero, List.set_cons_succ]
                   refine wpAnyH_done (by kernel_rfl) ?_ _
                 rotate_left 1
                 all_goals
                   have hlt9 : w.heap.size < w6.heap.size := by have := b6.size; omega
                   go_wp2_with fail
                   refine bodyPost_ret (v := .tuple #[.agg #[.int .i64 ra, .int .i64 rx, .int .i64 ry, .slice A acc.length cp], .bool false]) (by simp [results, Tryd.results30, go_sem, q0, hlt9]) rfl ?_
                   exact ⟨⟨ra, rx, ry, acc⟩, A, cp, false, rfl, (((((hOJ.below b6 (Nat.le_refl _)).farT (by dsimp only; omega) _).farT (by dsimp only; omega) _).farT (by dsimp only; omega) _).farT (by dsimp only; omega) _).loT (by omega), (((((h0.trans (hb6.mono (by omega))).setCell (by dsimp only; omega) _).setCell (by dsimp only; omega) _).setCell (by dsimp only; omega) _).setCell (by dsimp only; omega) _), HB.out⟩
               · have HG := Lib.hid hg
                 have GB := Lib.hid (good_bounds hg)
                 by_cases htx : txtL ⟨ra, rx, ry, acc⟩ = s
                 · have HB := Lib.hid (show boardOf s = some ⟨ra, rx, ry, acc⟩ by unfold boardOf; rw [HP.out]; exact parsed_ok hg htx)
                   have HTX : txtB ra rx ry acc = ⟨s.toArray⟩ := by rw [← htx]; rfl
                   clear hg htx
                   go_wp2_with fail
                   refine wp_region_held_drew (S := (fun w' => ∀ i, w'.cell? ⟨N, i, none⟩ = #[.int .i64 ra, .int .i64 rx, .int .i64 ry, .slice A acc.length cp][i]?)) (by kernel_rfl) qN (fun hS => ?_)
                   refine wpAnyH_take (i := 0) (oi := ⟨some 74, _, _, _, _, _⟩) (v := ?vcq1) rfl (by kernel_rfl) (by kernel_rfl) (by kernel_rfl) (fun _ _ _ h => h) (Or.inl ⟨by rfl, ?hcq1⟩) hS ?rcq1
                   case hcq1 => (intro w' hSw; (try dsimp only at hSw); go_simp; (try with_reducible rfl))
                   try simp only [Act.put, List.setIfInBounds_toArray, List.set_cons_zero, List.set_cons_succ]
                   refine wpAnyH_take (i := 1) (oi := ⟨some 75, _, _, _, _, _⟩) (v := ?vcq2) rfl (by kernel_rfl) (by kernel_rfl) (by kernel_rfl) (fun _ _ _ h => h) (Or.inl ⟨by rfl, ?hcq2⟩) hS ?rcq2
                   case hcq2 => (intro w' hSw; (try dsimp only at hSw); go_simp; (try with_reducible rfl))
                   try simp only [Act.put, List.setIfInBounds_toArray, List.set_cons_zero, List.set_cons_succ]
                   refine wpAnyH_ready (rs := [2]) (by kernel_rfl) (by simp) ?_
                   refine AllReadyH.cons (o := ⟨some 76, _, _, _, _, _⟩) rfl (fun K' hK' => ?_) AllReadyH.nil
                   go_simp
                   go_at_call 37
                   refine (sqGood_any _ _ _ _ _ _ _ (hRJ.go ((Below.refl _ _).drew))).mono ?_
                   rintro e w6 ⟨rfl, hx6⟩
                   rw [HG.out]
                   have c6 := cell_atT hx6 hltN hNk
                   have b6 : Below wr.heap.size wr w6 := (Below.refl _ _).drew.trans hx6
                   have hb6 := hb.trans (b6.mono (by have := hb.size; omega))
                   have q0 := cell_atT hb6 (by omega) k0
                   have f0 := free_atT hb6 (by omega) k0
                   refine hK'.out _ _ c6 (fun _ => ?_)
                   clear hK' K'
                   try simp only [Act.put, List.setIfInBounds_toArray, List.set_cons_zero, List.set_cons_succ]
                   refine wpAnyH_take (i := 3) (oi := ⟨some 77, _, _, _, _, _⟩) (v := ?vcq3) rfl (by kernel_rfl) (by kernel_rfl) (by kernel_rfl) (fun _ _ _ h => h) (Or.inl ⟨by rfl, ?hcq3⟩) c6 ?rcq3
                   case hcq3 => (intro w' hSw; (try dsimp only at hSw); go_simp; (try with_reducible rfl))
                   try simp only [Act.put, List.setIfInBounds_toArray, List.set_cons_zero, List.set_cons_succ]
                   refine wpAnyH_take (i := 4) (oi := ⟨some 78, _, _, _, _, _⟩) (v := ?vcq4) rfl (by kernel_rfl) (by kernel_rfl) (by kernel_rfl) (fun _ _ _ h => h) (Or.inl ⟨by rfl, ?hcq4⟩) c6 ?rcq4
                   case hcq4 => (intro w' hSw; (try dsimp only at hSw); go_simp; (try with_reducible rfl))
                   try simp only [Act.put, List.setIfInBounds_toArray, List.set_cons_zero, List.set_cons_succ]
                   refine wpAnyH_take (i := 6) (oi := ⟨some 80, _, _, _, _, _⟩) (v := ?vcq5) rfl (by kernel_rfl) (by kernel_rfl) (by kernel_rfl) (fun _ _ _ h => h) (Or.inl ⟨by rfl, ?hcq5⟩) c6 ?rcq5
                   case hcq5 => (intro w' hSw; (try dsimp only at hSw); go_simp; (try with_reducible rfl))
                   try simp only [Act.put, List.setIfInBounds_toArray, List.set_cons_zero, List.set_cons_succ]
                   refine wpAnyH_ready (rs := [5]) (by kernel_rfl) (by simp) ?_
                   refine AllReadyH.cons (o := ⟨some 79, _, _, _, _, _⟩) rfl (fun K' hK' => ?_) AllReadyH.nil
                   go_simp
                   go_at_call 40
                   refine (sqText_any _ _ _ _ _ _ _ (hRJ.go b6) GB.out.1 GB.out.2.1 GB.out.2.2.1 GB.out.2.2.2).mono ?_
                   rintro e w7 ⟨rfl, hx7⟩
                   rw [HTX]
                   have b7 : Below wr.heap.size wr w7 := b6.trans (hx7.mono b6.size)
                   have hb7 := hb.trans (b7.mono (by have := hb.size; omega))
                   have c7 := cell_atT b7 hltN hNk
                   clear q0 f0
                   have q0 := cell_atT hb7 (by omega) k0
                   have f0 := free_atT hb7 (by omega) k0
                   refine hK'.out _ _ c7 (fun _ => ?_)
                   clear hK' K'
                   try simp only [Act.put, List.setIfInBounds_toArray, List.set_cons_zero, List.set_cons_succ]
                   refine wpAnyH_take (i := 7) (oi := ⟨some 81, _, _, _, _, _⟩) (v := ?vcq6) rfl (by kernel_rfl) (by kernel_rfl) (by kernel_rfl) (fun _ _ _ h => h) (Or.inl ⟨by rfl, ?hcq6⟩) c7 ?rcq6
                   case hcq6 => (intro w' hSw; (try dsimp only at hSw); go_simp; (try with_reducible rfl))
                   try simp only [Act.put, List.setIfInBounds_toArray, List.set_cons_zero, List.set_cons_succ]
                   refine wpAnyH_ready (rs := [8, 9]) (by kernel_rfl) (by simp) ?_
                   refine AllReadyH.cons (o := ⟨some 82, _, _, _, _, _⟩) rfl (fun K' hK' => ?_) (AllReadyH.cons (o := ⟨none, _, _, _, _, _⟩) rfl (fun K' hK' => ?_) AllReadyH.nil)
                   focus
                     go_simp
                     refine hK'.out _ _ c7 (fun _ => ?_)
                     clear hK' K'
                     try simp only [Act.put, List.setIfInBounds_toArray, List.set_cons_zero, List.set_cons_succ]
                     refine wpAnyH_ready (rs := [9]) (by kernel_rfl) (by simp) ?_
                     refine AllReadyH.cons (o := ⟨none, _, _, _, _, _⟩) rfl (fun K' hK' => ?_) AllReadyH.nil
                     go_simp
                     refine hK'.out _ _ (fun i => (cell_setP _ _ hneN i).trans ((cell_setP _ _ hneN i).trans ((cell_setP _ _ hneN i).trans ((cell_setP _ _ hneN i).trans (c7 i))))) (fun _ => ?_)
                     clear hK' K'
                     try simp only [Act.put, List.setIfInBounds_toArray, List.set_cons_zero, List.set_cons_succ]
                     refine wpAnyH_ready (rs := [10]) (by kernel_rfl) (by simp) ?_
                     refine AllReadyH.cons (o := ⟨some 3, _, _, _, _, _⟩) rfl (fun K' hK' => ?_) AllReadyH.nil
                     go_simp
                     refine hK'.out _ _ (fun i => (cell_setP _ _ hneN i).trans ((cell_setP _ _ hneN i).trans ((cell_setP _ _ hneN i).trans ((cell_setP _ _ hneN i).trans (c7 i))))) (fun _ => ?_)
                     clear hK' K'
                     try simp only [Act.put, List.setIfInBounds_toArray, List.set_cons_zero, List.set_cons_succ]
                     refine wpAnyH_done (by kernel_rfl) ?_ _
                   rotate_left 1
                   focus
                     go_simp
                     refine hK'.out _ _ (fun i => (cell_setP _ _ hneN i).trans ((cell_setP _ _ hneN i).trans ((cell_setP _ _ hneN i).trans ((cell_setP _ _ hneN i).trans (c7 i))))) (fun _ => ?_)
                     clear hK' K'
                     try simp only [Act.put, List.setIfInBounds_toArray, List.set_cons_zero, List.set_cons_succ]
                     refine wpAnyH_ready (rs := [8]) (by kernel_rfl) (by simp) ?_
                     refine AllReadyH.cons (o := ⟨some 82, _, _, _, _, _⟩) rfl (fun K' hK' => ?_) AllReadyH.nil
                     go_simp
                     refine hK'.out _ _ (fun i => (cell_setP _ _ hneN i).trans ((cell_setP _ _ hneN i).trans ((cell_setP _ _ hneN i).trans ((cell_setP _ _ hneN i).trans (c7 i))))) (fun _ => ?_)
                     clear hK' K'
                     try simp only [Act.put, List.setIfInBounds_toArray, List.set_cons_zero, List.set_cons_succ]
                     refine wpAnyH_ready (rs := [10]) (by kernel_rfl) (by simp) ?_
                     refine AllReadyH.cons (o := ⟨some 3, _, _, _, _, _⟩) rfl (fun K' hK' => ?_) AllReadyH.nil
                     go_simp
                     refine hK'.out _ _ (fun i => (cell_setP _ _ hneN i).trans ((cell_setP _ _ hneN i).trans ((cell_setP _ _ hneN i).trans ((cell_setP _ _ hneN i).trans (c7 i))))) (fun _ => ?_)
                     clear hK' K'
                     try simp only [Act.put, List.setIfInBounds_toArray, List.set_cons_zero, List.set_cons_succ]
                     refine wpAnyH_done (by kernel_rfl) ?_ _
                   rotate_left 1
                   all_goals
                     have hlt9 : w.heap.size < w7.heap.size := by have := b7.size; omega
                     go_wp2_with fail
                     refine bodyPost_ret (v := .tuple #[.agg #[.int .i64 ra, .int .i64 rx, .int .i64 ry, .slice A acc.length cp], .bool true]) (by simp [results, Tryd.results30, go_sem, q0, hlt9]) rfl ?_
                     exact ⟨⟨ra, rx, ry, acc⟩, A, cp, true, rfl, (((((hOJ.below b7 (Nat.le_refl _)).farT (by dsimp only; omega) _).farT (by dsimp only; omega) _).farT (by dsimp only; omega) _).farT (by dsimp only; omega) _).loT (by omega), (((((h0.trans (hb7.mono (by omega))).setCell (by dsimp only; omega) _).setCell (by dsimp only; omega) _).setCell (by dsimp only; omega) _).setCell (by dsimp only; omega) _), HB.out⟩
                 · have HB := Lib.hid (show boardOf s = none by unfold boardOf; rw [HP.out]; simp [parsed, htx])
                   have hne : ((txtB ra rx ry acc).toList == s) = false := by
                     rw [beq_eq_false_iff_ne]
                     intro e
                     apply htx
                     rw [show txtB ra rx ry acc = ⟨(txtL ⟨ra, rx, ry, acc⟩).toArray⟩ from rfl] at e
                     simpa using e
                   clear hg htx
                   go_wp2_with fail
                   refine wp_region_held_drew (S := (fun w' => ∀ i, w'.cell? ⟨N, i, none⟩ = #[.int .i64 ra, .int .i64 rx, .int .i64 ry, .slice A acc.length cp][i]?)) (by kernel_rfl) qN (fun hS => ?_)
                   refine wpAnyH_take (i := 0) (oi := ⟨some 74, _, _, _, _, _⟩) (v := ?vdq1) rfl (by kernel_rfl) (by kernel_rfl) (by kernel_rfl) (fun _ _ _ h => h) (Or.inl ⟨by rfl, ?hdq1⟩) hS ?rdq1
                   case hdq1 => (intro w' hSw; (try dsimp only at hSw); go_simp; (try with_reducible rfl))
                   try simp only [Act.put, List.setIfInBounds_toArray, List.set_cons_zero, List.set_cons_succ]
                   refine wpAnyH_take (i := 1) (oi := ⟨some 75, _, _, _, _, _⟩) (v := ?vdq2) rfl (by kernel_rfl) (by kernel_rfl) (by kernel_rfl) (fun _ _ _ h => h) (Or.inl ⟨by rfl, ?hdq2⟩) hS ?rdq2
                   case hdq2 => (intro w' hSw; (try dsimp only at hSw); go_simp; (try with_reducible rfl))
                   try simp only [Act.put, List.setIfInBounds_toArray, List.set_cons_zero, List.set_cons_succ]
                   refine wpAnyH_ready (rs := [2]) (by kernel_rfl) (by simp) ?_
                   refine AllReadyH.cons (o := ⟨some 76, _, _, _, _, _⟩) rfl (fun K' hK' => ?_) AllReadyH.nil
                   go_simp
                   go_at_call 37
                   refine (sqGood_any _ _ _ _ _ _ _ (hRJ.go ((Below.refl _ _).drew))).mono ?_
                   rintro e w6 ⟨rfl, hx6⟩
                   rw [HG.out]
                   have c6 := cell_atT hx6 hltN hNk
                   have b6 : Below wr.heap.size wr w6 := (Below.refl _ _).drew.trans hx6
                   have hb6 := hb.trans (b6.mono (by have := hb.size; omega))
                   have q0 := cell_atT hb6 (by omega) k0
                   have f0 := free_atT hb6 (by omega) k0
                   refine hK'.out _ _ c6 (fun _ => ?_)
                   clear hK' K'
                   try simp only [Act.put, List.setIfInBounds_toArray, List.set_cons_zero, List.set_cons_succ]
                   refine wpAnyH_take (i := 3) (oi := ⟨some 77, _, _, _, _, _⟩) (v := ?vdq3) rfl (by kernel_rfl) (by kernel_rfl) (by kernel_rfl) (fun _ _ _ h => h) (Or.inl ⟨by rfl, ?hdq3⟩) c6 ?rdq3
                   case hdq3 => (intro w' hSw; (try dsimp only at hSw); go_simp; (try with_reducible rfl))
                   try simp only [Act.put, List.setIfInBounds_toArray, List.set_cons_zero, List.set_cons_succ]
                   refine wpAnyH_take (i := 4) (oi := ⟨some 78, _, _, _, _, _⟩) (v := ?vdq4) rfl (by kernel_rfl) (by kernel_rfl) (by kernel_rfl) (fun _ _ _ h => h) (Or.inl ⟨by rfl, ?hdq4⟩) c6 ?rdq4
                   case hdq4 => (intro w' hSw; (try dsimp only at hSw); go_simp; (try with_reducible rfl))
                   try simp only [Act.put, List.setIfInBounds_toArray, List.set_cons_zero, List.set_cons_succ]
                   refine wpAnyH_take (i := 6) (oi := ⟨some 80, _, _, _, _, _⟩) (v := ?vdq5) rfl (by kernel_rfl) (by kernel_rfl) (by kernel_rfl) (fun _ _ _ h => h) (Or.inl ⟨by rfl, ?hdq5⟩) c6 ?rdq5
                   case hdq5 => (intro w' hSw; (try dsimp only at hSw); go_simp; (try with_reducible rfl))
                   try simp only [Act.put, List.setIfInBounds_toArray, List.set_cons_zero, List.set_cons_succ]
                   refine wpAnyH_ready (rs := [5]) (by kernel_rfl) (by simp) ?_
                   refine AllReadyH.cons (o := ⟨some 79, _, _, _, _, _⟩) rfl (fun K' hK' => ?_) AllReadyH.nil
                   go_simp
                   go_at_call 40
                   refine (sqText_any _ _ _ _ _ _ _ (hRJ.go b6) GB.out.1 GB.out.2.1 GB.out.2.2.1 GB.out.2.2.2).mono ?_
                   rintro e w7 ⟨rfl, hx7⟩
                   skip
                   have b7 : Below wr.heap.size wr w7 := b6.trans (hx7.mono b6.size)
                   have hb7 := hb.trans (b7.mono (by have := hb.size; omega))
                   have c7 := cell_atT b7 hltN hNk
                   clear q0 f0
                   have q0 := cell_atT hb7 (by omega) k0
                   have f0 := free_atT hb7 (by omega) k0
                   refine hK'.out _ _ c7 (fun _ => ?_)
                   clear hK' K'
                   try simp only [Act.put, List.setIfInBounds_toArray, List.set_cons_zero, List.set_cons_succ]
                   refine wpAnyH_take (i := 7) (oi := ⟨some 81, _, _, _, _, _⟩) (v := ?vdq6) rfl (by kernel_rfl) (by kernel_rfl) (by kernel_rfl) (fun _ _ _ h => h) (Or.inl ⟨by rfl, ?hdq6⟩) c7 ?rdq6
                   case hdq6 => (intro w' hSw; (try dsimp only at hSw); go_simp; (try with_reducible rfl))
                   try simp only [Act.put, List.setIfInBounds_toArray, List.set_cons_zero, List.set_cons_succ]
                   refine wpAnyH_ready (rs := [8, 9]) (by kernel_rfl) (by simp) ?_
                   refine AllReadyH.cons (o := ⟨some 82, _, _, _, _, _⟩) rfl (fun K' hK' => ?_) (AllReadyH.cons (o := ⟨none, _, _, _, _, _⟩) rfl (fun K' hK' => ?_) AllReadyH.nil)
                   focus
                     go_simp
                     refine hK'.out _ _ c7 (fun _ => ?_)
                     clear hK' K'
                     try simp only [Act.put, List.setIfInBounds_toArray, List.set_cons_zero, List.set_cons_succ]
                     refine wpAnyH_ready (rs := [9]) (by kernel_rfl) (by simp) ?_
                     refine AllReadyH.cons (o := ⟨none, _, _, _, _, _⟩) rfl (fun K' hK' => ?_) AllReadyH.nil
                     go_simp
                     refine hK'.out _ _ (fun i => (cell_setP _ _ hneN i).trans ((cell_setP _ _ hneN i).trans ((cell_setP _ _ hneN i).trans ((cell_setP _ _ hneN i).trans (c7 i))))) (fun _ => ?_)
                     clear hK' K'
                     try simp only [Act.put, List.setIfInBounds_toArray, List.set_cons_zero, List.set_cons_succ]
                     refine wpAnyH_ready (rs := [10]) (by kernel_rfl) (by simp) ?_
                     refine AllReadyH.cons (o := ⟨some 3, _, _, _, _, _⟩) rfl (fun K' hK' => ?_) AllReadyH.nil
                     go_simp
                     refine hK'.out _ _ (fun i => (cell_setP _ _ hneN i).trans ((cell_setP _ _ hneN i).trans ((cell_setP _ _ hneN i).trans ((cell_setP _ _ hneN i).trans (c7 i))))) (fun _ => ?_)
                     clear hK' K'
                     try simp only [Act.put, List.setIfInBounds_toArray, List.set_cons_zero, List.set_cons_succ]
                     refine wpAnyH_done (by kernel_rfl) ?_ _
                   rotate_left 1
                   focus
                     go_simp
                     refine hK'.out _ _ (fun i => (cell_setP _ _ hneN i).trans ((cell_setP _ _ hneN i).trans ((cell_setP _ _ hneN i).trans ((cell_setP _ _ hneN i).trans (c7 i))))) (fun _ => ?_)
                     clear hK' K'
                     try simp only [Act.put, List.setIfInBounds_toArray, List.set_cons_zero, List.set_cons_succ]
                     refine wpAnyH_ready (rs := [8]) (by kernel_rfl) (by simp) ?_
                     refine AllReadyH.cons (o := ⟨some 82, _, _, _, _, _⟩) rfl (fun K' hK' => ?_) AllReadyH.nil
                     go_simp
                     refine hK'.out _ _ (fun i => (cell_setP _ _ hneN i).trans ((cell_setP _ _ hneN i).trans ((cell_setP _ _ hneN i).trans ((cell_setP _ _ hneN i).trans (c7 i))))) (fun _ => ?_)
                     clear hK' K'
                     try simp only [Act.put, List.setIfInBounds_toArray, List.set_cons_zero, List.set_cons_succ]
                     refine wpAnyH_ready (rs := [10]) (by kernel_rfl) (by simp) ?_
                     refine AllReadyH.cons (o := ⟨some 3, _, _, _, _, _⟩) rfl (fun K' hK' => ?_) AllReadyH.nil
                     go_simp
                     refine hK'.out _ _ (fun i => (cell_setP _ _ hneN i).trans ((cell_setP _ _ hneN i).trans ((cell_setP _ _ hneN i).trans ((cell_setP _ _ hneN i).trans (c7 i))))) (fun _ => ?_)
                     clear hK' K'
                     try simp only [Act.put, List.setIfInBounds_toArray, List.set_cons_zero, List.set_cons_succ]
                     refine wpAnyH_done (by kernel_rfl) ?_ _
                   rotate_left 1
                   all_goals
                     have hlt9 : w.heap.size < w7.heap.size := by have := b7.size; omega
                     go_wp2_with fail
                     refine bodyPost_ret (v := .tuple #[.agg #[.int .i64 ra, .int .i64 rx, .int .i64 ry, .slice A acc.length cp], .bool false]) (by simp [results, Tryd.results30, go_sem, q0, hlt9]) rfl ?_
                     exact ⟨⟨ra, rx, ry, acc⟩, A, cp, false, rfl, (((((hOJ.below b7 (Nat.le_refl _)).farT (by dsimp only; omega) _).farT (by dsimp only; omega) _).farT (by dsimp only; omega) _).farT (by dsimp only; omega) _).loT (by omega), (((((h0.trans (hb7.mono (by omega))).setCell (by dsimp only; omega) _).setCell (by dsimp only; omega) _).setCell (by dsimp only; omega) _).setCell (by dsimp only; omega) _), HB.out⟩
      · have HB := Lib.hid (show boardOf s = none by
          unfold boardOf
          rw [hS]
          split
          · rename_i h; rw [h] at hn3; simp at hn3
          · rfl)
        have hn3' : (((splitL 47 r).length : Int) != 2) = true := by simp; omega
        clear hsp hn3
        have q0 := cell_atT hb3 (by omega) k0
        have f0 := free_atT hb3 (by omega) k0
        have hb1 := h0.trans (hb3.mono (by omega))
        have hlt0 : w.heap.size < w3.heap.size := by have := hb3.size; omega
        go_wp2_with fail
        refine bodyPost_ret (v := .tuple #[.agg #[.int .i64 0, .int .i64 0, .int .i64 0, .slice none 0 0], .bool false]) (by simp [results, Tryd.results30, go_sem, q0, hlt0]) rfl ?_
        exact ⟨⟨0, 0, 0, []⟩, none, 0, false, rfl, .inl rfl, (((hb1.setCell (by dsimp only; omega) _).setCell (by dsimp only; omega) _).setCell (by dsimp only; omega) _).setCell (by dsimp only; omega) _, HB.out⟩
    · have HB := Lib.hid (show boardOf s = none by
        unfold boardOf
        rw [hS]
        split
        · rename_i h; rw [h] at hn2; simp at hn2
        · rfl)
      have hn2' : (((splitL 100 p).length : Int) != 2) = true := by simp; omega
      clear hsp hn2
      have q0 := cell_atT hb2 (by omega) k0
      have f0 := free_atT hb2 (by omega) k0
      have hb1 := h0.trans (hb2.mono (by omega))
      have hlt0 : w.heap.size < w2.heap.size := by have := hb2.size; omega
      go_wp2_with fail
      refine bodyPost_ret (v := .tuple #[.agg #[.int .i64 0, .int .i64 0, .int .i64 0, .slice none 0 0], .bool false]) (by simp [results, Tryd.results30, go_sem, q0, hlt0]) rfl ?_
      exact ⟨⟨0, 0, 0, []⟩, none, 0, false, rfl, .inl rfl, (((hb1.setCell (by dsimp only; omega) _).setCell (by dsimp only; omega) _).setCell (by dsimp only; omega) _).setCell (by dsimp only; omega) _, HB.out⟩
end Go.Proofs.YtbblmbibddjedacDoor

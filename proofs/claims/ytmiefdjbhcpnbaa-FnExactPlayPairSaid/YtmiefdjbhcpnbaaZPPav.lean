/- Several texts, one behind the other: C5zs C5zt C5zu C5zv. -/
import Derived.Deep.CutRange
import Derived.ChangeKeysEq
import Derived.Test.YtmiefdjbhcpnbaaZPPau

namespace Go.Proofs.Ytmiefdjbhcpnbaa
open Go.RowKit

set_option maxRecDepth 100000 in
set_option maxHeartbeats 1000000 in
theorem bestPath_no (s f a b : Int) (A : Option Addr) (n c : Nat) (w : World) (hp : pairOk s f a b = false) :
    Calls Try.prog 29 #[.int .i64 s, .int .i64 f, .int .i64 a, .int .i64 b, .slice A n c] w fun e w' => e = .returned (.tuple #[.slice none 0 0, .bool false]) ∧ Below w.heap.size w w' := by
  have HC := Lib.hid (fun W => bestPlan_no s f a b W hp)
  clear hp
  go_enter Try.func29, Try.ntmps29
  go_wp2_with fail
  refine (HC.out _).mono ?_
  rintro e w2 ⟨rfl, hx⟩
  have kz : (w2.alloc (.cells Try.zeroCells82 82)).heap[w2.heap.size]? = some (.cells Try.zeroCells82 82 (0, 0)) := heap_alloc_at _ _ _ rfl
  go_wp2_with (refine wpList_store_row rfl 82 (.tmp 12) (.tmp 24) rfl w2.heap.size rfl 82 Try.zeroCells82 Try.zeroCells82 rfl kz ?_ ?_ planZero_one ?_; rfl; (rw [planZero_size]; exact sizePlan); intro w3 hC3 hg3 hs3)
  exact bodyPost_ret (v := .tuple #[.slice none 0 0, .bool false]) (by simp [results, Try.results29]) rfl ⟨rfl, (hx.alloc hx.size _).grown hg3 (by have := hx.size; simp; omega) (fun i h => by cases h; exact hx.size)⟩
set_option maxRecDepth 100000 in
set_option maxHeartbeats 1000000 in
theorem bestPath_bad (s f a b : Nat) (A : Option Addr) (c : Nat) (xs : List Int) (w : World) (hx : RI w w.heap.size A xs) (hp : pairOk s f a b = true) (hs1 : 1 ≤ s) (hs : s ≤ 6) (hf1 : 1 ≤ f) (hf : f ≤ 4) (hbad : playOk s f a b xs = false) :
    Calls Try.prog 29 #[.int .i64 s, .int .i64 f, .int .i64 a, .int .i64 b, .slice A xs.length c] w fun e w' => e = .returned (.tuple #[.slice none 0 0, .bool false]) ∧ Below w.heap.size w w' := by
  obtain ⟨T, hT⟩ : ∃ T, T = bT true s f := ⟨_, rfl⟩
  have HC := Lib.hid (fun W => bestPlan_yes s f a b T hT W hp hs1 hs hf1 hf)
  have hl := hx.1
  have hcase : 60 < xs.length ∨ xs.length ≤ 60 ∧ throwsOkP f xs = false := by
    unfold playOk at hbad
    rw [hp, Bool.true_and] at hbad
    by_cases h : xs.length ≤ 60
    · rw [decide_eq_true h, Bool.true_and] at hbad
      exact .inr ⟨h, by unfold throwsOkP; rw [hbad, Bool.and_false]⟩
    · exact .inl (by omega)
  clear hT hp hs1 hs hf1 hf hbad
  rcases hcase with h | ⟨h, hth⟩
  all_goals
    go_enter Try.func29, Try.ntmps29
    go_wp2_with fail
    refine (HC.out _).mono ?_
    rintro e w2 ⟨rfl, hx2⟩
    have kz : (w2.alloc (.cells Try.zeroCells82 82)).heap[w2.heap.size]? = some (.cells Try.zeroCells82 82 (0, 0)) := heap_alloc_at _ _ _ rfl
  · have h' : (60 : Int) < xs.length := by omega
    go_wp2_with (refine wpList_store_row rfl 82 (.tmp 12) (.tmp 24) rfl w2.heap.size rfl 82 Try.zeroCells82 (planC s f shortV (allT T s)) rfl kz ?_ ?_ (planC_one _ _ _ _ rfl) ?_; (rw [planZero_size, planC_size]); (rw [planC_size]; exact sizePlan); intro w3 hC3 hg3 hs3; have hP3 : PA w3 w2.heap.size 82 s f shortV (allT T s) := hC3)
    exact bodyPost_ret (v := .tuple #[.slice none 0 0, .bool false]) (by simp [results, Try.results29]) rfl ⟨rfl, (hx2.alloc hx2.size _).grown hg3 (by have := hx2.size; simp; omega) (fun i h => by cases h; exact hx2.size)⟩
  · have h' : ¬ (60 : Int) < xs.length := by omega
    have HT := Lib.hid hth
    clear hth
    go_wp2_with (first | (refine wpList_store_row rfl 82 (.tmp 12) (.tmp 24) rfl w2.heap.size rfl 82 Try.zeroCells82 (planC s f shortV (allT T s)) rfl kz ?_ ?_ (planC_one _ _ _ _ rfl) ?_; (rw [planZero_size, planC_size]); (rw [planC_size]; exact sizePlan); intro w3 hC3 hg3 hs3; have hP3 : PA w3 w2.heap.size 82 s f shortV (allT T s) := hC3; have hB3 : Below w.heap.size w w3 := (hx2.alloc hx2.size _).grown hg3 (by have := hx2.size; simp; omega) (fun i h => by cases h; exact hx2.size)) | (go_at_call 42; refine (hasThrows_pair _ _ _ _ _ _ _ _ _ hP3.cv (hx.go hB3)).mono ?_; rintro e w4 ⟨rfl, rfl⟩; rw [HT.out]))
    exact bodyPost_ret (v := .tuple #[.slice none 0 0, .bool false]) (by simp [results, Try.results29]) rfl ⟨rfl, hB3⟩
end Go.Proofs.Ytmiefdjbhcpnbaa

namespace Go.Proofs.Ytmiefdjbhcpnbaa
open Go.RowKit

theorem own_lo {w : World} {base base' : Nat} {e : TypeId} {size : Nat} {v : Value} {n : Nat} {xs : List Value} (h : w.ownsRow base e size v n xs) (hb : base' ≤ base) : w.ownsRow base' e size v n xs :=
  ⟨h.1, h.2.imp id fun ⟨g, cap, cur, e1, h1, h2⟩ => ⟨g, cap, cur, e1, Nat.le_trans hb h1, h2⟩⟩
theorem infoBo1 : (Try.prog.info? 56).map (fun i => (i.zero, i.size, i.bytes)) = some (some (.agg #[.int .i64 0, .int .i64 0]), 2, 16) := by kernel_rfl
theorem one_pair (x y : Int) : ∀ u ∈ [Value.int .i64 x, .int .i64 y], u.oneCell' = true := by intro u hu; simp at hu; rcases hu with rfl | rfl <;> rfl
theorem own_new2 (w : World) (u v : Value) (t : TypeId) (base : Nat) {g : Nat} (hg : g = w.heap.size) (hb : base ≤ g) : (w.alloc (.cells #[u, v] t)).ownsRow base t 2 (.slice (some ⟨g, 0, none⟩) 1 1) 1 [u, v] := by
  subst hg
  exact ⟨rfl, .inr ⟨w.heap.size, 1, #[u, v], rfl, hb, heap_alloc_at _ _ _ rfl, Nat.le_refl _, by decide, rfl, rfl⟩⟩
theorem sizeBoth : (Try.prog.info? 56).map (·.size) = some 2 := by kernel_rfl
theorem cell_newP (w : World) (u v : Value) (t : TypeId) : ∀ (j : Nat) x, [u, v][j]? = some x → (w.alloc (.cells #[u, v] t)).cell? ((⟨w.heap.size, 0, none⟩ : Addr).add j) = some x := by
  intro j x h
  match j, h with
  | 0, h => simp at h; subst h; simp [Addr.add, World.cell?_alloc_at _ _ _ _ rfl]
  | 1, h => simp at h; subst h; simp [Addr.add, World.cell?_alloc_at _ _ _ _ rfl]
theorem cell_newQ (w : World) (u v : Value) (t : TypeId) {g : Nat} (hg : g = w.heap.size) : ∀ (j : Nat) x, [u, v][j]? = some x → (w.alloc (.cells #[u, v] t)).cell? ((⟨g, 0, none⟩ : Addr).add j) = some x := by subst hg; exact cell_newP _ _ _ _
theorem flat_snocP (l : List Fr) (r : Fr) : flatJ (frJ (l ++ [r])) = flatJ (frJ l) ++ [.int .i64 (r.1 : Nat), .int .i64 (r.2 : Nat)] := by simp [frJ, flatJ]
/-- The world behind the plan: what the rest of bestPath needs of it. -/
def PlanAt (w : World) (g s f : Nat) (T : Tab) : Prop := PA w g 82 s f shortV (allT T s)
theorem PlanAt.below {w w' : World} {g s f : Nat} {T : Tab} (h : PlanAt w g s f T) {B : Nat} (hb : Below B w w') (hg : g < B) : PlanAt w' g s f T := (hb.block g hg).trans h
set_option maxRecDepth 100000 in
set_option maxHeartbeats 2000000 in
theorem bestPath_yes (s f a b : Nat) (A : Option Addr) (c : Nat) (fs : List Nat) (xs : List Int) (hxs : xs = fs.map fun n : Nat => (n : Int)) (T : Tab) (hT : T = bT true s f) (w : World) (hx : RI w w.heap.size A xs) (hp : pairOk s f a b = true) (hs1 : 1 ≤ s) (hs : s ≤ 6) (hf1 : 1 ≤ f) (hf : f ≤ 4) (ha : a ≤ s) (hb : b ≤ s) (hlen : fs.length ≤ 60) (hfs : ∀ n ∈ fs, 1 ≤ n ∧ n ≤ f) :
    Calls Try.prog 29 #[.int .i64 s, .int .i64 f, .int .i64 a, .int .i64 b, .slice A xs.length c] w fun e w' =>
      ∃ v, e = .returned (.tuple #[v, .bool true]) ∧ w'.ownsRow w.heap.size 56 2 v (fs.length + 1) (flatJ (frJ (pathP (allT T s) s (a, b) fs))) ∧ Below w.heap.size w w' := by
  obtain ⟨i0, hi, hz0, hz1, hz2⟩ := info_parts infoBo1
  have HC := Lib.hid (fun W => bestPlan_yes s f a b T hT W hp hs1 hs hf1 hf)
  have HBE := Lib.hid (show ∀ (g x y face : Nat) (w : World), PlanAt w g s f T → x ≤ s → y ≤ s → 1 ≤ face → face ≤ f → Calls Try.prog 43 #[.pointer (some ⟨g, 0, none⟩), .agg #[.int .i64 x, .int .i64 y], .int .i64 face] w fun e w' => e = .returned (.agg #[.int .i64 ((nextP (allT T s) s (x, y) face).1 : Nat), .int .i64 ((nextP (allT T s) s (x, y) face).2 : Nat)]) ∧ Below w.heap.size w w' from fun g x y face w hP hx hy h1 h2 =>
    behindP_any g s f x y face (allT T s) w hP (allT_small (by rw [hT]; exact bT_small (l := true) hs1 hs hf1 hf)) hs hx hy h1 (by omega) (fun e1 e2 => by rw [hT]; exact bT_goodA hs1 hs hf1 hf h1 h2 e1 e2))
  have hl := hx.1
  have hxl : xs.length = fs.length := by rw [hxs, List.length_map]
  have hth : throwsOkP f xs = true := by
    unfold throwsOkP
    rw [decide_eq_true (by omega), Bool.true_and, List.all_eq_true]
    intro x h
    rw [hxs, List.mem_map] at h
    obtain ⟨n, hn, rfl⟩ := h
    have := hfs n hn
    exact inB_iff.2 (by omega)
  have h' : ¬ (60 : Int) < xs.length := by omega
  have hl60 : xs.length ≤ 60 := by omega
  have HT := Lib.hid hth
  have HXS := Lib.hid hxs
  have HFS := Lib.hid hfs
  have HXL := Lib.hid hxl
  clear hT hp hth hxs hfs hxl
  go_enter Try.func29, Try.ntmps29
  go_wp2_with fail
  refine (HC.out _).mono ?_
  rintro e w2 ⟨rfl, hx2⟩
  have kz : (w2.alloc (.cells Try.zeroCells82 82)).heap[w2.heap.size]? = some (.cells Try.zeroCells82 82 (0, 0)) := heap_alloc_at _ _ _ rfl
  go_upto_region 4 with (first | (refine wpList_store_row rfl 82 (.tmp 12) (.tmp 24) rfl w2.heap.size rfl 82 Try.zeroCells82 (planC s f shortV (allT T s)) rfl kz ?_ ?_ (planC_one _ _ _ _ rfl) ?_; (rw [planZero_size, planC_size]); (rw [planC_size]; exact sizePlan); intro w3 hC3 hg3 hs3; have hP3 : PA w3 w2.heap.size 82 s f shortV (allT T s) := hC3; have hB3 : Below w.heap.size w w3 := (hx2.alloc hx2.size _).grown hg3 (by have := hx2.size; simp; omega) (fun i h => by cases h; exact hx2.size)) | (go_at_call 42; refine (hasThrows_pair _ _ _ _ _ _ _ _ _ hP3.cv (hx.go hB3)).mono ?_; rintro e w4 ⟨rfl, rfl⟩; rw [HT.out]))
  have hP : PlanAt w3 w2.heap.size s f T := hP3
  have hlw : w2.heap.size < w3.heap.size := heap_lt hP3
  have hgw0' := hx2.size
  clear hP3 hC3 hg3 kz hx2 HC HT
  obtain ⟨g, hg⟩ : ∃ g, g = w2.heap.size := ⟨_, rfl⟩
  rw [← hg] at hP hlw ⊢
  obtain ⟨PV, hPV⟩ : ∃ PV, PV = planC s f shortV (allT T s) := ⟨_, rfl⟩
  rw [← hPV]
  have hgw0 : w.heap.size ≤ g := by rw [hg]; exact hgw0'
  clear hPV hg hs3
  have HP0 := Lib.hid hP
  clear hP
  go_wp2
  go_loopw [15, 46] (fun v i wr => ∃ k : Nat, k ≤ xs.length ∧ i = .int .i64 (k : Int) ∧ Below w3.heap.size w3 wr ∧ wr.heap[w3.heap.size]? = some (.cells #[.int .i64 ((endP (allT T s) s (a, b) (fs.take k)).1 : Nat), .int .i64 ((endP (allT T s) s (a, b) (fs.take k)).2 : Nat)] 56 (0, 0)) ∧ wr.ownsRow (w3.heap.size + 1) 56 2 v (k + 1) (flatJ (frJ (pathP (allT T s) s (a, b) (fs.take k))))) (fun _ i _ => xs.length - (intOf i).toNat)
  case atStart => exact ⟨0, Nat.zero_le _, rfl, below2 _ _ _, (Below.heap_alloc _ _ _ (by simp)).trans (heap_alloc_at _ _ _ rfl), own_new2 _ _ _ _ _ (by simp) (Nat.le_refl _)⟩
  case round =>
    obtain ⟨k, hk, rfl, hB, k1, hown⟩ := hrel
    have hlr := heap_lt k1
    have hPr : PlanAt wr g s f T := HP0.out.below hB hlw
    have q1 := fun i => cell_of_row wr w3.heap.size i _ _ _ k1
    by_cases hlt : k < xs.length
    · obtain ⟨bb, off, rfl, hbw, c1⟩ := (hx.go hB3).at_ hB hlt
      have hkf : k < fs.length := by rw [← HXL.out]; exact hlt
      have hxk : xs[k] = ((fs[k] : Nat) : Int) := by have e := HXS.out; subst e; simp
      rw [hxk] at c1
      have hfk := HFS.out fs[k] (List.getElem_mem hkf)
      have hsucc : endP (allT T s) s (a, b) (fs.take (k + 1)) = nextP (allT T s) s (endP (allT T s) s (a, b) (fs.take k)) fs[k] := by rw [List.take_succ_eq_append_getElem hkf]; exact endP_snoc _ _ _ _ _
      have hpath : pathP (allT T s) s (a, b) (fs.take (k + 1)) = pathP (allT T s) s (a, b) (fs.take k) ++ [endP (allT T s) s (a, b) (fs.take (k + 1))] := by rw [List.take_succ_eq_append_getElem hkf]; exact pathP_snoc _ _ _ _ _
      have hle := endP_le (T := allT T s) (s := s) (fs.take k) (a, b) ha hb
      rw [hsucc] at hpath
      obtain ⟨q, hq⟩ : ∃ q, q = endP (allT T s) s (a, b) (fs.take k) := ⟨_, rfl⟩
      obtain ⟨face, hface⟩ : ∃ n, n = fs[k] := ⟨_, rfl⟩
      rw [← hq, ← hface] at hsucc hpath
      rw [← hq] at hle
      rw [← hface] at hfk c1
      rw [← hq] at k1
      simp only [← hq] at q1
      obtain ⟨r, hr⟩ : ∃ r, r = nextP (allT T s) s q face := ⟨_, rfl⟩
      have HR := Lib.hid hr
      rw [← hr] at hsucc hpath
      have HSU := Lib.hid hsucc
      have HPA := Lib.hid hpath
      have hbl : bb < wr.heap.size := by have := hB.size; omega
      clear hq hface hxk hsucc hpath hr
      go_wp2_with fail
      refine (HBE.out g q.1 q.2 face _ hPr hle.1 hle.2 hfk.1 hfk.2).mono ?_
      rintro e w5 ⟨rfl, hx5⟩
      have er : nextP (allT T s) s (q.1, q.2) face = r := HR.out.symm
      rw [er]
      have hB5 := hB.trans (hx5.mono (by omega))
      have k15 := (hx5.block w3.heap.size hlr).trans k1
      have hl5 := heap_lt k15
      have hown5 := own_below hown hx5
      clear c1 q1 k1 hB hx5 hown er
      go_wp2_with (first | (refine wpList_store_row rfl 56 (.tmp 14) (.tmp 52) rfl w3.heap.size rfl 56 _ #[.int .i64 (r.1 : Nat), .int .i64 (r.2 : Nat)] rfl k15 rfl sizeBoth (one_pair _ _) ?_; intro w6 k6 g6 s6; have q6 := fun i => cell_of_row w6 w3.heap.size i _ _ _ k6; have hown6 := World.ownsRow.kept hown5 g6 (.inr fun e => by have := own_from hown5 _ e; omega); have hB6 := hB5.grown g6 (by omega) (fun i h => by cases h; exact Nat.le_refl _)) | (at_builtin; go_loud (refine wpList_append_own _ rfl _ _ 52 rfl (w3.heap.size + 1) 56 i0 (.agg #[.int .i64 0, .int .i64 0]) 2 16 Try.underlying52 hi hz0 hz1 hz2 rfl (by decide) _ _ _ rfl (hown6.alloc _) ⟨w5.heap.size, 0, none⟩ 1 1 [.int .i64 (r.1 : Nat), .int .i64 (r.2 : Nat)] rfl rfl (cell_newQ _ _ _ _ s6.symm) (one_pair _ _) (by unfold maxLen; omega) (by omega) (by simp; omega) ?_; intro v1 w9 hown9 hg9 _)))
      go_roundw
      case rel =>
        refine ⟨k + 1, by omega, by go_num, (hB6.alloc (by omega) _).grown hg9 (by simp; omega) (fun g hg => by have := own_from hown6 g hg; omega), ?_, ?_⟩
        · rw [HSU.out]
          exact (hg9.block w3.heap.size (by simp; omega) (fun e => by have := own_from hown6 _ e.symm; omega)).trans ((Below.heap_alloc _ _ _ (by omega)).trans k6)
        · rw [HPA.out, flat_snocP]
          exact hown9
      case measure => simp [intOf]; omega
    · obtain rfl : k = xs.length := by omega
      have e0 : fs.take xs.length = fs := by rw [HXL.out]; exact List.take_length
      rw [e0, HXL.out] at hown
      have hout := own_lo (base' := w.heap.size) hown (by have := hB3.size; omega)
      have hbout := hB3.trans (hB.mono hB3.size)
      go_wp2
      exact bodyPost_ret (v := .tuple #[_, .bool true]) (by simp [results, Try.results29]) rfl ⟨_, rfl, hout, hbout⟩
end Go.Proofs.Ytmiefdjbhcpnbaa

namespace Go.Proofs.Ytmiefdjbhcpnbaa
open Go.RowKit

theorem eqBoth (x y x' y' : Int) (w : World) : (binOp .eql 56 (.agg #[.int .i64 x, .int .i64 y]) (.agg #[.int .i64 x', .int .i64 y'])).run Try.prog w = .ok (.bool (x == x' && y == y')) w := by
  have u3 := Try.underlying3
  have a3 := Try.isAgg3
  have z3 := Try.sizeOf3
  have hsm : (Try.prog.info? 3).isSome = true := by kernel_rfl
  obtain ⟨i, hi⟩ := Option.isSome_iff_exists.1 hsm
  clear hsm
  have hc : Try.prog.cellsOf 3 = 1 := by kernel_rfl
  rw [run_eql_struct, show (10000 : Nat) = 9999 + 1 from rfl, run_equalIn_array w 9999 _ _ Try.underlying56 hi, hc, show List.range 2 = [0, 1] from rfl]
  clear hi hc
  simp only [Op.eqItems]
  go_simp
  by_cases h1 : x = x' <;> by_cases h2 : y = y' <;> simp [h1, h2]
theorem guardBoth (op : BinOp) (a b : Operand) (x y x' y' : Int) (w : World) : (eqGuard op 56 a b (.agg #[.int .i64 x, .int .i64 y]) (.agg #[.int .i64 x', .int .i64 y'])).run Try.prog w = .ok () w := run_eqGuard_agg w op _ a b _ _ (by kernel_rfl)
theorem below_drewP {B : Nat} {a w : World} (h : Below B a w) (n : Nat) : Below B a (w.drewN n) := ⟨h.os, h.tape, h.output, h.size, h.block⟩
/-- A row of the squares of both, below block B. -/
def RB (w : World) (B b : Nat) (l : List Fr) : Prop := b < B ∧ l.length ≤ 1048576 ∧ ∀ k (h : k < l.length), w.cell? ⟨b, k * 2, none⟩ = some (.int .i64 (l[k].1 : Nat)) ∧ w.cell? ⟨b, k * 2 + 1, none⟩ = some (.int .i64 (l[k].2 : Nat))
/-- The place of the first that is so, as the program's: -1 if none is. -/
def idxP (l : List Fr) (q : Fr) : Int := if l.findIdx (· == q) < l.length then (l.findIdx (· == q) : Nat) else -1
set_option maxRecDepth 100000 in
set_option maxHeartbeats 1000000 in
theorem indexBoth_any (b c : Nat) (l : List Fr) (x y : Nat) (w : World) (hr : RB w w.heap.size b l) :
    Calls Try.prog 30 #[.slice (some ⟨b, 0, none⟩) l.length c, .agg #[.int .i64 x, .int .i64 y]] w fun e w' => e = .returned (.int .i64 (idxP l (x, y))) ∧ Below w.heap.size w w' := by
  obtain ⟨hb, hl, hc⟩ := hr
  go_enter Try.func30, Try.ntmps30
  go_wp2_with fail
  go_loopw [5, 8] (fun _ i wr => ∃ k : Nat, k ≤ l.length ∧ i = .int .i64 (k : Int) ∧ Below w.heap.size w wr ∧ wr.heap[w.heap.size]? = some (.cells #[.int .i64 x, .int .i64 y] 56 (0, 0)) ∧ k ≤ l.findIdx (· == (x, y))) (fun _ i _ => l.length - (intOf i).toNat)
  case atStart => exact ⟨0, Nat.zero_le _, rfl, below1 _ _, heap_alloc_at _ _ _ rfl, Nat.zero_le _⟩
  case round =>
    obtain ⟨k, hk, rfl, hB, k1, hfi⟩ := hrel
    have hlr := heap_lt k1
    have q1 := fun i => cell_of_row wr w.heap.size i _ _ _ k1
    by_cases hlt : k < l.length
    · obtain ⟨c1, c2⟩ := hc k hlt
      have d1 := (bcell hB hb).trans c1
      have d2 := (bcell hB hb).trans c2
      have hbl : b < wr.heap.size := by have := hB.size; omega
      obtain ⟨q, hq⟩ : ∃ q, q = l[k] := ⟨_, rfl⟩
      rw [← hq] at d1 d2
      have HQ := Lib.hid hq
      have HFI := Lib.hid hfi
      have HC := Lib.hid hc
      clear c1 c2 hq hfi hc
      have he := eqBoth
      have hge := guardBoth
      by_cases hxy : q = (x, y)
      · subst hxy
        go_wp2_with fail
        go_quiet (fail)
        go_wp2
        have e1 : l.findIdx (· == (x, y)) = k := by
          have e2 : (l[k] == (x, y)) = true := by rw [← HQ.out]; simp
          have h1 := HFI.out
          rcases Nat.lt_or_ge k (l.findIdx (· == (x, y))) with h | h
          · have := List.not_of_lt_findIdx h
            rw [e2] at this
            cases this
          · omega
        have e2 : idxP l (x, y) = k := by unfold idxP; rw [e1, if_pos hlt]
        rw [← e2]
        go_ret
        exact ⟨rfl, below_drewP hB _⟩
      · have hxy' : ((x : Int) == (q.1 : Int) && (y : Int) == (q.2 : Int)) = false := by
          rw [Bool.eq_false_iff]
          intro e
          simp only [Bool.and_eq_true, beq_iff_eq] at e
          exact hxy (Prod.ext (by omega) (by omega))
        go_wp2_with fail
        go_quiet (fail)
        go_wp2
        go_roundw
        case rel =>
          refine ⟨k + 1, by omega, by go_num, below_drewP hB _, by simpa using k1, ?_⟩
          have e1 : l.findIdx (· == (x, y)) ≠ k := fun e => by
            have e3 := List.findIdx_getElem (p := (· == (x, y))) (w := show l.findIdx (· == (x, y)) < l.length by omega)
            simp only [e] at e3
            rw [← HQ.out] at e3
            exact hxy (by simpa using e3)
          have := HFI.out
          omega
        case measure => simp [intOf]; omega
    · obtain rfl : k = l.length := by omega
      have e1 : idxP l (x, y) = -1 := by unfold idxP; rw [if_neg (Nat.not_lt.2 hfi)]
      go_wp2
      rw [← e1]
      go_ret
      exact ⟨rfl, hB⟩
end Go.Proofs.Ytmiefdjbhcpnbaa

namespace Go.Proofs.Ytmiefdjbhcpnbaa
open Go.RowKit

theorem own_rb {w : World} {base : Nat} {t : TypeId} {v : Value} {n : Nat} {l : List Fr} (h : w.ownsRow base t 2 v n (flatJ (frJ l))) (hn : l.length = n) (h0 : 0 < n) (hl : l.length ≤ 1048576) : ∃ g c, v = .slice (some ⟨g, 0, none⟩) l.length c ∧ base ≤ g ∧ g < w.heap.size ∧ RB w w.heap.size g l := by
  obtain ⟨h1, ⟨_, h2⟩ | ⟨g, cap, cur, rfl, hg, hh, h3, h4, h5, h6⟩⟩ := h
  · omega
  · have hlt := heap_lt hh
    refine ⟨g, cap, by rw [hn], hg, hlt, hlt, hl, fun k hk => ?_⟩
    have hk' : k < (frJ l).length := by rw [frJ_len]; exact hk
    obtain ⟨e1, e2⟩ := flatJ_at (frJ l) k hk'
    rw [frJ_at l hk', ← h6] at e1 e2
    rw [List.getElem?_take_of_lt (by omega)] at e1 e2
    rw [cell_of_row w g _ _ _ _ hh, cell_of_row w g _ _ _ _ hh]
    exact ⟨by simpa using e1, by simpa using e2⟩
/-- What PairThrowsUsed tells. -/
def usedP (l : List Fr) (q : Fr) : Value := if idxP l q < 0 then .tuple #[.int .i64 0, .bool false] else .tuple #[.int .i64 (idxP l q), .bool true]
set_option maxRecDepth 100000 in
set_option maxHeartbeats 1000000 in
theorem implThrowsUsed_no (s f a b : Int) (A : Option Addr) (n c : Nat) (w : World) (hp : pairOk s f a b = false) :
    Calls Try.prog 18 #[.int .i64 s, .int .i64 f, .int .i64 a, .int .i64 b, .slice A n c] w fun e w' => e = .returned (.tuple #[.int .i64 0, .bool false]) ∧ Below w.heap.size w w' := by
  have HC := Lib.hid (fun W => bestPath_no s f a b A n c W hp)
  clear hp
  go_enter Try.func18, Try.ntmps18
  go_wp2_with fail
  refine (HC.out _).mono ?_
  rintro e w2 ⟨rfl, hx2⟩
  go_wp2
  exact bodyPost_ret (v := .tuple #[.int .i64 0, .bool false]) (by simp [results, Try.results18]) rfl ⟨rfl, hx2⟩
set_option maxRecDepth 100000 in
set_option maxHeartbeats 1000000 in
theorem implThrowsUsed_bad (s f a b : Nat) (A : Option Addr) (c : Nat) (xs : List Int) (w : World) (hx : RI w w.heap.size A xs) (hp : pairOk s f a b = true) (hs1 : 1 ≤ s) (hs : s ≤ 6) (hf1 : 1 ≤ f) (hf : f ≤ 4) (hbad : playOk s f a b xs = false) :
    Calls Try.prog 18 #[.int .i64 s, .int .i64 f, .int .i64 a, .int .i64 b, .slice A xs.length c] w fun e w' => e = .returned (.tuple #[.int .i64 0, .bool false]) ∧ Below w.heap.size w w' := by
  have HC := Lib.hid (bestPath_bad s f a b A c xs w hx hp hs1 hs hf1 hf hbad)
  clear hp hbad hx
  go_enter Try.func18, Try.ntmps18
  go_wp2_with fail
  refine HC.out.mono ?_
  rintro e w2 ⟨rfl, hx2⟩
  go_wp2
  exact bodyPost_ret (v := .tuple #[.int .i64 0, .bool false]) (by simp [results, Try.results18]) rfl ⟨rfl, hx2⟩
set_option maxRecDepth 100000 in
set_option maxHeartbeats 1000000 in
theorem implThrowsUsed_yes (s f a b : Nat) (A : Option Addr) (c : Nat) (fs : List Nat) (xs : List Int) (hxs : xs = fs.map fun n : Nat => (n : Int)) (T : Tab) (hT : T = bT true s f) (w : World) (hx : RI w w.heap.size A xs) (hp : pairOk s f a b = true) (hs1 : 1 ≤ s) (hs : s ≤ 6) (hf1 : 1 ≤ f) (hf : f ≤ 4) (ha : a ≤ s) (hb : b ≤ s) (hlen : fs.length ≤ 60) (hfs : ∀ n ∈ fs, 1 ≤ n ∧ n ≤ f) :
    Calls Try.prog 18 #[.int .i64 s, .int .i64 f, .int .i64 a, .int .i64 b, .slice A xs.length c] w fun e w' => e = .returned (usedP (pathP (allT T s) s (a, b) fs) (s, s)) ∧ Below w.heap.size w w' := by
  have HC := Lib.hid (bestPath_yes s f a b A c fs xs hxs T hT w hx hp hs1 hs hf1 hf ha hb hlen hfs)
  have hpl : (pathP (allT T s) s (a, b) fs).length = fs.length + 1 := pathP_len _ _ _ _
  obtain ⟨l, hl⟩ : ∃ l, l = pathP (allT T s) s (a, b) fs := ⟨_, rfl⟩
  rw [← hl] at HC hpl ⊢
  clear hT hp hx hxs hfs hl
  by_cases hneg : idxP l (s, s) < 0
  · have e1 : usedP l (s, s) = .tuple #[.int .i64 0, .bool false] := by unfold usedP; rw [if_pos hneg]
    rw [e1]
    go_enter Try.func18, Try.ntmps18
    go_wp2_with fail
    refine HC.out.mono ?_
    rintro e w2 ⟨v, rfl, hown, hx2⟩
    obtain ⟨g, cc, rfl, hg1, hg2, hrb⟩ := own_rb hown hpl (by omega) (by omega)
    have HI := Lib.hid (indexBoth_any g cc l s s w2 hrb)
    clear HC hrb hown hpl
    go_wp2_with fail
    refine HI.out.mono ?_
    rintro e w3 ⟨rfl, hx3⟩
    go_wp2
    exact bodyPost_ret (v := .tuple #[.int .i64 0, .bool false]) (by simp [results, Try.results18]) rfl ⟨rfl, hx2.trans (hx3.mono hx2.size)⟩
  · have e1 : usedP l (s, s) = .tuple #[.int .i64 (idxP l (s, s)), .bool true] := by unfold usedP; rw [if_neg hneg]
    rw [e1]
    go_enter Try.func18, Try.ntmps18
    go_wp2_with fail
    refine HC.out.mono ?_
    rintro e w2 ⟨v, rfl, hown, hx2⟩
    obtain ⟨g, cc, rfl, hg1, hg2, hrb⟩ := own_rb hown hpl (by omega) (by omega)
    have HI := Lib.hid (indexBoth_any g cc l s s w2 hrb)
    clear HC hrb hown hpl
    go_wp2_with fail
    refine HI.out.mono ?_
    rintro e w3 ⟨rfl, hx3⟩
    go_wp2
    exact bodyPost_ret (v := .tuple #[.int .i64 (idxP l (s, s)), .bool true]) (by simp [results, Try.results18]) rfl ⟨rfl, hx2.trans (hx3.mono hx2.size)⟩
end Go.Proofs.Ytmiefdjbhcpnbaa

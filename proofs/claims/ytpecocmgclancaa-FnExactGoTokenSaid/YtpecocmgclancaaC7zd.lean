/-
  Tracks: the model's GoToken, and GoToken on both sides.
-/
import Derived.Test.YtpecocmgclancaaC7zc
import Derived.Test.YtpecocmgclancaaWRegP
namespace Go.Proofs.Ytpecocmgclancaa
open Go.RowKit

/-- A whole struct is loaded, behind a guard that holds. -/
theorem yields_load_row_t {P : Program} {ops : Array Oper} {S : World → Prop} {a : Act} {o : Oper} (hw : Region.wanted o (yielded ops a.tmps) = true) (ty : TypeId) (x : Operand) (hop : o.op = .load ty x) (g : Nat) (hx : a.eval x = .pointer (some ⟨g, 0, none⟩)) (t : TypeId) (cs : Array Value) (fr : Nat × Nat) (d : TypeDesc)
    (hS : ∀ w, S w → w.heap[g]? = some (.cells cs t fr)) (hu : P.underlying ty = some d) (hd : (match d with | .struct _ | .array _ _ => true | _ => false) = true) (hi : (P.info? ty).map (·.size) = some cs.size) : YieldsIf P ops S o (.agg cs) a :=
  .inl ⟨hw, fun w hw => by
    unfold execOp
    simp only [hop, hx, Instr.loadAt, Instr.sureAddr, Sem.run_bind, Sem.run_pure, Result.andThen_ok, run_loadVar_row w g t ty cs fr d (hS w hw) hu hd hi]⟩
theorem sizeTrk : (Try.prog.info? 27).map (·.size) = some 5 := by kernel_rfl

set_option maxRecDepth 100000 in
set_option maxHeartbeats 1000000 in
theorem specGo_ask (q f k : Int) (A1 A2 A3 : Option Addr) (c1 c2 c3 : Nat) (st sf : List Int) (L : List (List Int)) (p t x : Int) (w : World) (h1 : RI w w.heap.size A1 st) (h2 : RI w w.heap.size A2 sf) (h3 : RG w w.heap.size A3 L) (hc : st.length ≤ c1) (hr : askB q f k st sf L p t x = false) :
    Calls Try.prog 34 #[.agg #[.int .i64 q, .int .i64 f, .int .i64 k, .slice A1 st.length c1, .slice A2 sf.length c2], .slice A3 L.length c3, .int .i64 p, .int .i64 t, .int .i64 x] w (GridIBack w 0 (fun _ => 0) (fun _ _ => 0) 0 false) := by
  have hl := h1.1
  have hl2 := h2.1
  have hl3 := h3.1
  have HR := Lib.hid hr
  clear hr
  go_enter Try.func34, Try.ntmps34
  go_wp2_with fail
  have hb0 := below1 w (.cells #[.int .i64 q, .int .i64 f, .int .i64 k, .slice A1 st.length c1, .slice A2 sf.length c2] 27)
  have kb := heap_alloc_at w (.cells #[.int .i64 q, .int .i64 f, .int .i64 k, .slice A1 st.length c1, .slice A2 sf.length c2] 27) _ rfl
  obtain ⟨W1, hW1⟩ : ∃ W1, W1 = w.alloc (.cells #[.int .i64 q, .int .i64 f, .int .i64 k, .slice A1 st.length c1, .slice A2 sf.length c2] 27) := ⟨_, rfl⟩
  have kb : W1.heap[w.heap.size]? = some (.cells #[.int .i64 q, .int .i64 f, .int .i64 k, .slice A1 st.length c1, .slice A2 sf.length c2] 27 (0, 0)) := by rw [hW1]; exact heap_alloc_at w _ _ rfl
  rw [← hW1] at hb0 ⊢
  clear hW1
  refine wp_region_held_drew (S := (fun w' => w'.heap[w.heap.size]? = some (.cells #[.int .i64 q, .int .i64 f, .int .i64 k, .slice A1 st.length c1, .slice A2 sf.length c2] 27 (0, 0)))) (by kernel_rfl) kb (fun hS => ?_)
  refine wpAnyH_take (i := 0) (oi := ⟨some 15, _, _, _, _, _⟩) rfl (by kernel_rfl) (by kernel_rfl) (by kernel_rfl) (fun _ _ _ h => h) (yields_load_row rfl 27 (.tmp 5) rfl w.heap.size rfl _ _ _ _ (fun _ h => h) Try.underlying27 rfl sizeTrk) hS ?_
  try simp only [Act.put, List.setIfInBounds_toArray, List.set_cons_zero, List.set_cons_succ]
  refine wpAnyH_take (i := 1) (oi := ⟨some 16, _, _, _, _, _⟩) (v := ?vga1) rfl (by kernel_rfl) (by kernel_rfl) (by kernel_rfl) (fun _ _ _ h => h) (Or.inl ⟨by rfl, ?hga1⟩) hS ?rga1
  case hga1 => (intro w' hSw; (try dsimp only at hSw); go_simp; (try with_reducible rfl))
  try simp only [Act.put, List.setIfInBounds_toArray, List.set_cons_zero, List.set_cons_succ]
  refine wpAnyH_take (i := 2) (oi := ⟨some 17, _, _, _, _, _⟩) (v := ?vga2) rfl (by kernel_rfl) (by kernel_rfl) (by kernel_rfl) (fun _ _ _ h => h) (Or.inl ⟨by rfl, ?hga2⟩) hS ?rga2
  case hga2 => (intro w' hSw; (try dsimp only at hSw); go_simp; (try with_reducible rfl))
  try simp only [Act.put, List.setIfInBounds_toArray, List.set_cons_zero, List.set_cons_succ]
  refine wpAnyH_take (i := 3) (oi := ⟨some 18, _, _, _, _, _⟩) (v := ?vga3) rfl (by kernel_rfl) (by kernel_rfl) (by kernel_rfl) (fun _ _ _ h => h) (Or.inl ⟨by rfl, ?hga3⟩) hS ?rga3
  case hga3 => (intro w' hSw; (try dsimp only at hSw); go_simp; (try with_reducible rfl))
  try simp only [Act.put, List.setIfInBounds_toArray, List.set_cons_zero, List.set_cons_succ]
  refine wpAnyH_take (i := 4) (oi := ⟨some 19, _, _, _, _, _⟩) (v := ?vga4) rfl (by kernel_rfl) (by kernel_rfl) (by kernel_rfl) (fun _ _ _ h => h) (Or.inl ⟨by rfl, ?hga4⟩) hS ?rga4
  case hga4 => (intro w' hSw; (try dsimp only at hSw); go_simp; (try with_reducible rfl))
  try simp only [Act.put, List.setIfInBounds_toArray, List.set_cons_zero, List.set_cons_succ]
  refine wpAnyH_ready (rs := [5]) (by kernel_rfl) (by simp) ?_
  refine AllReadyH.cons (o := ⟨some 20, _, _, _, _, _⟩) rfl (fun K' hK' => ?_) AllReadyH.nil
  go_simp
  go_at_call 64
  refine (trAsked_any q f k A1 A2 A3 c1 c2 c3 st sf L p t x W1.drew (h1.go hb0.drew) (h2.go hb0.drew) ((h3.below hb0.drew).more hb0.drew.size) hc).mono ?_
  rintro e w5 ⟨rfl, hx⟩
  rw [HR.out]
  have hb5 : Below w.heap.size w w5 := hb0.drew.trans (hx.mono hb0.drew.size)
  have kb5 : w5.heap[w.heap.size]? = some (.cells #[.int .i64 q, .int .i64 f, .int .i64 k, .slice A1 st.length c1, .slice A2 sf.length c2] 27 (0, 0)) := (hx.block _ (heap_lt kb)).trans kb
  refine hK'.out _ _ kb5 (fun _ => ?_)
  clear hK' K'
  try simp only [Act.put, List.setIfInBounds_toArray, List.set_cons_zero, List.set_cons_succ]
  refine wpAnyH_take (i := 6) (oi := ⟨some 21, _, _, _, _, _⟩) (v := ?vga5) rfl (by kernel_rfl) (by kernel_rfl) (by kernel_rfl) (fun _ _ _ h => h) (Or.inl ⟨by rfl, ?hga5⟩) kb5 ?rga5
  case hga5 => (intro w' hSw; (try dsimp only at hSw); go_simp; (try with_reducible rfl))
  try simp only [Act.put, List.setIfInBounds_toArray, List.set_cons_zero, List.set_cons_succ]
  refine wpAnyH_take (i := 7) (oi := ⟨some 22, _, _, _, _, _⟩) (v := ?vga6) rfl (by kernel_rfl) (by kernel_rfl) (by kernel_rfl) (fun _ _ _ h => h) (Or.inl ⟨by rfl, ?hga6⟩) kb5 ?rga6
  case hga6 => (intro w' hSw; (try dsimp only at hSw); go_simp; (try with_reducible rfl))
  try simp only [Act.put, List.setIfInBounds_toArray, List.set_cons_zero, List.set_cons_succ]
  refine wpAnyH_take (i := 8) (oi := ⟨some 23, _, _, _, _, _⟩) (v := undef) rfl (by kernel_rfl) (by kernel_rfl) (by kernel_rfl) (fun _ _ _ h => h) (Or.inr ⟨by rfl, rfl⟩) kb5 ?rga7
  try simp only [Act.put, List.setIfInBounds_toArray, List.set_cons_zero, List.set_cons_succ]
  refine wpAnyH_take (i := 9) (oi := ⟨some 24, _, _, _, _, _⟩) (v := undef) rfl (by kernel_rfl) (by kernel_rfl) (by kernel_rfl) (fun _ _ _ h => h) (Or.inr ⟨by rfl, rfl⟩) kb5 ?rga8
  try simp only [Act.put, List.setIfInBounds_toArray, List.set_cons_zero, List.set_cons_succ]
  refine wpAnyH_take (i := 10) (oi := ⟨some 25, _, _, _, _, _⟩) (v := undef) rfl (by kernel_rfl) (by kernel_rfl) (by kernel_rfl) (fun _ _ _ h => h) (Or.inr ⟨by rfl, rfl⟩) kb5 ?rga9
  try simp only [Act.put, List.setIfInBounds_toArray, List.set_cons_zero, List.set_cons_succ]
  refine wpAnyH_take (i := 11) (oi := ⟨some 26, _, _, _, _, _⟩) (v := undef) rfl (by kernel_rfl) (by kernel_rfl) (by kernel_rfl) (fun _ _ _ h => h) (Or.inr ⟨by rfl, rfl⟩) kb5 ?rga10
  try simp only [Act.put, List.setIfInBounds_toArray, List.set_cons_zero, List.set_cons_succ]
  refine wpAnyH_take (i := 12) (oi := ⟨some 27, _, _, _, _, _⟩) (v := undef) rfl (by kernel_rfl) (by kernel_rfl) (by kernel_rfl) (fun _ _ _ h => h) (Or.inr ⟨by rfl, rfl⟩) kb5 ?rga11
  try simp only [Act.put, List.setIfInBounds_toArray, List.set_cons_zero, List.set_cons_succ]
  refine wpAnyH_take (i := 13) (oi := ⟨some 28, _, _, _, _, _⟩) (v := undef) rfl (by kernel_rfl) (by kernel_rfl) (by kernel_rfl) (fun _ _ _ h => h) (Or.inr ⟨by rfl, rfl⟩) kb5 ?rga12
  try simp only [Act.put, List.setIfInBounds_toArray, List.set_cons_zero, List.set_cons_succ]
  refine wpAnyH_take (i := 14) (oi := ⟨some 29, _, _, _, _, _⟩) (v := undef) rfl (by kernel_rfl) (by kernel_rfl) (by kernel_rfl) (fun _ _ _ h => h) (Or.inr ⟨by rfl, rfl⟩) kb5 ?rga13
  try simp only [Act.put, List.setIfInBounds_toArray, List.set_cons_zero, List.set_cons_succ]
  refine wpAnyH_take (i := 15) (oi := ⟨some 30, _, _, _, _, _⟩) (v := undef) rfl (by kernel_rfl) (by kernel_rfl) (by kernel_rfl) (fun _ _ _ h => h) (Or.inr ⟨by rfl, rfl⟩) kb5 ?rga14
  try simp only [Act.put, List.setIfInBounds_toArray, List.set_cons_zero, List.set_cons_succ]
  refine wpAnyH_take (i := 16) (oi := ⟨some 31, _, _, _, _, _⟩) (v := undef) rfl (by kernel_rfl) (by kernel_rfl) (by kernel_rfl) (fun _ _ _ h => h) (Or.inr ⟨by rfl, rfl⟩) kb5 ?rga15
  try simp only [Act.put, List.setIfInBounds_toArray, List.set_cons_zero, List.set_cons_succ]
  refine wpAnyH_take (i := 17) (oi := ⟨some 32, _, _, _, _, _⟩) (v := undef) rfl (by kernel_rfl) (by kernel_rfl) (by kernel_rfl) (fun _ _ _ h => h) (Or.inr ⟨by rfl, rfl⟩) kb5 ?rga16
  try simp only [Act.put, List.setIfInBounds_toArray, List.set_cons_zero, List.set_cons_succ]
  refine wpAnyH_take (i := 18) (oi := ⟨some 33, _, _, _, _, _⟩) (v := undef) rfl (by kernel_rfl) (by kernel_rfl) (by kernel_rfl) (fun _ _ _ h => h) (Or.inr ⟨by rfl, rfl⟩) kb5 ?rga17
  try simp only [Act.put, List.setIfInBounds_toArray, List.set_cons_zero, List.set_cons_succ]
  refine wpAnyH_ready (rs := [19]) (by kernel_rfl) (by simp) ?_
  refine AllReadyH.cons (o := ⟨some 34, _, _, _, _, _⟩) rfl (fun K' hK' => ?_) AllReadyH.nil
  go_simp
  refine hK'.out _ _ kb5 (fun _ => ?_)
  clear hK' K'
  try simp only [Act.put, List.setIfInBounds_toArray, List.set_cons_zero, List.set_cons_succ]
  refine wpAnyH_done (by kernel_rfl) ?_ _
  go_wp2
  go_ret3
  exact ⟨none, 0, _, _, rfl, Grid.nil _ _ _ _ _ _ (fun _ => 0) (fun _ => 0), hb5⟩

set_option maxRecDepth 100000 in
set_option maxHeartbeats 2000000 in
theorem specGo_any (q f k : Int) (A1 A2 A3 : Option Addr) (c1 c2 c3 : Nat) (st sf : List Int) (L : List (List Int)) (p t x : Int) (w : World) (h1 : RI w w.heap.size A1 st) (h2 : RI w w.heap.size A2 sf) (h3 : RG w w.heap.size A3 L) (hc : st.length ≤ c1) (hr : askB q f k st sf L p t x = true) (r : Bool) (hcn : canB q f (stF q L p.toNat t.toNat) x = r) (n : Nat) (FF : Nat → Nat → Int) (z : Int)
    (hr0 : r = false → n = 0 ∧ z = 0) (hr1 : r = true → n = L.length ∧ FF = goF q k st sf (stF q L) p.toNat t.toNat x ∧ z = ((goL q k st sf (stF q L) p.toNat t.toNat x).length : Int)) :
    Calls Try.prog 34 #[.agg #[.int .i64 q, .int .i64 f, .int .i64 k, .slice A1 st.length c1, .slice A2 sf.length c2], .slice A3 L.length c3, .int .i64 p, .int .i64 t, .int .i64 x] w (GridIBack w n (fun _ => k.toNat) FF z r) := by
  have hl := h1.1
  have hl2 := h2.1
  have hl3 := h3.1
  have HR := Lib.hid hr
  clear hr
  have hTS := state_is (Bool.and_eq_true_iff.1 HR.out).1
  have hTT := hTS.1
  obtain ⟨q4, q60, f1, f8, k1, k4, n2, n4, st0, sf0, sfl⟩ := hTS.1
  have hSt := hTS.2
  have hmv := (Bool.and_eq_true_iff.1 HR.out).2
  have hmb := hmv
  rw [mvB, Bool.and_eq_true, Bool.and_eq_true, inB_iff, inB_iff, inB_iff] at hmb
  obtain ⟨⟨hpb, htb⟩, hxb⟩ := hmb
  have hx8 : x ≤ 8 := by omega
  obtain ⟨P, hP⟩ := Int.eq_ofNat_of_zero_le hpb.1
  obtain ⟨T, hT⟩ := Int.eq_ofNat_of_zero_le htb.1
  subst hP hT
  have hlt : P < L.length := by have := hSt.len; omega
  have hrl := hSt.row P hlt
  have htl : T < L[P].length := by omega
  have hxx := hSt.val P hlt T htl
  rw [← stF_at (q := q) hlt htl] at hxx
  rw [Int.toNat_natCast, Int.toNat_natCast] at hcn hr1
  have hxx2 := hxx
  rw [stF_at (q := q) hlt htl] at hxx2
  have hcn2 := hcn
  rw [stF_at hlt htl] at hcn2
  obtain ⟨b, off, A', c', hA3, hbb, hc0, hrow⟩ := h3.at_ (Below.refl _ w) hlt
  obtain ⟨b2, off2, rfl, hbb2, hd0⟩ := hrow.at_ (Below.refl _ w) htl
  obtain ⟨y, hy⟩ : ∃ y, y = L[P][T] := ⟨_, rfl⟩
  obtain ⟨m, hm⟩ : ∃ m, m = L[P].length := ⟨_, rfl⟩
  rw [← hy] at hd0 hxx2 hcn2
  rw [← hm] at hc0
  have htm : T < m := by omega
  have HCN := Lib.hid hcn; have HCN2 := Lib.hid hcn2; have HTT := Lib.hid hTT; have HST := Lib.hid hSt; have HTL := Lib.hid htl
  clear hrow hy hm hrl hSt hTS hmv hxx hcn hcn2 hTT htl
  subst hA3
  go_enter Try.func34, Try.ntmps34
  go_wp2_with fail
  have hb0 := below1 w (.cells #[.int .i64 q, .int .i64 f, .int .i64 k, .slice A1 st.length c1, .slice A2 sf.length c2] 27)
  obtain ⟨W1, hW1⟩ : ∃ W1, W1 = w.alloc (.cells #[.int .i64 q, .int .i64 f, .int .i64 k, .slice A1 st.length c1, .slice A2 sf.length c2] 27) := ⟨_, rfl⟩
  have kb : W1.heap[w.heap.size]? = some (.cells #[.int .i64 q, .int .i64 f, .int .i64 k, .slice A1 st.length c1, .slice A2 sf.length c2] 27 (0, 0)) := by rw [hW1]; exact heap_alloc_at w _ _ rfl
  rw [← hW1] at hb0 ⊢
  clear hW1
  have hcc := (bcell hb0 hbb).trans hc0
  have hdd := (bcell hb0 hbb2).trans hd0
  have hW1z : w.heap.size < W1.heap.size := heap_lt kb
  cases r
  · obtain ⟨rfl, rfl⟩ := hr0 rfl
    clear hr0 hr1
    refine wp_region_held_drew (S := (fun w' => w'.heap[w.heap.size]? = some (.cells #[.int .i64 q, .int .i64 f, .int .i64 k, .slice A1 st.length c1, .slice A2 sf.length c2] 27 (0, 0)) ∧ w'.cell? ⟨b, off + P, none⟩ = some (.slice (some ⟨b2, off2, none⟩) m c') ∧ w'.cell? ⟨b2, off2 + T, none⟩ = some (.int .i64 y))) (by kernel_rfl) ⟨kb, hcc, hdd⟩ (fun hS => ?_)
    refine wpAnyH_take (i := 0) (oi := ⟨some 15, _, _, _, _, _⟩) rfl (by kernel_rfl) (by kernel_rfl) (by kernel_rfl) (fun _ _ _ h => h) (yields_load_row rfl 27 (.tmp 5) rfl w.heap.size rfl _ _ _ _ (fun _ h => h.1) Try.underlying27 rfl sizeTrk) hS ?_
    try simp only [Act.put, List.setIfInBounds_toArray, List.set_cons_zero, List.set_cons_succ]
    refine wpAnyH_take (i := 1) (oi := ⟨some 16, _, _, _, _, _⟩) (v := ?vgb1) rfl (by kernel_rfl) (by kernel_rfl) (by kernel_rfl) (fun _ _ _ h => h) (Or.inl ⟨by rfl, ?hgb1⟩) hS ?rgb1
    case hgb1 => (intro w' hSw; (try dsimp only at hSw); go_simp; (try with_reducible rfl))
    try simp only [Act.put, List.setIfInBounds_toArray, List.set_cons_zero, List.set_cons_succ]
    refine wpAnyH_take (i := 2) (oi := ⟨some 17, _, _, _, _, _⟩) (v := ?vgb2) rfl (by kernel_rfl) (by kernel_rfl) (by kernel_rfl) (fun _ _ _ h => h) (Or.inl ⟨by rfl, ?hgb2⟩) hS ?rgb2
    case hgb2 => (intro w' hSw; (try dsimp only at hSw); go_simp; (try with_reducible rfl))
    try simp only [Act.put, List.setIfInBounds_toArray, List.set_cons_zero, List.set_cons_succ]
    refine wpAnyH_take (i := 3) (oi := ⟨some 18, _, _, _, _, _⟩) (v := ?vgb3) rfl (by kernel_rfl) (by kernel_rfl) (by kernel_rfl) (fun _ _ _ h => h) (Or.inl ⟨by rfl, ?hgb3⟩) hS ?rgb3
    case hgb3 => (intro w' hSw; (try dsimp only at hSw); go_simp; (try with_reducible rfl))
    try simp only [Act.put, List.setIfInBounds_toArray, List.set_cons_zero, List.set_cons_succ]
    refine wpAnyH_take (i := 4) (oi := ⟨some 19, _, _, _, _, _⟩) (v := ?vgb4) rfl (by kernel_rfl) (by kernel_rfl) (by kernel_rfl) (fun _ _ _ h => h) (Or.inl ⟨by rfl, ?hgb4⟩) hS ?rgb4
    case hgb4 => (intro w' hSw; (try dsimp only at hSw); go_simp; (try with_reducible rfl))
    try simp only [Act.put, List.setIfInBounds_toArray, List.set_cons_zero, List.set_cons_succ]
    refine wpAnyH_ready (rs := [5]) (by kernel_rfl) (by simp) ?_
    refine AllReadyH.cons (o := ⟨some 20, _, _, _, _, _⟩) rfl (fun K' hK' => ?_) AllReadyH.nil
    go_simp
    go_at_call 64
    refine (trAsked_any q f k A1 A2 _ c1 c2 c3 st sf L (P : Int) (T : Int) x W1.drew (h1.go hb0.drew) (h2.go hb0.drew) ((h3.below hb0.drew).more hb0.drew.size) hc).mono ?_
    rintro e w5 ⟨rfl, hx⟩
    rw [HR.out]
    have hb5 : Below w.heap.size w w5 := hb0.drew.trans (hx.mono hb0.drew.size)
    have kb5 : w5.heap[w.heap.size]? = some (.cells #[.int .i64 q, .int .i64 f, .int .i64 k, .slice A1 st.length c1, .slice A2 sf.length c2] 27 (0, 0)) := (hx.block _ (heap_lt kb)).trans kb
    have hcc5 := (bcell hb5 hbb).trans hc0
    have hdd5 := (bcell hb5 hbb2).trans hd0
    refine hK'.out _ _ ⟨kb5, hcc5, hdd5⟩ (fun _ => ?_)
    clear hK' K'
    try simp only [Act.put, List.setIfInBounds_toArray, List.set_cons_zero, List.set_cons_succ]
    refine wpAnyH_take (i := 6) (oi := ⟨some 21, _, _, _, _, _⟩) (v := ?vgb5) rfl (by kernel_rfl) (by kernel_rfl) (by kernel_rfl) (fun _ _ _ h => h) (Or.inl ⟨by rfl, ?hgb5⟩) ⟨kb5, hcc5, hdd5⟩ ?rgb5
    case hgb5 => (intro w' hSw; (try dsimp only at hSw); go_simp; (try with_reducible rfl))
    try simp only [Act.put, List.setIfInBounds_toArray, List.set_cons_zero, List.set_cons_succ]
    refine wpAnyH_take (i := 7) (oi := ⟨some 22, _, _, _, _, _⟩) (v := ?vgb6) rfl (by kernel_rfl) (by kernel_rfl) (by kernel_rfl) (fun _ _ _ h => h) (Or.inl ⟨by rfl, ?hgb6⟩) ⟨kb5, hcc5, hdd5⟩ ?rgb6
    case hgb6 => (intro w' hSw; (try dsimp only at hSw); go_simp; (try with_reducible rfl))
    try simp only [Act.put, List.setIfInBounds_toArray, List.set_cons_zero, List.set_cons_succ]
    refine wpAnyH_take (i := 8) (oi := ⟨some 23, _, _, _, _, _⟩) rfl (by kernel_rfl) (by kernel_rfl) (by kernel_rfl) (fun _ _ _ h => h) (yields_load_row_t (by rfl) 27 (.tmp 5) rfl w.heap.size rfl _ _ _ _ (fun _ h => h.1) Try.underlying27 rfl sizeTrk) ⟨kb5, hcc5, hdd5⟩ ?_
    try simp only [Act.put, List.setIfInBounds_toArray, List.set_cons_zero, List.set_cons_succ]
    refine wpAnyH_take (i := 9) (oi := ⟨some 24, _, _, _, _, _⟩) (v := ?vgb7) rfl (by kernel_rfl) (by kernel_rfl) (by kernel_rfl) (fun _ _ _ h => h) (Or.inl ⟨by rfl, ?hgb7⟩) ⟨kb5, hcc5, hdd5⟩ ?rgb7
    case hgb7 => (intro w' hSw; (try dsimp only at hSw); go_simp; (try with_reducible rfl))
    try simp only [Act.put, List.setIfInBounds_toArray, List.set_cons_zero, List.set_cons_succ]
    refine wpAnyH_take (i := 10) (oi := ⟨some 25, _, _, _, _, _⟩) (v := ?vgb8) rfl (by kernel_rfl) (by kernel_rfl) (by kernel_rfl) (fun _ _ _ h => h) (Or.inl ⟨by rfl, ?hgb8⟩) ⟨kb5, hcc5, hdd5⟩ ?rgb8
    case hgb8 => (intro w' hSw; (try dsimp only at hSw); go_simp; (try with_reducible rfl))
    try simp only [Act.put, List.setIfInBounds_toArray, List.set_cons_zero, List.set_cons_succ]
    refine wpAnyH_take (i := 11) (oi := ⟨some 26, _, _, _, _, _⟩) (v := ?vgb9) rfl (by kernel_rfl) (by kernel_rfl) (by kernel_rfl) (fun _ _ _ h => h) (Or.inl ⟨by rfl, ?hgb9⟩) ⟨kb5, hcc5, hdd5⟩ ?rgb9
    case hgb9 => (intro w' hSw; (try dsimp only at hSw); go_simp; (try with_reducible rfl))
    try simp only [Act.put, List.setIfInBounds_toArray, List.set_cons_zero, List.set_cons_succ]
    refine wpAnyH_take (i := 12) (oi := ⟨some 27, _, _, _, _, _⟩) (v := ?vgb10) rfl (by kernel_rfl) (by kernel_rfl) (by kernel_rfl) (fun _ _ _ h => h) (Or.inl ⟨by rfl, ?hgb10⟩) ⟨kb5, hcc5, hdd5⟩ ?rgb10
    case hgb10 => (intro w' hSw; (try dsimp only at hSw); go_simp; (try with_reducible rfl))
    try simp only [Act.put, List.setIfInBounds_toArray, List.set_cons_zero, List.set_cons_succ]
    refine wpAnyH_take (i := 13) (oi := ⟨some 28, _, _, _, _, _⟩) (v := ?vgb11) rfl (by kernel_rfl) (by kernel_rfl) (by kernel_rfl) (fun _ _ _ h => h) (Or.inl ⟨by rfl, ?hgb11⟩) ⟨kb5, hcc5, hdd5⟩ ?rgb11
    case hgb11 => (intro w' hSw; (try dsimp only at hSw); go_simp; (try with_reducible rfl))
    try simp only [Act.put, List.setIfInBounds_toArray, List.set_cons_zero, List.set_cons_succ]
    refine wpAnyH_take (i := 14) (oi := ⟨some 29, _, _, _, _, _⟩) (v := ?vgb12) rfl (by kernel_rfl) (by kernel_rfl) (by kernel_rfl) (fun _ _ _ h => h) (Or.inl ⟨by rfl, ?hgb12⟩) ⟨kb5, hcc5, hdd5⟩ ?rgb12
    case hgb12 => (intro w' hSw; (try dsimp only at hSw); go_simp; (try with_reducible rfl))
    try simp only [Act.put, List.setIfInBounds_toArray, List.set_cons_zero, List.set_cons_succ]
    refine wpAnyH_take (i := 15) (oi := ⟨some 30, _, _, _, _, _⟩) (v := ?vgb13) rfl (by kernel_rfl) (by kernel_rfl) (by kernel_rfl) (fun _ _ _ h => h) (Or.inl ⟨by rfl, ?hgb13⟩) ⟨kb5, hcc5, hdd5⟩ ?rgb13
    case hgb13 => (intro w' hSw; (try dsimp only at hSw); go_simp; (try with_reducible rfl))
    try simp only [Act.put, List.setIfInBounds_toArray, List.set_cons_zero, List.set_cons_succ]
    refine wpAnyH_take (i := 16) (oi := ⟨some 31, _, _, _, _, _⟩) (v := ?vgb14) rfl (by kernel_rfl) (by kernel_rfl) (by kernel_rfl) (fun _ _ _ h => h) (Or.inl ⟨by rfl, ?hgb14⟩) ⟨kb5, hcc5, hdd5⟩ ?rgb14
    case hgb14 => (intro w' hSw; (try dsimp only at hSw); go_simp; (try with_reducible rfl))
    try simp only [Act.put, List.setIfInBounds_toArray, List.set_cons_zero, List.set_cons_succ]
    refine wpAnyH_ready (rs := [17]) (by kernel_rfl) (by simp) ?_
    refine AllReadyH.cons (o := ⟨some 32, _, _, _, _, _⟩) rfl (fun K' hK' => ?_) AllReadyH.nil
    go_simp
    go_at_call 65
    refine (trCan_any q f k A1 A2 st.length c1 sf.length c2 y x _ hxx2.2 q60 hxb.1 hx8).mono ?_
    rintro e w7 ⟨rfl, hx7⟩
    rw [HCN2.out]
    have hb7 : Below w.heap.size w w7 := hb5.trans (hx7.mono hb5.size)
    have kb7 : w7.heap[w.heap.size]? = some (.cells #[.int .i64 q, .int .i64 f, .int .i64 k, .slice A1 st.length c1, .slice A2 sf.length c2] 27 (0, 0)) := (hx7.block _ (heap_lt kb5)).trans kb5
    have hcc7 := (bcell hb7 hbb).trans hc0
    have hdd7 := (bcell hb7 hbb2).trans hd0
    refine hK'.out _ _ ⟨kb7, hcc7, hdd7⟩ (fun _ => ?_)
    clear hK' K'
    try simp only [Act.put, List.setIfInBounds_toArray, List.set_cons_zero, List.set_cons_succ]
    refine wpAnyH_take (i := 18) (oi := ⟨some 33, _, _, _, _, _⟩) (v := ?vgb15) rfl (by kernel_rfl) (by kernel_rfl) (by kernel_rfl) (fun _ _ _ h => h) (Or.inl ⟨by rfl, ?hgb15⟩) ⟨kb7, hcc7, hdd7⟩ ?rgb15
    case hgb15 => (intro w' hSw; (try dsimp only at hSw); go_simp; (try with_reducible rfl))
    try simp only [Act.put, List.setIfInBounds_toArray, List.set_cons_zero, List.set_cons_succ]
    refine wpAnyH_ready (rs := [19]) (by kernel_rfl) (by simp) ?_
    refine AllReadyH.cons (o := ⟨some 34, _, _, _, _, _⟩) rfl (fun K' hK' => ?_) AllReadyH.nil
    go_simp
    refine hK'.out _ _ ⟨kb7, hcc7, hdd7⟩ (fun _ => ?_)
    clear hK' K'
    try simp only [Act.put, List.setIfInBounds_toArray, List.set_cons_zero, List.set_cons_succ]
    refine wpAnyH_done (by kernel_rfl) ?_ _
    go_wp2
    go_ret3
    exact ⟨none, 0, _, _, rfl, Grid.nil _ _ _ _ _ _ (fun _ => 0) (fun _ => 0), hb7⟩
  · obtain ⟨rfl, rfl, hz⟩ := hr1 rfl
    have HZ := Lib.hid hz
    clear hz hr0 hr1
    refine wp_region_held_drew (S := (fun w' => w'.heap[w.heap.size]? = some (.cells #[.int .i64 q, .int .i64 f, .int .i64 k, .slice A1 st.length c1, .slice A2 sf.length c2] 27 (0, 0)) ∧ w'.cell? ⟨b, off + P, none⟩ = some (.slice (some ⟨b2, off2, none⟩) m c') ∧ w'.cell? ⟨b2, off2 + T, none⟩ = some (.int .i64 y))) (by kernel_rfl) ⟨kb, hcc, hdd⟩ (fun hS => ?_)
    refine wpAnyH_take (i := 0) (oi := ⟨some 15, _, _, _, _, _⟩) rfl (by kernel_rfl) (by kernel_rfl) (by kernel_rfl) (fun _ _ _ h => h) (yields_load_row rfl 27 (.tmp 5) rfl w.heap.size rfl _ _ _ _ (fun _ h => h.1) Try.underlying27 rfl sizeTrk) hS ?_
    try simp only [Act.put, List.setIfInBounds_toArray, List.set_cons_zero, List.set_cons_succ]
    refine wpAnyH_take (i := 1) (oi := ⟨some 16, _, _, _, _, _⟩) (v := ?vgc1) rfl (by kernel_rfl) (by kernel_rfl) (by kernel_rfl) (fun _ _ _ h => h) (Or.inl ⟨by rfl, ?hgc1⟩) hS ?rgc1
    case hgc1 => (intro w' hSw; (try dsimp only at hSw); go_simp; (try with_reducible rfl))
    try simp only [Act.put, List.setIfInBounds_toArray, List.set_cons_zero, List.set_cons_succ]
    refine wpAnyH_take (i := 2) (oi := ⟨some 17, _, _, _, _, _⟩) (v := ?vgc2) rfl (by kernel_rfl) (by kernel_rfl) (by kernel_rfl) (fun _ _ _ h => h) (Or.inl ⟨by rfl, ?hgc2⟩) hS ?rgc2
    case hgc2 => (intro w' hSw; (try dsimp only at hSw); go_simp; (try with_reducible rfl))
    try simp only [Act.put, List.setIfInBounds_toArray, List.set_cons_zero, List.set_cons_succ]
    refine wpAnyH_take (i := 3) (oi := ⟨some 18, _, _, _, _, _⟩) (v := ?vgc3) rfl (by kernel_rfl) (by kernel_rfl) (by kernel_rfl) (fun _ _ _ h => h) (Or.inl ⟨by rfl, ?hgc3⟩) hS ?rgc3
    case hgc3 => (intro w' hSw; (try dsimp only at hSw); go_simp; (try with_reducible rfl))
    try simp only [Act.put, List.setIfInBounds_toArray, List.set_cons_zero, List.set_cons_succ]
    refine wpAnyH_take (i := 4) (oi := ⟨some 19, _, _, _, _, _⟩) (v := ?vgc4) rfl (by kernel_rfl) (by kernel_rfl) (by kernel_rfl) (fun _ _ _ h => h) (Or.inl ⟨by rfl, ?hgc4⟩) hS ?rgc4
    case hgc4 => (intro w' hSw; (try dsimp only at hSw); go_simp; (try with_reducible rfl))
    try simp only [Act.put, List.setIfInBounds_toArray, List.set_cons_zero, List.set_cons_succ]
    refine wpAnyH_ready (rs := [5]) (by kernel_rfl) (by simp) ?_
    refine AllReadyH.cons (o := ⟨some 20, _, _, _, _, _⟩) rfl (fun K' hK' => ?_) AllReadyH.nil
    go_simp
    go_at_call 64
    refine (trAsked_any q f k A1 A2 _ c1 c2 c3 st sf L (P : Int) (T : Int) x W1.drew (h1.go hb0.drew) (h2.go hb0.drew) ((h3.below hb0.drew).more hb0.drew.size) hc).mono ?_
    rintro e w5 ⟨rfl, hx⟩
    rw [HR.out]
    have hb5 : Below w.heap.size w w5 := hb0.drew.trans (hx.mono hb0.drew.size)
    have kb5 : w5.heap[w.heap.size]? = some (.cells #[.int .i64 q, .int .i64 f, .int .i64 k, .slice A1 st.length c1, .slice A2 sf.length c2] 27 (0, 0)) := (hx.block _ (heap_lt kb)).trans kb
    have hcc5 := (bcell hb5 hbb).trans hc0
    have hdd5 := (bcell hb5 hbb2).trans hd0
    refine hK'.out _ _ ⟨kb5, hcc5, hdd5⟩ (fun _ => ?_)
    clear hK' K'
    try simp only [Act.put, List.setIfInBounds_toArray, List.set_cons_zero, List.set_cons_succ]
    refine wpAnyH_take (i := 6) (oi := ⟨some 21, _, _, _, _, _⟩) (v := ?vgc5) rfl (by kernel_rfl) (by kernel_rfl) (by kernel_rfl) (fun _ _ _ h => h) (Or.inl ⟨by rfl, ?hgc5⟩) ⟨kb5, hcc5, hdd5⟩ ?rgc5
    case hgc5 => (intro w' hSw; (try dsimp only at hSw); go_simp; (try with_reducible rfl))
    try simp only [Act.put, List.setIfInBounds_toArray, List.set_cons_zero, List.set_cons_succ]
    refine wpAnyH_take (i := 7) (oi := ⟨some 22, _, _, _, _, _⟩) (v := ?vgc6) rfl (by kernel_rfl) (by kernel_rfl) (by kernel_rfl) (fun _ _ _ h => h) (Or.inl ⟨by rfl, ?hgc6⟩) ⟨kb5, hcc5, hdd5⟩ ?rgc6
    case hgc6 => (intro w' hSw; (try dsimp only at hSw); go_simp; (try with_reducible rfl))
    try simp only [Act.put, List.setIfInBounds_toArray, List.set_cons_zero, List.set_cons_succ]
    refine wpAnyH_take (i := 8) (oi := ⟨some 23, _, _, _, _, _⟩) rfl (by kernel_rfl) (by kernel_rfl) (by kernel_rfl) (fun _ _ _ h => h) (yields_load_row_t (by rfl) 27 (.tmp 5) rfl w.heap.size rfl _ _ _ _ (fun _ h => h.1) Try.underlying27 rfl sizeTrk) ⟨kb5, hcc5, hdd5⟩ ?_
    try simp only [Act.put, List.setIfInBounds_toArray, List.set_cons_zero, List.set_cons_succ]
    refine wpAnyH_take (i := 9) (oi := ⟨some 24, _, _, _, _, _⟩) (v := ?vgc7) rfl (by kernel_rfl) (by kernel_rfl) (by kernel_rfl) (fun _ _ _ h => h) (Or.inl ⟨by rfl, ?hgc7⟩) ⟨kb5, hcc5, hdd5⟩ ?rgc7
    case hgc7 => (intro w' hSw; (try dsimp only at hSw); go_simp; (try with_reducible rfl))
    try simp only [Act.put, List.setIfInBounds_toArray, List.set_cons_zero, List.set_cons_succ]
    refine wpAnyH_take (i := 10) (oi := ⟨some 25, _, _, _, _, _⟩) (v := ?vgc8) rfl (by kernel_rfl) (by kernel_rfl) (by kernel_rfl) (fun _ _ _ h => h) (Or.inl ⟨by rfl, ?hgc8⟩) ⟨kb5, hcc5, hdd5⟩ ?rgc8
    case hgc8 => (intro w' hSw; (try dsimp only at hSw); go_simp; (try with_reducible rfl))
    try simp only [Act.put, List.setIfInBounds_toArray, List.set_cons_zero, List.set_cons_succ]
    refine wpAnyH_take (i := 11) (oi := ⟨some 26, _, _, _, _, _⟩) (v := ?vgc9) rfl (by kernel_rfl) (by kernel_rfl) (by kernel_rfl) (fun _ _ _ h => h) (Or.inl ⟨by rfl, ?hgc9⟩) ⟨kb5, hcc5, hdd5⟩ ?rgc9
    case hgc9 => (intro w' hSw; (try dsimp only at hSw); go_simp; (try with_reducible rfl))
    try simp only [Act.put, List.setIfInBounds_toArray, List.set_cons_zero, List.set_cons_succ]
    refine wpAnyH_take (i := 12) (oi := ⟨some 27, _, _, _, _, _⟩) (v := ?vgc10) rfl (by kernel_rfl) (by kernel_rfl) (by kernel_rfl) (fun _ _ _ h => h) (Or.inl ⟨by rfl, ?hgc10⟩) ⟨kb5, hcc5, hdd5⟩ ?rgc10
    case hgc10 => (intro w' hSw; (try dsimp only at hSw); go_simp; (try with_reducible rfl))
    try simp only [Act.put, List.setIfInBounds_toArray, List.set_cons_zero, List.set_cons_succ]
    refine wpAnyH_take (i := 13) (oi := ⟨some 28, _, _, _, _, _⟩) (v := ?vgc11) rfl (by kernel_rfl) (by kernel_rfl) (by kernel_rfl) (fun _ _ _ h => h) (Or.inl ⟨by rfl, ?hgc11⟩) ⟨kb5, hcc5, hdd5⟩ ?rgc11
    case hgc11 => (intro w' hSw; (try dsimp only at hSw); go_simp; (try with_reducible rfl))
    try simp only [Act.put, List.setIfInBounds_toArray, List.set_cons_zero, List.set_cons_succ]
    refine wpAnyH_take (i := 14) (oi := ⟨some 29, _, _, _, _, _⟩) (v := ?vgc12) rfl (by kernel_rfl) (by kernel_rfl) (by kernel_rfl) (fun _ _ _ h => h) (Or.inl ⟨by rfl, ?hgc12⟩) ⟨kb5, hcc5, hdd5⟩ ?rgc12
    case hgc12 => (intro w' hSw; (try dsimp only at hSw); go_simp; (try with_reducible rfl))
    try simp only [Act.put, List.setIfInBounds_toArray, List.set_cons_zero, List.set_cons_succ]
    refine wpAnyH_take (i := 15) (oi := ⟨some 30, _, _, _, _, _⟩) (v := ?vgc13) rfl (by kernel_rfl) (by kernel_rfl) (by kernel_rfl) (fun _ _ _ h => h) (Or.inl ⟨by rfl, ?hgc13⟩) ⟨kb5, hcc5, hdd5⟩ ?rgc13
    case hgc13 => (intro w' hSw; (try dsimp only at hSw); go_simp; (try with_reducible rfl))
    try simp only [Act.put, List.setIfInBounds_toArray, List.set_cons_zero, List.set_cons_succ]
    refine wpAnyH_take (i := 16) (oi := ⟨some 31, _, _, _, _, _⟩) (v := ?vgc14) rfl (by kernel_rfl) (by kernel_rfl) (by kernel_rfl) (fun _ _ _ h => h) (Or.inl ⟨by rfl, ?hgc14⟩) ⟨kb5, hcc5, hdd5⟩ ?rgc14
    case hgc14 => (intro w' hSw; (try dsimp only at hSw); go_simp; (try with_reducible rfl))
    try simp only [Act.put, List.setIfInBounds_toArray, List.set_cons_zero, List.set_cons_succ]
    refine wpAnyH_ready (rs := [17]) (by kernel_rfl) (by simp) ?_
    refine AllReadyH.cons (o := ⟨some 32, _, _, _, _, _⟩) rfl (fun K' hK' => ?_) AllReadyH.nil
    go_simp
    go_at_call 65
    refine (trCan_any q f k A1 A2 st.length c1 sf.length c2 y x _ hxx2.2 q60 hxb.1 hx8).mono ?_
    rintro e w7 ⟨rfl, hx7⟩
    rw [HCN2.out]
    have hb7 : Below w.heap.size w w7 := hb5.trans (hx7.mono hb5.size)
    have kb7 : w7.heap[w.heap.size]? = some (.cells #[.int .i64 q, .int .i64 f, .int .i64 k, .slice A1 st.length c1, .slice A2 sf.length c2] 27 (0, 0)) := (hx7.block _ (heap_lt kb5)).trans kb5
    have hcc7 := (bcell hb7 hbb).trans hc0
    have hdd7 := (bcell hb7 hbb2).trans hd0
    refine hK'.out _ _ ⟨kb7, hcc7, hdd7⟩ (fun _ => ?_)
    clear hK' K'
    try simp only [Act.put, List.setIfInBounds_toArray, List.set_cons_zero, List.set_cons_succ]
    refine wpAnyH_take (i := 18) (oi := ⟨some 33, _, _, _, _, _⟩) (v := ?vgc15) rfl (by kernel_rfl) (by kernel_rfl) (by kernel_rfl) (fun _ _ _ h => h) (Or.inl ⟨by rfl, ?hgc15⟩) ⟨kb7, hcc7, hdd7⟩ ?rgc15
    case hgc15 => (intro w' hSw; (try dsimp only at hSw); go_simp; (try with_reducible rfl))
    try simp only [Act.put, List.setIfInBounds_toArray, List.set_cons_zero, List.set_cons_succ]
    refine wpAnyH_ready (rs := [19]) (by kernel_rfl) (by simp) ?_
    refine AllReadyH.cons (o := ⟨some 34, _, _, _, _, _⟩) rfl (fun K' hK' => ?_) AllReadyH.nil
    go_simp
    refine hK'.out _ _ ⟨kb7, hcc7, hdd7⟩ (fun _ => ?_)
    clear hK' K'
    try simp only [Act.put, List.setIfInBounds_toArray, List.set_cons_zero, List.set_cons_succ]
    refine wpAnyH_done (by kernel_rfl) ?_ _
    have qq := fun i => cell_of_row w7 w.heap.size i _ _ _ kb7
    go_wp2_with fail
    refine (trGo_any q f k A1 A2 _ c1 c2 c3 st sf L P T x _ (h1.go hb7) (h2.go hb7) ((h3.below hb7).more hb7.size) hc HTT.out HST.out hlt HTL.out hxb.1 hx8 HCN.out z HZ.out _ rfl).mono ?_
    rintro e w8 ⟨A8, c8, Bk8, C8, rfl, hG8, hx8'⟩
    go_wp2_with fail
    go_ret3
    exact ⟨A8, c8, Bk8, C8, rfl, hG8.mono hb7.size, hb7.trans (hx8'.mono hb7.size)⟩

theorem goToken_both (q f k : Int) (st sf : List Int) (L : List (List Int)) (p t x : Int) : ∃ (n : Nat) (len : Nat → Nat) (F : Nat → Nat → Int) (z : Int) (ok : Bool), n ≤ 1048576 ∧ (∀ y, len y ≤ 1048576) ∧
    (∀ (A1 A2 : Option Addr) (c1 c2 : Nat) (A3 : Option Addr) (c3 : Nat) (w : World), RI w w.heap.size A1 st → RI w w.heap.size A2 sf → st.length ≤ c1 → RG w w.heap.size A3 L → Calls Try.prog 34 #[.agg #[.int .i64 q, .int .i64 f, .int .i64 k, .slice A1 st.length c1, .slice A2 sf.length c2], .slice A3 L.length c3, .int .i64 p, .int .i64 t, .int .i64 x] w (GridIBack w n len F z ok)) ∧
    (∀ (A1 A2 : Option Addr) (c1 c2 : Nat) (A3 : Option Addr) (c3 : Nat) (w : World), RI w w.heap.size A1 st → RI w w.heap.size A2 sf → st.length ≤ c1 → RG w w.heap.size A3 L → Calls Try.prog 35 #[.agg #[.int .i64 q, .int .i64 f, .int .i64 k, .slice A1 st.length c1, .slice A2 sf.length c2], .slice A3 L.length c3, .int .i64 p, .int .i64 t, .int .i64 x] w (GridIBack w n len F z ok)) := by
  cases h : askB q f k st sf L p t x
  · exact ⟨0, fun _ => 0, fun _ _ => 0, 0, false, by omega, fun _ => (by show 0 ≤ 1048576; omega), fun A1 A2 c1 c2 A3 c3 w a b c d => specGo_ask q f k A1 A2 A3 c1 c2 c3 st sf L p t x w a b d c h, fun A1 A2 c1 c2 A3 c3 w a b c d => implGo_ask q f k A1 A2 A3 c1 c2 c3 st sf L p t x w a b d c h⟩
  · have hT := (state_is (Bool.and_eq_true_iff.1 h).1).1
    have hS := (state_is (Bool.and_eq_true_iff.1 h).1).2
    cases hc : canB q f (stF q L p.toNat t.toNat) x
    · exact ⟨0, fun _ => k.toNat, fun _ _ => 0, 0, false, by omega, fun _ => (by have := hT.k4; show k.toNat ≤ 1048576; omega), fun A1 A2 c1 c2 A3 c3 w a b c d => specGo_any q f k A1 A2 A3 c1 c2 c3 st sf L p t x w a b d c h _ hc _ _ _ (fun _ => ⟨rfl, rfl⟩) (fun e => by cases e), fun A1 A2 c1 c2 A3 c3 w a b c d => implGo_any q f k A1 A2 A3 c1 c2 c3 st sf L p t x w a b d c h _ hc _ _ _ (fun _ => ⟨rfl, rfl⟩) (fun e => by cases e)⟩
    · exact ⟨L.length, fun _ => k.toNat, _, _, true, by have := hS.len; have := hT.n4; omega, fun _ => (by have := hT.k4; show k.toNat ≤ 1048576; omega), fun A1 A2 c1 c2 A3 c3 w a b c d => specGo_any q f k A1 A2 A3 c1 c2 c3 st sf L p t x w a b d c h _ hc _ _ _ (fun e => by cases e) (fun _ => ⟨rfl, rfl, rfl⟩), fun A1 A2 c1 c2 A3 c3 w a b c d => implGo_any q f k A1 A2 A3 c1 c2 c3 st sf L p t x w a b d c h _ hc _ _ _ (fun e => by cases e) (fun _ => ⟨rfl, rfl, rfl⟩)⟩

end Go.Proofs.Ytpecocmgclancaa

/-
  Pairs: the faces by which it matters who moves: the model's PairMatters, and both.
-/
import Derived.Test.YtblpfjjnlfjloaaC5zk
import Derived.Test.YtblpfjjnlfjloaaM54
import Derived.Test.YtblpfjjnlfjloaaC5a
import Derived.BigRegion
namespace Go.Proofs.Ytblpfjjnlfjloaa
open Go.RowKit

/-- A whole struct is loaded, behind a guard that holds. -/
theorem yields_load_row_g {P : Program} {ops : Array Oper} {S : World → Prop} {a : Act} {o : Oper} (hw : Region.wanted o (yielded ops a.tmps) = true) (ty : TypeId) (x : Operand) (hop : o.op = .load ty x) (g : Nat) (hx : a.eval x = .pointer (some ⟨g, 0, none⟩)) (t : TypeId) (cs : Array Value) (fr : Nat × Nat) (d : TypeDesc)
    (hS : ∀ w, S w → w.heap[g]? = some (.cells cs t fr)) (hu : P.underlying ty = some d) (hd : (match d with | .struct _ | .array _ _ => true | _ => false) = true) (hi : (P.info? ty).map (·.size) = some cs.size) : YieldsIf P ops S o (.agg cs) a :=
  .inl ⟨hw, fun w hw => by
    unfold execOp
    simp only [hop, hx, Instr.loadAt, Instr.sureAddr, Sem.run_bind, Sem.run_pure, Result.andThen_ok, run_loadVar_row w g t ty cs fr d (hS w hw) hu hd hi]⟩
theorem OI.lower {w : World} {lo lo' : Nat} {t : TypeId} {A : Option Addr} {n : Nat} {f : Nat → Int} (h : OI w lo t A n f) (hl : lo' ≤ lo) : OI w lo' t A n f := h.imp id fun ⟨g, e, h1, h2⟩ => ⟨g, e, Nat.le_trans hl h1, h2⟩
theorem eq_frac (x y a b : Int) (w : World) : (Op.equalIn 10000 61 (.agg #[.int .i64 x, .int .i64 y]) (.agg #[.int .i64 a, .int .i64 b])).run Try.prog w = .ok (x == a && y == b) w := by
  have hS : Try.prog.underlying 61 = some (.struct (Try.prog.fieldsOf 61)) := by kernel_rfl
  have hp : Try.prog.stoodInHeld 61 = false := by kernel_rfl
  rw [show (10000 : Nat) = 9999 + 1 from rfl, run_equalIn_agg w 9999 _ _ _ hS hp]
  simp only [Program.fieldsOf, Try.underlying61]
  go_simp
  by_cases h1 : x = a <;> by_cases h2 : y = b <;> simp [h1, h2]
theorem neq_frac (x y a b : Int) (w : World) : (binOp .neq 61 (.agg #[.int .i64 x, .int .i64 y]) (.agg #[.int .i64 a, .int .i64 b])).run Try.prog w = .ok (.bool (!(x == a && y == b))) w := by
  rw [run_neq_struct, eq_frac]; rfl

set_option maxRecDepth 100000 in
set_option maxHeartbeats 1000000 in
theorem implMatters_no (s f a b : Int) (w : World) (hp : pairOk s f a b = false) :
    Calls Try.prog 31 #[.int .i64 s, .int .i64 f, .int .i64 a, .int .i64 b] w (IntsBack w ([], false)) := by
  have HC := Lib.hid (fun W => bestPlan_no s f a b W hp)
  clear hp
  go_enter Try.func31, Try.ntmps31
  go_wp2_with fail
  refine (HC.out _).mono ?_
  rintro e w2 ⟨rfl, hx⟩
  have kz : (w2.alloc (.cells Try.zeroCells65 65)).heap[w2.heap.size]? = some (.cells Try.zeroCells65 65 (0, 0)) := heap_alloc_at _ _ _ rfl
  go_wp2_with (refine wpList_store_row rfl 65 (.tmp 10) (.tmp 21) rfl w2.heap.size rfl 65 Try.zeroCells65 Try.zeroCells65 rfl kz ?_ ?_ planZero_one ?_; rfl; (rw [planZero_size]; exact sizePlan); intro w3 hC3 hg3 hs3)
  go_ret2
  exact ⟨none, 0, rfl, .inl rfl, (hx.alloc hx.size _).grown hg3 (by have := hx.size; simp; omega) (fun i h => by cases h; exact hx.size)⟩

set_option maxRecDepth 100000 in
set_option maxHeartbeats 4000000 in
theorem implMatters_yes (s f x y : Nat) (T : Tab) (hT : T = bT true s f) (w : World) (hp : pairOk s f x y = true) (hs1 : 1 ≤ s) (hs : s ≤ 6) (hf1 : 1 ≤ f) (hf : f ≤ 4) (hxs : x ≤ s) (hys : y ≤ s) :
    Calls Try.prog 31 #[.int .i64 s, .int .i64 f, .int .i64 x, .int .i64 y] w (IntsBack w (mattL T s x y f, true)) := by
  obtain ⟨i0, hi, hz0, hz1, hz2⟩ := info_parts infoInt1
  have HC := Lib.hid (fun W => bestPlan_yes s f x y T hT W hp hs1 hs hf1 hf)
  have hall : ∀ u v, u ≤ s → v ≤ s → allT T s u v = T u v := fun u v h1 h2 => by unfold allT; rw [if_pos ⟨h1, h2⟩]
  have HALL := Lib.hid hall
  have sizeB : (Try.prog.info? 71).map (·.size) = some 2 := by kernel_rfl
  clear hp hT hall
  go_enter Try.func31, Try.ntmps31
  go_wp2_with fail
  refine (HC.out _).mono ?_
  rintro e w2 ⟨rfl, hx⟩
  have kz : (w2.alloc (.cells Try.zeroCells65 65)).heap[w2.heap.size]? = some (.cells Try.zeroCells65 65 (0, 0)) := heap_alloc_at _ _ _ rfl
  go_wp2_with (refine wpList_store_row rfl 65 (.tmp 10) (.tmp 21) rfl w2.heap.size rfl 65 Try.zeroCells65 (planC s f shortV (allT T s)) rfl kz ?_ ?_ (planC_one _ _ _ _ rfl) ?_; (rw [planZero_size, planC_size]); (rw [planC_size]; exact sizePlan); intro w3 hC3 hg3 hs3; have hP3 : PA w3 w2.heap.size 65 s f shortV (allT T s) := hC3)
  obtain ⟨W5, hW5⟩ : ∃ W5, W5 = w3.alloc (.cells #[.int .i64 (x : Int), .int .i64 (y : Int)] 71) := ⟨_, rfl⟩
  have hB3 : Below w.heap.size w w3 := (hx.alloc hx.size _).grown hg3 (by have := hx.size; simp; omega) (fun i h => by cases h; exact hx.size)
  have hz3 : w3.heap.size = w2.heap.size + 1 := by rw [hs3]; simp
  have hB5 : Below w.heap.size w W5 := by rw [hW5]; exact hB3.alloc hB3.size _
  have P5 : PA W5 w2.heap.size 65 s f shortV (allT T s) := by rw [hW5]; exact hP3.alloc _
  have k5 : W5.heap[w2.heap.size + 1]? = some (.cells #[.int .i64 (x : Int), .int .i64 (y : Int)] 71 (0, 0)) := by rw [hW5]; exact heap_alloc_at _ _ _ hz3.symm
  have hgp := P5.lt
  have hgb := heap_lt k5
  obtain ⟨gp, hgpe⟩ : ∃ gp, gp = w2.heap.size := ⟨_, rfl⟩
  have HP5 := Lib.hid P5
  have HK5 := Lib.hid k5
  have HB5 := Lib.hid hB5
  rw [← hW5]
  rw [← hgpe] at HP5 HK5 hgp hgb ⊢
  have hwl : w.heap.size ≤ W5.heap.size := hB5.size
  clear hW5 hz3 kz hP3 hC3 hg3 hs3 hx hB3 hB5 P5 k5 hgpe
  go_loopw [13, 14] (fun v i wr => ∃ k : Nat, k ≤ f ∧ i = .int .i64 ((k : Int) + 1) ∧ Below W5.heap.size W5 wr ∧ wr.ownsRow W5.heap.size 3 1 v (mattL T s x y k).length ((mattL T s x y k).map (Value.int .i64))) (fun _ i _ => f + 1 - (intOf i).toNat)
  case atStart => exact ⟨0, by omega, rfl, Below.refl _ _, World.ownsRow_nil _ _ _ _⟩
  case round =>
    obtain ⟨k, hk, rfl, hB, hown⟩ := hrel
    have hsz := hB.size
    have hlen := mattL_len T s x y k
    have hf' := own_from hown
    have hPw : PA wr gp 65 s f shortV (allT T s) := HP5.out.below hB hgp
    have kbw : wr.heap[gp + 1]? = some (.cells #[.int .i64 (x : Int), .int .i64 (y : Int)] 71 (0, 0)) := (hB.block _ hgb).trans HK5.out
    by_cases hlt : k < f
    · obtain ⟨face, hfe⟩ : ∃ face, face = k + 1 := ⟨_, rfl⟩
      have ei : (k : Int) + 1 = (face : Int) := by omega
      have hface : face ≤ f := by omega
      have hface' : (face : Int) ≤ (f : Int) := by omega
      have hf1' : 1 ≤ face := by omega
      have wf1 : IntKind.i64.wrap ((face : Int) + 1) = (face : Int) + 1 := IntWalk.i64_in _ (by omega)
      have hmovers := fun W h => movers_any gp s f 0 (fun i => jumpOf [] i) x y face W h (by omega) (by omega) (by omega) (by omega) (by omega) (by omega)
      obtain ⟨L, hL⟩ : ∃ L, L = movK (s : Int) (x : Int) (y : Int) (face : Int) 2 := ⟨_, rfl⟩
      have hLn := movK_nat s x y face
      rw [← hL] at hLn hmovers
      have HMO := Lib.hid hmovers
      have hsucc := mattL_succ T s x y k
      rw [← hfe] at hsucc
      rw [ei]
      have hdrop : k < face := by omega
      have HFE := Lib.hid hfe
      have HEI := Lib.hid ei
      clear hmovers hL hfe ei
      obtain ⟨wq, hwq⟩ : ∃ wq : Nat, wq = wr.heap.size := ⟨_, rfl⟩
      by_cases hboth : x + face ≤ s ∧ y + face ≤ s
      · have hlL : L.length = 2 := by rw [hLn, if_pos hboth.1, if_pos hboth.2]; rfl
        have e1 : behP (allT T s) x y 1 face = T x (y + face) := HALL.out _ _ hxs hboth.2
        have e0 : behP (allT T s) x y 0 face = T (x + face) y := HALL.out _ _ hboth.1 hys
        have hM1 := fun W h => meanBehind_any gp s f x y 1 face shortV (allT T s) W h hs (by omega) (.inr ⟨rfl, hboth.2, by omega⟩)
        have hM0 := fun W h => meanBehind_any gp s f x y 0 face shortV (allT T s) W h hs (by omega) (.inl ⟨rfl, hboth.1, by omega⟩)
        rw [e1] at hM1
        rw [e0] at hM0
        obtain ⟨p, hp⟩ : ∃ p, p = T (x + face) y := ⟨_, rfl⟩
        obtain ⟨q, hq⟩ : ∃ q, q = T x (y + face) := ⟨_, rfl⟩
        obtain ⟨D, hD⟩ : ∃ D, D = diffB T s x y face := ⟨_, rfl⟩
        have hDv : D = !(decide (p.1 = q.1) && decide (p.2 = q.2)) := by rw [hD]; unfold diffB; rw [decide_eq_true hboth, ← hp, ← hq]; rfl
        rw [← hp] at hM0
        rw [← hq] at hM1
        rw [← hD] at hsucc
        have hneq : ∀ w, (binOp .neq 61 (.agg #[.int .i64 (p.1 : Nat), .int .i64 (p.2 : Nat)]) (.agg #[.int .i64 (q.1 : Nat), .int .i64 (q.2 : Nat)])).run Try.prog w = .ok (.bool D) w := by
          intro w
          rw [neq_frac, hDv]
          by_cases h1 : p.1 = q.1 <;> by_cases h2 : p.2 = q.2 <;> simp [h1, h2] <;> omega
        have hl2 : ((L.length : Int) == 2) = true := by rw [hlL]; rfl
        have HS := Lib.hid hsucc
        have HM0 := Lib.hid hM0; have HM1 := Lib.hid hM1
        clear hsucc hLn hboth hD hDv hp hq e0 e1 hM0 hM1
        rw [hlL] at HMO
        go_upto_region 9 with fail
        refine wp_region_held_drew (S := (fun w' => Below wr.heap.size wr w')) (by kernel_rfl) ((Below.refl wr.heap.size wr).drew) (fun hS => ?_)
        refine wpAnyH_take (i := 1) (oi := ⟨some 34, _, _, _, _, _⟩) rfl (by kernel_rfl) (by kernel_rfl) (by kernel_rfl) (fun _ _ _ h => h) (yields_load_row rfl 71 (.tmp 12) rfl (gp + 1) rfl _ _ _ _ (fun _ h => (h.block (gp + 1) (heap_lt kbw)).trans kbw) Try.underlying71 rfl sizeB) hS ?_
        try simp only [Act.put, List.setIfInBounds_toArray, List.set_cons_zero, List.set_cons_succ]
        refine wpAnyH_take (i := 0) (oi := ⟨some 33, _, _, _, _, _⟩) (v := ?vb1) rfl (by kernel_rfl) (by kernel_rfl) (by kernel_rfl) (fun _ _ _ h => h) (Or.inl ⟨by rfl, ?hb1⟩) hS ?rb1
        case hb1 => (intro w' hSw; (try dsimp only at hSw); go_simp; (try with_reducible rfl))
        try simp only [Act.put, List.setIfInBounds_toArray, List.set_cons_zero, List.set_cons_succ]
        refine wpAnyH_take (i := 2) (oi := ⟨some 35, _, _, _, _, _⟩) (v := ?vb2) rfl (by kernel_rfl) (by kernel_rfl) (by kernel_rfl) (fun _ _ _ h => h) (Or.inl ⟨by rfl, ?hb2⟩) hS ?rb2
        case hb2 => (intro w' hSw; (try dsimp only at hSw); go_simp; (try with_reducible rfl))
        try simp only [Act.put, List.setIfInBounds_toArray, List.set_cons_zero, List.set_cons_succ]
        refine wpAnyH_ready (rs := [3]) (by kernel_rfl) (by simp) ?_
        refine AllReadyH.cons (o := ⟨some 36, _, _, _, _, _⟩) rfl (fun K' hK' => ?_) AllReadyH.nil
        go_simp
        go_at_call 53
        refine (HMO.out _ (hPw.below hS hPw.lt).cv).mono ?_
        rintro e w9 ⟨A9, c9, rfl, ho9, hx9⟩
        have hS1 : Below wr.heap.size wr w9 := keepB hS (Nat.le_refl _) hx9
        refine hK'.out _ _ hS1 (fun _ => ?_)
        clear hK' K'
        try simp only [Act.put, List.setIfInBounds_toArray, List.set_cons_zero, List.set_cons_succ]
        refine wpAnyH_ready (rs := [4]) (by kernel_rfl) (by simp) ?_
        refine AllReadyH.cons (o := ⟨some 37, _, _, _, _, _⟩) rfl (fun K' hK' => ?_) AllReadyH.nil
        go_simp
        refine hK'.out _ _ hS1 (fun _ => ?_)
        clear hK' K'
        try simp only [Act.put, List.setIfInBounds_toArray, List.set_cons_zero, List.set_cons_succ]
        refine wpAnyH_take (i := 5) (oi := ⟨some 38, _, _, _, _, _⟩) (v := ?vb3) rfl (by kernel_rfl) (by kernel_rfl) (by kernel_rfl) (fun _ _ _ h => h) (Or.inl ⟨by rfl, ?hb3⟩) hS1 ?rb3
        case hb3 => (intro w' hSw; (try dsimp only at hSw); go_simp; (try with_reducible rfl))
        try simp only [Act.put, List.setIfInBounds_toArray, List.set_cons_zero, List.set_cons_succ]
        refine wpAnyH_take (i := 6) (oi := ⟨some 39, _, _, _, _, _⟩) (v := ?vb4) rfl (by kernel_rfl) (by kernel_rfl) (by kernel_rfl) (fun _ _ _ h => h) (Or.inl ⟨by rfl, ?hb4⟩) hS1 ?rb4
        case hb4 => (intro w' hSw; (try dsimp only at hSw); go_simp; (try with_reducible rfl))
        try simp only [Act.put, List.setIfInBounds_toArray, List.set_cons_zero, List.set_cons_succ]
        refine wpAnyH_take (i := 7) (oi := ⟨some 40, _, _, _, _, _⟩) rfl (by kernel_rfl) (by kernel_rfl) (by kernel_rfl) (fun _ _ _ h => h) (yields_load_row_g (by rfl) 71 (.tmp 12) rfl (gp + 1) rfl _ _ _ _ (fun _ h => (h.block (gp + 1) (heap_lt kbw)).trans kbw) Try.underlying71 rfl sizeB) hS1 ?_
        try simp only [Act.put, List.setIfInBounds_toArray, List.set_cons_zero, List.set_cons_succ]
        refine wpAnyH_take (i := 10) (oi := ⟨some 43, _, _, _, _, _⟩) rfl (by kernel_rfl) (by kernel_rfl) (by kernel_rfl) (fun _ _ _ h => h) (yields_load_row_g (by rfl) 71 (.tmp 12) rfl (gp + 1) rfl _ _ _ _ (fun _ h => (h.block (gp + 1) (heap_lt kbw)).trans kbw) Try.underlying71 rfl sizeB) hS1 ?_
        try simp only [Act.put, List.setIfInBounds_toArray, List.set_cons_zero, List.set_cons_succ]
        refine wpAnyH_take (i := 8) (oi := ⟨some 41, _, _, _, _, _⟩) (v := ?vb5) rfl (by kernel_rfl) (by kernel_rfl) (by kernel_rfl) (fun _ _ _ h => h) (Or.inl ⟨by rfl, ?hb5⟩) hS1 ?rb5
        case hb5 => (intro w' hSw; (try dsimp only at hSw); go_simp; (try with_reducible rfl))
        try simp only [Act.put, List.setIfInBounds_toArray, List.set_cons_zero, List.set_cons_succ]
        refine wpAnyH_take (i := 11) (oi := ⟨some 44, _, _, _, _, _⟩) (v := ?vb6) rfl (by kernel_rfl) (by kernel_rfl) (by kernel_rfl) (fun _ _ _ h => h) (Or.inl ⟨by rfl, ?hb6⟩) hS1 ?rb6
        case hb6 => (intro w' hSw; (try dsimp only at hSw); go_simp; (try with_reducible rfl))
        try simp only [Act.put, List.setIfInBounds_toArray, List.set_cons_zero, List.set_cons_succ]
        refine wpAnyH_ready (rs := [9]) (by kernel_rfl) (by simp) ?_
        refine AllReadyH.cons (o := ⟨some 42, _, _, _, _, _⟩) rfl (fun K' hK' => ?_) AllReadyH.nil
        go_simp
        go_at_call 54
        refine (HM0.out _ (hPw.below (by first | exact hSl | exact hS1) hPw.lt)).mono ?_
        rintro e wl ⟨rfl, hxl⟩
        have hSl : Below wr.heap.size wr wl := by first | exact keepB hSl (Nat.le_refl _) hxl | exact keepB hS1 (Nat.le_refl _) hxl
        refine hK'.out _ _ hSl (fun _ => ?_)
        clear hK' K'
        try simp only [Act.put, List.setIfInBounds_toArray, List.set_cons_zero, List.set_cons_succ]
        refine wpAnyH_ready (rs := [12]) (by kernel_rfl) (by simp) ?_
        refine AllReadyH.cons (o := ⟨some 45, _, _, _, _, _⟩) rfl (fun K' hK' => ?_) AllReadyH.nil
        go_simp
        go_at_call 54
        refine (HM1.out _ (hPw.below (by first | exact hSl | exact hS1) hPw.lt)).mono ?_
        rintro e wl ⟨rfl, hxl⟩
        have hSl : Below wr.heap.size wr wl := by first | exact keepB hSl (Nat.le_refl _) hxl | exact keepB hS1 (Nat.le_refl _) hxl
        refine hK'.out _ _ hSl (fun _ => ?_)
        clear hK' K'
        try simp only [Act.put, List.setIfInBounds_toArray, List.set_cons_zero, List.set_cons_succ]
        refine wpAnyH_take (i := 13) (oi := ⟨some 46, _, _, _, _, _⟩) (v := ?vb7) rfl (by kernel_rfl) (by kernel_rfl) (by kernel_rfl) (fun _ _ _ h => h) (Or.inl ⟨by rfl, ?hb7⟩) hSl ?rb7
        case hb7 => (intro w' hSw; (try dsimp only at hSw); go_simp; (try with_reducible rfl))
        try simp only [Act.put, List.setIfInBounds_toArray, List.set_cons_zero, List.set_cons_succ]
        refine wpAnyH_ready (rs := [14]) (by kernel_rfl) (by simp) ?_
        refine AllReadyH.cons (o := ⟨some 47, _, _, _, _, _⟩) rfl (fun K' hK' => ?_) AllReadyH.nil
        go_simp
        refine hK'.out _ _ hSl (fun _ => ?_)
        clear hK' K'
        try simp only [Act.put, List.setIfInBounds_toArray, List.set_cons_zero, List.set_cons_succ]
        refine wpAnyH_done (by kernel_rfl) ?_ _
        all_goals
          have hB9 := hB.trans (hSl.mono hsz)
          have hown9 := own_below hown hSl
          have hsz9 := hSl.size
          have hf9 := own_from hown9
          cases D
          · have HS2 := HS.out
            simp only [Bool.false_eq_true, if_false] at HS2
            have HS3 := Lib.hid HS2
            clear HS2
            go_wp2_with fail
            go_roundw
            case rel => exact ⟨k + 1, by have := HFE.out; omega, by rw [HFE.out], hB9, by rw [show mattL T s x y (k + 1) = mattL T s x y k by rw [← HFE.out]; exact HS3.out]; exact hown9⟩
            case measure => have := HFE.out; simp [intOf] <;> omega
          · have HS2 := HS.out
            simp only [if_true] at HS2
            have HS3 := Lib.hid HS2
            clear HS2
            go_wp2_with (at_builtin; go_loud (refine wpList_append_own _ rfl _ _ 30 rfl W5.heap.size 3 i0 (.int .i64 0) 1 8 Try.underlying30 hi hz0 hz1 hz2 rfl (by decide) _ _ _ rfl (hown9.alloc _) ⟨wl.heap.size, 0, none⟩ 1 1 [.int .i64 (face : Int)] rfl rfl (cell_new1 _ _ _) (one_int _) (by unfold maxLen; omega) (by omega) (by simp; omega) ?_; intro v1 w4 hown4 hg4 _))
            go_roundw
            case rel => exact ⟨k + 1, by have := HFE.out; omega, by rw [HFE.out], (hB9.alloc (by omega) _).grown hg4 (by simp; omega) (fun j hj => hf9 j hj), by
              rw [show mattL T s x y (k + 1) = mattL T s x y k ++ [(face : Int)] by rw [← HFE.out]; exact HS3.out, List.length_append, List.map_append]; exact hown4⟩
            case measure => have := HFE.out; simp [intOf] <;> omega
      · have hlL : ¬ L.length = 2 := by
          rw [hLn]
          by_cases h1 : x + face ≤ s
          · rw [if_pos h1, if_neg (fun h2 => hboth ⟨h1, h2⟩)]; simp
          · rw [if_neg h1]; by_cases h2 : y + face ≤ s <;> simp [h2]
        have hd : diffB T s x y face = false := by unfold diffB; rw [decide_eq_false hboth]; rfl
        rw [hd] at hsucc
        simp only [Bool.false_eq_true, if_false] at hsucc
        have hne : ((L.length : Int) == 2) = false := by simp; omega
        have HS := Lib.hid hsucc
        clear hsucc hLn hboth hd
        go_upto_region 9 with fail
        refine wp_region_held_drew (S := (fun w' => Below wr.heap.size wr w')) (by kernel_rfl) ((Below.refl wr.heap.size wr).drew) (fun hS => ?_)
        refine wpAnyH_take (i := 1) (oi := ⟨some 34, _, _, _, _, _⟩) rfl (by kernel_rfl) (by kernel_rfl) (by kernel_rfl) (fun _ _ _ h => h) (yields_load_row rfl 71 (.tmp 12) rfl (gp + 1) rfl _ _ _ _ (fun _ h => (h.block (gp + 1) (heap_lt kbw)).trans kbw) Try.underlying71 rfl sizeB) hS ?_
        try simp only [Act.put, List.setIfInBounds_toArray, List.set_cons_zero, List.set_cons_succ]
        refine wpAnyH_take (i := 0) (oi := ⟨some 33, _, _, _, _, _⟩) (v := ?va1) rfl (by kernel_rfl) (by kernel_rfl) (by kernel_rfl) (fun _ _ _ h => h) (Or.inl ⟨by rfl, ?ha1⟩) hS ?ra1
        case ha1 => (intro w' hSw; (try dsimp only at hSw); go_simp; (try with_reducible rfl))
        try simp only [Act.put, List.setIfInBounds_toArray, List.set_cons_zero, List.set_cons_succ]
        refine wpAnyH_take (i := 2) (oi := ⟨some 35, _, _, _, _, _⟩) (v := ?va2) rfl (by kernel_rfl) (by kernel_rfl) (by kernel_rfl) (fun _ _ _ h => h) (Or.inl ⟨by rfl, ?ha2⟩) hS ?ra2
        case ha2 => (intro w' hSw; (try dsimp only at hSw); go_simp; (try with_reducible rfl))
        try simp only [Act.put, List.setIfInBounds_toArray, List.set_cons_zero, List.set_cons_succ]
        refine wpAnyH_ready (rs := [3]) (by kernel_rfl) (by simp) ?_
        refine AllReadyH.cons (o := ⟨some 36, _, _, _, _, _⟩) rfl (fun K' hK' => ?_) AllReadyH.nil
        go_simp
        go_at_call 53
        refine (HMO.out _ (hPw.below hS hPw.lt).cv).mono ?_
        rintro e w9 ⟨A9, c9, rfl, ho9, hx9⟩
        have hS1 : Below wr.heap.size wr w9 := keepB hS (Nat.le_refl _) hx9
        refine hK'.out _ _ hS1 (fun _ => ?_)
        clear hK' K'
        try simp only [Act.put, List.setIfInBounds_toArray, List.set_cons_zero, List.set_cons_succ]
        refine wpAnyH_ready (rs := [4]) (by kernel_rfl) (by simp) ?_
        refine AllReadyH.cons (o := ⟨some 37, _, _, _, _, _⟩) rfl (fun K' hK' => ?_) AllReadyH.nil
        go_simp
        refine hK'.out _ _ hS1 (fun _ => ?_)
        clear hK' K'
        try simp only [Act.put, List.setIfInBounds_toArray, List.set_cons_zero, List.set_cons_succ]
        refine wpAnyH_take (i := 5) (oi := ⟨some 38, _, _, _, _, _⟩) (v := ?va3) rfl (by kernel_rfl) (by kernel_rfl) (by kernel_rfl) (fun _ _ _ h => h) (Or.inl ⟨by rfl, ?ha3⟩) hS1 ?ra3
        case ha3 => (intro w' hSw; (try dsimp only at hSw); go_simp; (try with_reducible rfl))
        try simp only [Act.put, List.setIfInBounds_toArray, List.set_cons_zero, List.set_cons_succ]
        refine wpAnyH_take (i := 6) (oi := ⟨some 39, _, _, _, _, _⟩) (v := ?va4) rfl (by kernel_rfl) (by kernel_rfl) (by kernel_rfl) (fun _ _ _ h => h) (Or.inl ⟨by rfl, ?ha4⟩) hS1 ?ra4
        case ha4 => (intro w' hSw; (try dsimp only at hSw); go_simp; (try with_reducible rfl))
        try simp only [Act.put, List.setIfInBounds_toArray, List.set_cons_zero, List.set_cons_succ]
        refine wpAnyH_take (i := 7) (oi := ⟨some 40, _, _, _, _, _⟩) (v := undef) rfl (by kernel_rfl) (by kernel_rfl) (by kernel_rfl) (fun _ _ _ h => h) (Or.inr ⟨by rfl, rfl⟩) hS1 ?ra5
        try simp only [Act.put, List.setIfInBounds_toArray, List.set_cons_zero, List.set_cons_succ]
        refine wpAnyH_take (i := 8) (oi := ⟨some 41, _, _, _, _, _⟩) (v := undef) rfl (by kernel_rfl) (by kernel_rfl) (by kernel_rfl) (fun _ _ _ h => h) (Or.inr ⟨by rfl, rfl⟩) hS1 ?ra6
        try simp only [Act.put, List.setIfInBounds_toArray, List.set_cons_zero, List.set_cons_succ]
        refine wpAnyH_take (i := 9) (oi := ⟨some 42, _, _, _, _, _⟩) (v := undef) rfl (by kernel_rfl) (by kernel_rfl) (by kernel_rfl) (fun _ _ _ h => h) (Or.inr ⟨by rfl, rfl⟩) hS1 ?ra7
        try simp only [Act.put, List.setIfInBounds_toArray, List.set_cons_zero, List.set_cons_succ]
        refine wpAnyH_take (i := 10) (oi := ⟨some 43, _, _, _, _, _⟩) (v := undef) rfl (by kernel_rfl) (by kernel_rfl) (by kernel_rfl) (fun _ _ _ h => h) (Or.inr ⟨by rfl, rfl⟩) hS1 ?ra8
        try simp only [Act.put, List.setIfInBounds_toArray, List.set_cons_zero, List.set_cons_succ]
        refine wpAnyH_take (i := 11) (oi := ⟨some 44, _, _, _, _, _⟩) (v := undef) rfl (by kernel_rfl) (by kernel_rfl) (by kernel_rfl) (fun _ _ _ h => h) (Or.inr ⟨by rfl, rfl⟩) hS1 ?ra9
        try simp only [Act.put, List.setIfInBounds_toArray, List.set_cons_zero, List.set_cons_succ]
        refine wpAnyH_take (i := 12) (oi := ⟨some 45, _, _, _, _, _⟩) (v := undef) rfl (by kernel_rfl) (by kernel_rfl) (by kernel_rfl) (fun _ _ _ h => h) (Or.inr ⟨by rfl, rfl⟩) hS1 ?ra10
        try simp only [Act.put, List.setIfInBounds_toArray, List.set_cons_zero, List.set_cons_succ]
        refine wpAnyH_take (i := 13) (oi := ⟨some 46, _, _, _, _, _⟩) (v := undef) rfl (by kernel_rfl) (by kernel_rfl) (by kernel_rfl) (fun _ _ _ h => h) (Or.inr ⟨by rfl, rfl⟩) hS1 ?ra11
        try simp only [Act.put, List.setIfInBounds_toArray, List.set_cons_zero, List.set_cons_succ]
        refine wpAnyH_ready (rs := [14]) (by kernel_rfl) (by simp) ?_
        refine AllReadyH.cons (o := ⟨some 47, _, _, _, _, _⟩) rfl (fun K' hK' => ?_) AllReadyH.nil
        go_simp
        refine hK'.out _ _ hS1 (fun _ => ?_)
        clear hK' K'
        try simp only [Act.put, List.setIfInBounds_toArray, List.set_cons_zero, List.set_cons_succ]
        refine wpAnyH_done (by kernel_rfl) ?_ _
        go_wp2_with fail
        go_roundw
        case rel => exact ⟨k + 1, by have := HFE.out; omega, by rw [HFE.out], hB.trans (hS1.mono hsz), by rw [show mattL T s x y (k + 1) = mattL T s x y k by rw [← HFE.out]; exact HS.out]; exact own_below hown hS1⟩
        case measure => have := HFE.out; simp [intOf] <;> omega
    · obtain rfl : k = f := by omega
      have h5 : ¬ (k : Int) + 1 ≤ (k : Int) := by omega
      go_wp2_with fail
      obtain ⟨A', c', rfl, ho⟩ := own_oi hown rfl
      go_ret2
      exact ⟨A', c', rfl, OI.lower ho hwl, HB5.out.trans (hB.mono hwl)⟩

theorem eq_fracS (x y a b : Int) (w : World) : (Op.equalIn 10000 78 (.agg #[.int .i64 x, .int .i64 y]) (.agg #[.int .i64 a, .int .i64 b])).run Try.prog w = .ok (x == a && y == b) w := by
  have hS : Try.prog.underlying 78 = some (.struct (Try.prog.fieldsOf 78)) := by kernel_rfl
  have hp : Try.prog.stoodInHeld 78 = false := by kernel_rfl
  rw [show (10000 : Nat) = 9999 + 1 from rfl, run_equalIn_agg w 9999 _ _ _ hS hp]
  simp only [Program.fieldsOf, Try.underlying78]
  go_simp
  by_cases h1 : x = a <;> by_cases h2 : y = b <;> simp [h1, h2]
theorem neq_fracS (x y a b : Int) (w : World) : (binOp .neq 78 (.agg #[.int .i64 x, .int .i64 y]) (.agg #[.int .i64 a, .int .i64 b])).run Try.prog w = .ok (.bool (!(x == a && y == b))) w := by
  rw [run_neq_struct, eq_fracS]; rfl

set_option maxRecDepth 100000 in
set_option maxHeartbeats 1000000 in
theorem specMatters_no (s f a b : Int) (w : World) (hp : pairOk s f a b = false) :
    Calls Try.prog 30 #[.int .i64 s, .int .i64 f, .int .i64 a, .int .i64 b] w (IntsBack w ([], false)) := by
  have HP := Lib.hid hp; clear hp
  go_enter Try.func30, Try.ntmps30
  go_wp2_with (go_at_call 37; go_loud (refine (oiGood_any _ _ _ _ _).mono ?_; rintro e w1 ⟨rfl, rfl⟩; rw [HP.out]))
  go_ret2
  exact ⟨none, 0, rfl, .inl rfl, Below.refl _ _⟩

set_option maxRecDepth 100000 in
set_option maxHeartbeats 4000000 in
theorem specMatters_yes (s f x y : Nat) (T : Tab) (hT : T = bT true s f) (w : World) (hp : pairOk s f x y = true) (hs1 : 1 ≤ s) (hs : s ≤ 6) (hf1 : 1 ≤ f) (hf : f ≤ 4) (hxs : x ≤ s) (hys : y ≤ s) :
    Calls Try.prog 30 #[.int .i64 s, .int .i64 f, .int .i64 x, .int .i64 y] w (IntsBack w (mattL T s x y f, true)) := by
  obtain ⟨i0, hi, hz0, hz1, hz2⟩ := info_parts infoInt1
  have ws : IntKind.i64.wrap ((s : Int) + 1) = ((s + 1 : Nat) : Int) := by rw [IntWalk.i64_in _ (by omega)]; omega
  obtain ⟨n, hn⟩ : ∃ n : Nat, n = (s + 1) * (s + 1) := ⟨_, rfl⟩
  have hcall := fun W => oiTable_any 0 (chS true) gS s f (bT true s f) W (best_ruleS s hs) (bT_tabS hs1 hs hf1 hf) (bT_goodS hs1 hs hf1 hf) (bT_small hs1 hs hf1 hf) hs hf1 (by omega)
  rw [← hT] at hcall
  simp only [← hn] at hcall
  have HC := Lib.hid hcall
  have hall : ∀ u v, u ≤ s → v ≤ s → allT T s u v = T u v := fun u v h1 h2 => by unfold allT; rw [if_pos ⟨h1, h2⟩]
  have HALL := Lib.hid hall
  obtain ⟨S, hS⟩ : ∃ S : Nat, S = s + 1 := ⟨_, rfl⟩
  have hS7 : S ≤ 7 := by omega
  rw [← hS] at ws
  have HSS := Lib.hid hS
  have HN := Lib.hid hn
  have HP := Lib.hid hp
  have hx42 : x * S ≤ 6 * 7 := Nat.mul_le_mul (by omega) hS7
  have wx : IntKind.i64.wrap ((x : Int) * (S : Int)) = ((x * S : Nat) : Int) := by rw [← Int.natCast_mul]; exact IntWalk.i64_in _ (by omega)
  obtain ⟨Q2, hQ2⟩ : ∃ Q2, Q2 = x * S := ⟨_, rfl⟩
  rw [← hQ2] at wx hx42
  have wi2 : IntKind.i64.wrap ((Q2 : Int) + (y : Int)) = ((Q2 + y : Nat) : Int) := by rw [IntWalk.i64_in _ (by omega)]; omega
  obtain ⟨J2, hJ2⟩ : ∃ J2, J2 = Q2 + y := ⟨_, rfl⟩
  rw [← hJ2] at wi2
  have HJ2 := Lib.hid (show J2 = x * (s + 1) + y by rw [hJ2, hQ2, hS])
  have hJ48 : J2 ≤ 48 := by omega
  clear hcall hT hall hS hn hp hQ2 hJ2
  go_enter Try.func30, Try.ntmps30
  go_wp2_with (first | (go_at_call 37; refine (oiGood_any _ _ _ _ _).mono ?_; rintro e w' ⟨rfl, rfl⟩; rw [HP.out]) | (go_at_call 42; go_loud (refine (HC.out _).mono ?_; rintro e w1 ⟨gw, rfl, hx1, hT1, hW1⟩)))
  clear hW1
  obtain ⟨gt, hgt⟩ : ∃ gt, gt = w.heap.size := ⟨_, rfl⟩
  have hgl := RowJ.lt hT1
  have hwl : w.heap.size ≤ w1.heap.size := hx1.size
  have HT1 := Lib.hid hT1
  rw [← hgt] at HT1 hgl ⊢
  have HX1 := Lib.hid hx1
  clear hT1 hgt hx1
  go_loopw [12, 13] (fun v i wr => ∃ k : Nat, k ≤ f ∧ i = .int .i64 ((k : Int) + 1) ∧ Below w1.heap.size w1 wr ∧ wr.ownsRow w1.heap.size 3 1 v (mattL T s x y k).length ((mattL T s x y k).map (Value.int .i64))) (fun _ i _ => f + 1 - (intOf i).toNat)
  case atStart => exact ⟨0, by omega, rfl, Below.refl _ _, World.ownsRow_nil _ _ _ _⟩
  case round =>
    obtain ⟨k, hk, rfl, hB, hown⟩ := hrel
    have hsz := hB.size
    have hlen := mattL_len T s x y k
    have hf' := own_from hown
    by_cases hlt : k < f
    · obtain ⟨face, hfe⟩ : ∃ face, face = k + 1 := ⟨_, rfl⟩
      have ei : (k : Int) + 1 = (face : Int) := by omega
      have hface : face ≤ f := by omega
      have hface' : (face : Int) ≤ (f : Int) := by omega
      have hf1' : 1 ≤ face := by omega
      have wf1 : IntKind.i64.wrap ((face : Int) + 1) = (face : Int) + 1 := IntWalk.i64_in _ (by omega)
      have wX : IntKind.i64.wrap ((x : Int) + (face : Int)) = ((x + face : Nat) : Int) := by rw [IntWalk.i64_in _ (by omega)]; omega
      have wY : IntKind.i64.wrap ((y : Int) + (face : Int)) = ((y + face : Nat) : Int) := by rw [IntWalk.i64_in _ (by omega)]; omega
      have hsucc := mattL_succ T s x y k
      rw [← hfe] at hsucc
      rw [ei]
      have HFE := Lib.hid hfe
      clear hfe ei
      by_cases h1 : x + face ≤ s
      · by_cases h2 : y + face ≤ s
        · have t1 := HT1.out.at_ (x := x + face) (y := y) h1 hys
          have t2 := HT1.out.at_ (x := x) (y := y + face) hxs h2
          rw [HALL.out _ _ h1 hys, ← HSS.out, show S * S = n by rw [HN.out, HSS.out]] at t1
          rw [HALL.out _ _ hxs h2, ← HSS.out, show S * S = n by rw [HN.out, HSS.out]] at t2
          obtain ⟨p, hp⟩ : ∃ p, p = T (x + face) y := ⟨_, rfl⟩
          obtain ⟨q, hq⟩ : ∃ q, q = T x (y + face) := ⟨_, rfl⟩
          obtain ⟨D, hD⟩ : ∃ D, D = diffB T s x y face := ⟨_, rfl⟩
          have hDv : D = !(decide (p.1 = q.1) && decide (p.2 = q.2)) := by rw [hD]; unfold diffB; rw [decide_eq_true ⟨h1, h2⟩, ← hp, ← hq]; rfl
          rw [← hD] at hsucc
          rw [← hp] at t1
          rw [← hq] at t2
          have hneq : ∀ w, (binOp .neq 78 (.agg #[.int .i64 (p.1 : Nat), .int .i64 (p.2 : Nat)]) (.agg #[.int .i64 (q.1 : Nat), .int .i64 (q.2 : Nat)])).run Try.prog w = .ok (.bool D) w := by
            intro w
            rw [neq_fracS, hDv]
            by_cases h1 : p.1 = q.1 <;> by_cases h2 : p.2 = q.2 <;> simp [h1, h2] <;> omega
          have HS := Lib.hid hsucc
          obtain ⟨X, hX⟩ : ∃ X, X = x + face := ⟨_, rfl⟩
          rw [← hX] at wX t1 h1
          have m1 : X * S ≤ 6 * 7 := Nat.mul_le_mul (by omega) hS7
          have wp1 : IntKind.i64.wrap ((X : Int) * (S : Int)) = ((X * S : Nat) : Int) := by rw [← Int.natCast_mul]; exact IntWalk.i64_in _ (by omega)
          obtain ⟨P1, hP1⟩ : ∃ P1, P1 = X * S := ⟨_, rfl⟩
          rw [← hP1] at wp1 t1 m1
          have wi1 : IntKind.i64.wrap ((P1 : Int) + (y : Int)) = ((P1 + y : Nat) : Int) := by rw [IntWalk.i64_in _ (by omega)]; omega
          obtain ⟨I1, hI1⟩ : ∃ I1, I1 = P1 + y := ⟨_, rfl⟩
          rw [← hI1] at wi1 t1
          obtain ⟨I2, hI2⟩ : ∃ I2, I2 = J2 + face := ⟨_, rfl⟩
          have wi3 : IntKind.i64.wrap ((J2 : Int) + (face : Int)) = (I2 : Int) := by rw [IntWalk.i64_in _ (by omega)]; omega
          have hI2' : x * S + (y + face) = I2 := by rw [hI2, HJ2.out, HSS.out]; omega
          rw [hI2'] at t2
          obtain ⟨t1a, c1, c2⟩ := t1
          obtain ⟨t2a, c3, c4⟩ := t2
          have b1 : (I1 : Int) < (n : Int) := by omega
          have b2 : (I2 : Int) < (n : Int) := by omega
          have c1 := (bcell hB hgl).trans c1
          have c2 := (bcell hB hgl).trans c2
          have c3 := (bcell hB hgl).trans c3
          have c4 := (bcell hB hgl).trans c4
          have h1' : (X : Int) ≤ (s : Int) := by omega
          have h2' : ((y + face : Nat) : Int) ≤ (s : Int) := by omega
          have hgr : gt < wr.heap.size := by omega
          clear hsucc hDv hD hp hq hX hP1 hI1 hI2 hI2' h1 h2 hx42 m1
          go_wp2_with fail
          go_region
          all_goals
            first
              | (obtain ⟨wl, hwl⟩ : ∃ wl, wl = ((wr.alloc (.cells #[.int .i64 (p.1 : Nat), .int .i64 (p.2 : Nat)] 78)).alloc (.cells #[.int .i64 (q.1 : Nat), .int .i64 (q.2 : Nat)] 78)).drew := ⟨_, rfl⟩
                 rw [← hwl]
                 have hSl : Below wr.heap.size wr wl := by rw [hwl]; exact (below2 _ _ _).drew
                 have kU : wl.heap[wr.heap.size]? = some (.cells #[.int .i64 (p.1 : Nat), .int .i64 (p.2 : Nat)] 78 (0, 0)) := by rw [hwl]; exact (Below.heap_alloc _ _ _ (by simp)).trans (heap_alloc_at _ _ _ rfl)
                 have kV : wl.heap[wr.heap.size + 1]? = some (.cells #[.int .i64 (q.1 : Nat), .int .i64 (q.2 : Nat)] 78 (0, 0)) := by rw [hwl]; exact heap_alloc_at _ _ _ (by simp)
                 have qU := fun i => cell_of_row wl _ i _ _ _ kU
                 have qV := fun i => cell_of_row wl _ i _ _ _ kV
                 clear hwl kU kV)
              | (obtain ⟨wl, hwl⟩ : ∃ wl, wl = ((wr.alloc (.cells #[.int .i64 (q.1 : Nat), .int .i64 (q.2 : Nat)] 78)).alloc (.cells #[.int .i64 (p.1 : Nat), .int .i64 (p.2 : Nat)] 78)).drew := ⟨_, rfl⟩
                 rw [← hwl]
                 have hSl : Below wr.heap.size wr wl := by rw [hwl]; exact (below2 _ _ _).drew
                 have kU : wl.heap[wr.heap.size]? = some (.cells #[.int .i64 (q.1 : Nat), .int .i64 (q.2 : Nat)] 78 (0, 0)) := by rw [hwl]; exact (Below.heap_alloc _ _ _ (by simp)).trans (heap_alloc_at _ _ _ rfl)
                 have kV : wl.heap[wr.heap.size + 1]? = some (.cells #[.int .i64 (p.1 : Nat), .int .i64 (p.2 : Nat)] 78 (0, 0)) := by rw [hwl]; exact heap_alloc_at _ _ _ (by simp)
                 have qU := fun i => cell_of_row wl _ i _ _ _ kU
                 have qV := fun i => cell_of_row wl _ i _ _ _ kV
                 clear hwl kU kV)
            have hB9 := hB.trans (hSl.mono hsz)
            have hown9 := own_below hown hSl
            have hsz9 := hSl.size
            have hf9 := own_from hown9
            cases D
            · have HS2 := HS.out
              simp only [Bool.false_eq_true, if_false] at HS2
              have HS3 := Lib.hid HS2
              clear HS2
              go_wp2_with fail
              go_roundw
              case rel => exact ⟨k + 1, by have := HFE.out; omega, by rw [HFE.out], hB9, by rw [show mattL T s x y (k + 1) = mattL T s x y k by rw [← HFE.out]; exact HS3.out]; exact hown9⟩
              case measure => have := HFE.out; simp [intOf] <;> omega
            · have HS2 := HS.out
              simp only [if_true] at HS2
              have HS3 := Lib.hid HS2
              clear HS2
              go_wp2_with (at_builtin; go_loud (refine wpList_append_own _ rfl _ _ 30 rfl w1.heap.size 3 i0 (.int .i64 0) 1 8 Try.underlying30 hi hz0 hz1 hz2 rfl (by decide) _ _ _ rfl (hown9.alloc _) ⟨wl.heap.size, 0, none⟩ 1 1 [.int .i64 (face : Int)] rfl rfl (cell_new1 _ _ _) (one_int _) (by unfold maxLen; omega) (by omega) (by simp; omega) ?_; intro v1 w4 hown4 hg4 _))
              go_roundw
              case rel => exact ⟨k + 1, by have := HFE.out; omega, by rw [HFE.out], (hB9.alloc (by omega) _).grown hg4 (by simp; omega) (fun j hj => hf9 j hj), by
                rw [show mattL T s x y (k + 1) = mattL T s x y k ++ [(face : Int)] by rw [← HFE.out]; exact HS3.out, List.length_append, List.map_append]; exact hown4⟩
              case measure => have := HFE.out; simp [intOf] <;> omega
        · have hd : diffB T s x y face = false := by unfold diffB; rw [decide_eq_false (fun h => h2 h.2)]; rfl
          rw [hd] at hsucc
          simp only [Bool.false_eq_true, if_false] at hsucc
          have hgt1 : ¬ ((y + face : Nat) : Int) ≤ (s : Int) := by omega
          have HS := Lib.hid hsucc
          clear hsucc hd
          go_wp2_with fail
          go_roundw
          case rel => exact ⟨k + 1, by have := HFE.out; omega, by rw [HFE.out], hB, by rw [show mattL T s x y (k + 1) = mattL T s x y k by rw [← HFE.out]; exact HS.out]; exact hown⟩
          case measure => have := HFE.out; simp [intOf] <;> omega
      · have hd : diffB T s x y face = false := by unfold diffB; rw [decide_eq_false (fun h => h1 h.1)]; rfl
        rw [hd] at hsucc
        simp only [Bool.false_eq_true, if_false] at hsucc
        have hgt1 : ¬ ((x + face : Nat) : Int) ≤ (s : Int) := by omega
        have HS := Lib.hid hsucc
        clear hsucc hd
        go_wp2_with fail
        go_roundw
        case rel => exact ⟨k + 1, by have := HFE.out; omega, by rw [HFE.out], hB, by rw [show mattL T s x y (k + 1) = mattL T s x y k by rw [← HFE.out]; exact HS.out]; exact hown⟩
        case measure => have := HFE.out; simp [intOf] <;> omega
    · obtain rfl : k = f := by omega
      have h5 : ¬ (k : Int) + 1 ≤ (k : Int) := by omega
      go_wp2_with fail
      obtain ⟨A', c', rfl, ho⟩ := own_oi hown rfl
      go_ret2
      exact ⟨A', c', rfl, OI.lower ho hwl, HX1.out.trans (hB.mono hwl)⟩

theorem pairMatters_both (s f a b : Int) : ∃ R : List Int × Bool, R.1.length ≤ 1048576 ∧
    (∀ w, Calls Try.prog 30 #[.int .i64 s, .int .i64 f, .int .i64 a, .int .i64 b] w (IntsBack w R)) ∧
    (∀ w, Calls Try.prog 31 #[.int .i64 s, .int .i64 f, .int .i64 a, .int .i64 b] w (IntsBack w R)) := by
  cases hp : pairOk s f a b
  · exact ⟨([], false), by simp, fun w => specMatters_no s f a b w hp, fun w => implMatters_no s f a b w hp⟩
  · have h := pairOk_iff.1 hp
    obtain ⟨m, rfl⟩ : ∃ m : Nat, s = m := ⟨s.toNat, by omega⟩
    obtain ⟨n, rfl⟩ : ∃ n : Nat, f = n := ⟨f.toNat, by omega⟩
    obtain ⟨x, rfl⟩ : ∃ x : Nat, a = x := ⟨a.toNat, by omega⟩
    obtain ⟨y, rfl⟩ : ∃ y : Nat, b = y := ⟨b.toNat, by omega⟩
    exact ⟨(mattL (bT true m n) m x y n, true), by have := mattL_len (bT true m n) m x y n; simp only; omega, fun w => specMatters_yes m n x y _ rfl w hp (by omega) (by omega) (by omega) (by omega) (by omega) (by omega), fun w => implMatters_yes m n x y _ rfl w hp (by omega) (by omega) (by omega) (by omega) (by omega) (by omega)⟩
end Go.Proofs.Ytblpfjjnlfjloaa

/-
  Plays: the program's goesBy.
-/
import Derived.Test.YtmhffdgfkgdmlaaC7zk
namespace Go.Proofs.Ytmhffdgfkgdmlaa
open Go.RowKit

/-- Nothing but block g has been written; memory has been made. -/
structure Only (g : Nat) (w w' : World) : Prop where
  low : Below 0 w w'
  block : ∀ k, k < w.heap.size → k ≠ g → w'.heap[k]? = w.heap[k]?
section
variable {g B : Nat} {w w1 w2 : World}
theorem Only.of (h : Below w.heap.size w w1) : Only g w w1 := ⟨h.mono (Nat.zero_le _), fun k hk _ => h.block k hk⟩
theorem Only.trans (h : Only g w w1) (h2 : Only g w1 w2) : Only g w w2 := ⟨h.low.trans h2.low, fun k hk hne => (h2.block k (Nat.lt_of_lt_of_le hk h.low.size) hne).trans (h.block k hk hne)⟩
theorem Only.grown (h : w.grownBy w1 (some g)) : Only g w w1 := ⟨(Below.refl 0 w).grown h (Nat.zero_le _) (fun _ _ => Nat.zero_le _), fun k hk hne => h.block k hk (by simpa using hne)⟩
theorem Only.cell (o : Nat) (v : Value) : Only g w (w.setCell ⟨g, o, none⟩ v) := ⟨(Below.refl 0 w).setCell (Nat.zero_le _) v, fun k _ hne => Below.heap_setCell w ⟨g, o, none⟩ v k hne⟩
theorem Only.below (h : Only g w w1) (hg : B ≤ g) (hB : B ≤ w.heap.size) : Below B w w1 := ⟨h.low.os, h.low.tape, h.low.output, h.low.size, fun k hk => h.block k (Nat.lt_of_lt_of_le hk hB) (by omega)⟩
end

theorem loadStand_part (w : World) (g k : Nat) (F : Nat → Nat → Int) (h : ∀ i, i < 16 → w.cell? ⟨g, k + i, none⟩ = (standC F)[i]?) : (loadVar 78 ⟨g, k, none⟩).run Try.prog w = .ok (.agg (standC F)) w := by
  have hl : (loadCells ⟨g, k, none⟩ (standC F).toList.length).run Try.prog w = .ok (standC F).toList.toArray w :=
    run_loadCells_list w ⟨g, k, none⟩ (standC F).toList (fun j v hv => by
      have hadd : (⟨g, k, none⟩ : Addr).add j = ⟨g, k + j, none⟩ := by unfold Addr.add; split <;> simp_all
      have hj : j < 16 := by
        rcases Nat.lt_or_ge j 16 with h1 | h1
        · exact h1
        · rw [List.getElem?_eq_none (by simpa [stand_size] using h1)] at hv; cases hv
      rw [hadd, h j hj]
      simpa using hv)
  have hi := sizeStandV
  cases hq : Try.prog.info? 78 with
  | none => simp [hq] at hi
  | some i =>
    have hsz : i.size = 16 := by simpa [hq] using hi
    have hagg : (isAgg 78).run Try.prog w = .ok true w := by
      unfold isAgg
      rw [Sem.run_bind, run_underlying Try.underlying78 w]
      rfl
    simp only [Array.length_toList, Array.toArray_toList, stand_size] at hl
    simp [loadVar, Sem.run_bind, hagg, sizeOf, typeInfo, hq, hsz, hl]

theorem yields_load_stand {ops : Array Oper} {S : World → Prop} {a : Act} {o : Oper} (hg : o.guard = none) (x : Operand) (hop : o.op = .load 78 x) (g k : Nat) (hx : a.eval x = .pointer (some ⟨g, k, none⟩)) (F : Nat → Nat → Int)
    (hS : ∀ w, S w → ∀ i, i < 16 → w.cell? ⟨g, k + i, none⟩ = (standC F)[i]?) : YieldsIf Try.prog ops S o (.agg (standC F)) a :=
  .inl ⟨wanted_plain hg, fun w hw => by
    unfold execOp
    simp only [hop, hx, Instr.loadAt, Instr.sureAddr, Sem.run_bind, Sem.run_pure, Result.andThen_ok, loadStand_part w g k F (hS w hw)]⟩

set_option maxRecDepth 100000 in
set_option maxHeartbeats 4000000 in
theorem goesBy_any (g : Nat) (q f k : Int) (A A' : Option Addr) (c c' : Nat) (st sf : List Int) (F : Nat → Nat → Int) (m s : Int) (xs : List Int) (w : World) (hO : OA w g 80 q f k A st.length c (safeB sf) F m s) (hj : RI w w.heap.size A st) (hx : RI w w.heap.size A' xs) (hT : Trk q f k st sf) (hF : ∀ a b, -1 ≤ F a b ∧ F a b ≤ q) (hm0 : 0 ≤ m) (hm1 : m ≤ 1000) (hs0 : 0 ≤ s) (hs1 : s ≤ 100000)
    (r : Bool) (hr : mOk q f k st.length F xs = r) (G : Nat → Nat → Int) (m' s' : Int) (h0 : r = false → G = F ∧ m' = m ∧ s' = s) (h1 : r = true → G = goF q k st sf F (m0 xs).toNat (m1 xs).toNat (m2 xs) ∧ m' = m + 1 ∧ s' = s + ((goL q k st sf F (m0 xs).toNat (m1 xs).toNat (m2 xs)).length : Int)) :
    Calls Try.prog 86 #[.pointer (some ⟨g, 0, none⟩), .slice A' xs.length c'] w fun e w' => e = .returned (.bool r) ∧ OA w' g 80 q f k A st.length c (safeB sf) G m' s' ∧ Only g w w' := by
  have hgw := hO.lt
  have hl := hx.1
  obtain ⟨q4, q60, f1, f8, k1, k4, n2, n4, st0, sf0, sfl⟩ := hT
  have H0 := Lib.hid h0; have H1 := Lib.hid h1; have HF := Lib.hid hF; have HR := Lib.hid hr
  clear h0 h1 hF hr
  have z1 := zeroStandV
  go_enter Try.func86, Try.ntmps86
  go_wp2_with fail
  refine (moveOf_any g q f k A A' st.length c c' (safeB sf) xs w hO.rp hx (by omega) (by omega) k4).mono ?_
  rintro e w1 ⟨x, y, z, rfl, hxyz, hx1⟩
  have hO1 := hO.below hx1 hgw
  cases hi : isMv f k st.length xs
  · have hrf : r = false := by rw [← HR.out, mOk, hi]; rfl
    subst hrf
    obtain ⟨rfl, rfl, rfl⟩ := H0.out rfl
    have HI := Lib.hid hi
    clear hi hxyz
    go_wp2_with fail
    go_ret
    exact ⟨rfl, hO1.alloc _, Only.of (hx1.alloc hx1.size _)⟩
  · obtain ⟨rfl, rfl, rfl⟩ := hxyz hi
    have hin := isMv_in hi
    obtain ⟨P, hP⟩ := Int.eq_ofNat_of_zero_le hin.2.1.1
    obtain ⟨T, hTe⟩ := Int.eq_ofNat_of_zero_le hin.2.2.1.1
    obtain ⟨x, hxe⟩ : ∃ x, x = m2 xs := ⟨_, rfl⟩
    have hr2 : canB q f (F P T) x = r := by rw [← HR.out, mOk, hi, Bool.true_and, hP, hTe, hxe, Int.toNat_natCast, Int.toNat_natCast]
    have hPn : P < st.length := by omega
    have hTk : T < 4 := by omega
    have hxf : 1 ≤ x ∧ x ≤ f := by rw [hxe]; exact hin.2.2.2
    obtain ⟨V, n, hv0, hv1⟩ : ∃ (V : Nat → Nat → Int) (n : Int), (r = false → V = F ∧ n = 0) ∧ (r = true → V = goF q k st sf F P T x ∧ n = ((goL q k st sf F P T x).length : Int)) := by
      cases r
      · exact ⟨_, _, fun _ => ⟨rfl, rfl⟩, fun h => by cases h⟩
      · exact ⟨_, _, fun h => (by cases h), fun _ => ⟨rfl, rfl⟩⟩
    have hVG : r = true → G = V ∧ m' = m + 1 ∧ s' = s + n := fun h => by
      obtain ⟨a1, a2, a3⟩ := H1.out h
      obtain ⟨b1, b2⟩ := hv1 h
      rw [hP, hTe, ← hxe, Int.toNat_natCast, Int.toNat_natCast] at a1 a3
      exact ⟨a1.trans b1.symm, a2, by rw [a3, b2]⟩
    have hnb : 0 ≤ n ∧ n ≤ 16 := by
      cases r
      · rw [(hv0 rfl).2]; omega
      · rw [(hv1 rfl).2]
        have := goL_len (q := q) (sf := sf) (F := F) (p := P) (t := T) (face := x) n4 k4
        omega
    rw [hP, hTe, ← hxe]
    have HR2 := Lib.hid hr2; have HV0 := Lib.hid hv0; have HV1 := Lib.hid hv1; have HVG := Lib.hid hVG
    have hFPT := HF.out P T
    clear hi hxyz hin hP hTe hxe hr2 hv0 hv1 hVG
    go_upto_region 4 with fail
    obtain ⟨W1, hW1⟩ : ∃ W1, W1 = w1.alloc (.cells #[.int .i64 (P : Int), .int .i64 (T : Int), .int .i64 x] 166) := ⟨_, rfl⟩
    have kM : W1.heap[w1.heap.size]? = some (.cells #[.int .i64 (P : Int), .int .i64 (T : Int), .int .i64 x] 166 (0, 0)) := by rw [hW1]; exact heap_alloc_at _ _ _ rfl
    have hO2 : OA W1 g 80 q f k A st.length c (safeB sf) F m s := by rw [hW1]; exact hO1.alloc _
    have hb2 : Below w.heap.size w W1 := by rw [hW1]; exact hx1.alloc hx1.size _
    rw [← hW1]
    have qm := fun i => cell_of_row W1 w1.heap.size i _ _ _ kM
    have hMlt := heap_lt kM
    have hgW := hO2.lt
    clear hW1
    go_cut [6, 7, 8] from 19 to 31 (fun s6 s7 s8 wx => s6 = .bool r ∧ s8 = .int .i64 n ∧ (∃ g7, s7 = .pointer (some ⟨g7, 0, none⟩) ∧ W1.heap.size ≤ g7 ∧ DA wx g7 78 V) ∧ Below W1.heap.size W1 wx)
    case first =>
      refine wp_region_held_drew (S := (fun w' => OA w' g 80 q f k A st.length c (safeB sf) F m s ∧ w'.heap[w1.heap.size]? = some (.cells #[.int .i64 (P : Int), .int .i64 (T : Int), .int .i64 x] 166 (0, 0)))) (by kernel_rfl) ⟨hO2, kM⟩ (fun hS => ?_)
      refine wpAnyH_take (i := 7) (oi := ⟨some 27, _, _, _, _, _⟩) rfl (by kernel_rfl) (by kernel_rfl) (by kernel_rfl) (fun _ _ _ h => h) (yields_load_row rfl 166 (.tmp 5) rfl w1.heap.size rfl _ _ _ _ (fun _ h => h.2) Try.underlying166 rfl sizeMove) hS ?_
      try simp only [Act.put, List.setIfInBounds_toArray, List.set_cons_zero, List.set_cons_succ]
      refine wpAnyH_take (i := 0) (oi := ⟨some 20, _, _, _, _, _⟩) (v := ?va1) rfl (by kernel_rfl) (by kernel_rfl) (by kernel_rfl) (fun _ _ _ h => h) (Or.inl ⟨by rfl, ?ha1⟩) hS ?ra1
      case ha1 => (intro w' hSw; (try dsimp only at hSw); go_simp; (try with_reducible rfl))
      try simp only [Act.put, List.setIfInBounds_toArray, List.set_cons_zero, List.set_cons_succ]
      refine wpAnyH_take (i := 1) (oi := ⟨some 21, _, _, _, _, _⟩) (v := ?va2) rfl (by kernel_rfl) (by kernel_rfl) (by kernel_rfl) (fun _ _ _ h => h) (Or.inl ⟨by rfl, ?ha2⟩) hS ?ra2
      case ha2 => (intro w' hSw; (try dsimp only at hSw); go_simp; (try with_reducible rfl))
      try simp only [Act.put, List.setIfInBounds_toArray, List.set_cons_zero, List.set_cons_succ]
      refine wpAnyH_take (i := 2) (oi := ⟨some 22, _, _, _, _, _⟩) (v := ?va3) rfl (by kernel_rfl) (by kernel_rfl) (by kernel_rfl) (fun _ _ _ h => h) (Or.inl ⟨by rfl, ?ha3⟩) hS ?ra3
      case ha3 => (intro w' hSw; (try dsimp only at hSw); go_simp; (try with_reducible rfl))
      try simp only [Act.put, List.setIfInBounds_toArray, List.set_cons_zero, List.set_cons_succ]
      refine wpAnyH_take (i := 3) (oi := ⟨some 23, _, _, _, _, _⟩) (v := ?va4) rfl (by kernel_rfl) (by kernel_rfl) (by kernel_rfl) (fun _ _ _ h => h) (Or.inl ⟨by rfl, ?ha4⟩) hS ?ra4
      case ha4 => (intro w' hSw; (try dsimp only at hSw); go_simp; (try with_reducible rfl))
      try simp only [Act.put, List.setIfInBounds_toArray, List.set_cons_zero, List.set_cons_succ]
      refine wpAnyH_take (i := 4) (oi := ⟨some 24, _, _, _, _, _⟩) (v := ?va5) rfl (by kernel_rfl) (by kernel_rfl) (by kernel_rfl) (fun _ _ _ h => h) (Or.inl ⟨by rfl, ?ha5⟩) hS ?ra5
      case ha5 => (intro w' hSw; (try dsimp only at hSw); go_simp; (try with_reducible rfl))
      try simp only [Act.put, List.setIfInBounds_toArray, List.set_cons_zero, List.set_cons_succ]
      refine wpAnyH_take (i := 5) (oi := ⟨some 25, _, _, _, _, _⟩) (v := ?va6) rfl (by kernel_rfl) (by kernel_rfl) (by kernel_rfl) (fun _ _ _ h => h) (Or.inl ⟨by rfl, ?ha6⟩) hS ?ra6
      case ha6 => (intro w' hSw; (try dsimp only at hSw); go_simp; (try with_reducible rfl))
      try simp only [Act.put, List.setIfInBounds_toArray, List.set_cons_zero, List.set_cons_succ]
      refine wpAnyH_take (i := 6) (oi := ⟨some 26, _, _, _, _, _⟩) rfl (by kernel_rfl) (by kernel_rfl) (by kernel_rfl) (fun _ _ _ h => h) (yields_load_stand rfl (.tmp 25) rfl g 64 rfl F (fun _ h i hi => h.1.stand hi)) hS ?_
      try simp only [Act.put, List.setIfInBounds_toArray, List.set_cons_zero, List.set_cons_succ]
      refine wpAnyH_ready (rs := [8, 13]) (by kernel_rfl) (by simp) ?_
      refine AllReadyH.cons (o := ⟨some 28, _, _, _, _, _⟩) rfl (fun K' hK' => ?_) (AllReadyH.cons (o := ⟨some 7, _, _, _, _, _⟩) rfl (fun K' hK' => ?_) AllReadyH.nil)
      focus
        go_simp
        go_at_call 110
        refine (behind_anyV g q f k A c st sf _ (by first | exact (OA.rp hO2).drew | exact (OA.rp hO2).drew.alloc _) (by first | exact (hj.go hb2.drew) | exact (hj.go (hb2.drew.alloc (by have := hb2.size; exact this) _))) F P T x q4 q60 k1 k4 n4 st0 hPn hTk hFPT.1 hFPT.2 hxf.1 (by omega) V n r HR2.out HV0.out HV1.out).mono ?_
        rintro e w6 ⟨rfl, hx6⟩
        have hb6 : Below W1.heap.size W1 w6 := by first | exact (Below.refl _ W1).drew.trans hx6 | exact ((Below.refl _ W1).drew.alloc (Nat.le_refl _) (.cells (standC (fun _ _ => 0)) 78)).trans (hx6.mono (by simp))
        have hS6 : OA w6 g 80 q f k A st.length c (safeB sf) F m s ∧ w6.heap[w1.heap.size]? = some (.cells #[.int .i64 (P : Int), .int .i64 (T : Int), .int .i64 x] 166 (0, 0)) := ⟨hO2.below hb6 hgW, (hb6.block _ hMlt).trans kM⟩
        (try have k6 : DA w6 W1.heap.size 78 (fun _ _ => 0) := (hx6.block W1.heap.size (by simp)).trans (heap_alloc_at W1.drew (.cells (standC (fun _ _ => 0)) 78) _ rfl))
        refine hK'.out _ _ hS6 (fun _ => ?_)
        clear hK' K'
        try simp only [Act.put, List.setIfInBounds_toArray, List.set_cons_zero, List.set_cons_succ]
        refine wpAnyH_take (i := 9) (oi := ⟨some 19, _, _, _, _, _⟩) (v := ?va7) rfl (by kernel_rfl) (by kernel_rfl) (by kernel_rfl) (fun _ _ _ h => h) (Or.inl ⟨by rfl, ?ha7⟩) hS6 ?ra7
        case ha7 => (intro w' hSw; (try dsimp only at hSw); go_simp; (try with_reducible rfl))
        try simp only [Act.put, List.setIfInBounds_toArray, List.set_cons_zero, List.set_cons_succ]
        refine wpAnyH_take (i := 10) (oi := ⟨some 29, _, _, _, _, _⟩) (v := ?va8) rfl (by kernel_rfl) (by kernel_rfl) (by kernel_rfl) (fun _ _ _ h => h) (Or.inl ⟨by rfl, ?ha8⟩) hS6 ?ra8
        case ha8 => (intro w' hSw; (try dsimp only at hSw); go_simp; (try with_reducible rfl))
        try simp only [Act.put, List.setIfInBounds_toArray, List.set_cons_zero, List.set_cons_succ]
        refine wpAnyH_take (i := 11) (oi := ⟨some 30, _, _, _, _, _⟩) (v := ?va9) rfl (by kernel_rfl) (by kernel_rfl) (by kernel_rfl) (fun _ _ _ h => h) (Or.inl ⟨by rfl, ?ha9⟩) hS6 ?ra9
        case ha9 => (intro w' hSw; (try dsimp only at hSw); go_simp; (try with_reducible rfl))
        try simp only [Act.put, List.setIfInBounds_toArray, List.set_cons_zero, List.set_cons_succ]
        refine wpAnyH_take (i := 12) (oi := ⟨some 31, _, _, _, _, _⟩) (v := ?va10) rfl (by kernel_rfl) (by kernel_rfl) (by kernel_rfl) (fun _ _ _ h => h) (Or.inl ⟨by rfl, ?ha10⟩) hS6 ?ra10
        case ha10 => (intro w' hSw; (try dsimp only at hSw); go_simp; (try with_reducible rfl))
        try simp only [Act.put, List.setIfInBounds_toArray, List.set_cons_zero, List.set_cons_succ]
        refine wpAnyH_ready (rs := [13]) (by kernel_rfl) (by simp) ?_
        refine AllReadyH.cons (o := ⟨some 7, _, _, _, _, _⟩) rfl (fun K' hK' => ?_) AllReadyH.nil
        go_simp
        skip
        refine hK'.out _ _ (by first | exact ⟨hS6.1.alloc _, (Below.heap_alloc _ _ _ (heap_lt hS6.2)).trans hS6.2⟩ | exact ⟨hO2.alloc _, (Below.heap_alloc _ _ _ hMlt).trans kM⟩) (fun _ => ?_)
        clear hK' K'
        try simp only [Act.put, List.setIfInBounds_toArray, List.set_cons_zero, List.set_cons_succ]
        refine wpAnyH_ready (rs := [14]) (by kernel_rfl) (by simp) ?_
        refine AllReadyH.cons (o := ⟨none, _, _, _, _, _⟩) rfl (fun K' hK' => ?_) AllReadyH.nil
        first | refine step_store_row rfl 78 (.tmp 7) (.tmp 29) rfl w6.heap.size rfl _ _ _ rfl (heap_alloc_at w6 (.cells (standC (fun _ _ => 0)) 78) _ rfl) ?_ ?_ (stand_one _) ?_ | refine step_store_row rfl 78 (.tmp 7) (.tmp 29) rfl W1.heap.size rfl _ _ _ rfl k6 ?_ ?_ (stand_one _) ?_
        simp only [stand_size]
        rw [stand_size]; exact sizeStandV
        intro w9 h9 g9 s9
        have hb9 : Below W1.heap.size W1 w9 := by first | exact (hb6.alloc hb6.size _).grown g9 (by have := hb6.size; simp; omega) (fun k h => by cases h; exact hb6.size) | exact hb6.grown g9 hb6.size (fun k h => by cases h; exact Nat.le_refl _)
        have hS9 : OA w9 g 80 q f k A st.length c (safeB sf) F m s ∧ w9.heap[w1.heap.size]? = some (.cells #[.int .i64 (P : Int), .int .i64 (T : Int), .int .i64 x] 166 (0, 0)) := ⟨hO2.below hb9 hgW, (hb9.block _ hMlt).trans kM⟩
        refine hK'.out _ _ hS9 (fun _ => ?_)
        clear hK' K'
        try simp only [Act.put]
        refine wpAnyH_ready (rs := [15]) (by kernel_rfl) (by simp) ?_
        refine AllReadyH.cons (o := ⟨some 8, _, _, _, _, _⟩) rfl (fun K' hK' => ?_) AllReadyH.nil
        go_simp
        refine hK'.out _ _ hS9 (fun _ => ?_)
        clear hK' K'
        try simp only [Act.put, List.setIfInBounds_toArray, List.set_cons_zero, List.set_cons_succ]
        refine wpAnyH_ready (rs := [16]) (by kernel_rfl) (by simp) ?_
        refine AllReadyH.cons (o := ⟨some 6, _, _, _, _, _⟩) rfl (fun K' hK' => ?_) AllReadyH.nil
        go_simp
        refine hK'.out _ _ hS9 (fun _ => ?_)
        clear hK' K'
        try simp only [Act.put, List.setIfInBounds_toArray, List.set_cons_zero, List.set_cons_succ]
        refine wpAnyH_done (by kernel_rfl) ?_ _
      rotate_left 1
      focus
        go_simp
        skip
        refine hK'.out _ _ (by first | exact ⟨hS6.1.alloc _, (Below.heap_alloc _ _ _ (heap_lt hS6.2)).trans hS6.2⟩ | exact ⟨hO2.alloc _, (Below.heap_alloc _ _ _ hMlt).trans kM⟩) (fun _ => ?_)
        clear hK' K'
        try simp only [Act.put, List.setIfInBounds_toArray, List.set_cons_zero, List.set_cons_succ]
        refine wpAnyH_ready (rs := [8]) (by kernel_rfl) (by simp) ?_
        refine AllReadyH.cons (o := ⟨some 28, _, _, _, _, _⟩) rfl (fun K' hK' => ?_) AllReadyH.nil
        go_simp
        go_at_call 110
        refine (behind_anyV g q f k A c st sf _ (by first | exact (OA.rp hO2).drew | exact (OA.rp hO2).drew.alloc _) (by first | exact (hj.go hb2.drew) | exact (hj.go (hb2.drew.alloc (by have := hb2.size; exact this) _))) F P T x q4 q60 k1 k4 n4 st0 hPn hTk hFPT.1 hFPT.2 hxf.1 (by omega) V n r HR2.out HV0.out HV1.out).mono ?_
        rintro e w6 ⟨rfl, hx6⟩
        have hb6 : Below W1.heap.size W1 w6 := by first | exact (Below.refl _ W1).drew.trans hx6 | exact ((Below.refl _ W1).drew.alloc (Nat.le_refl _) (.cells (standC (fun _ _ => 0)) 78)).trans (hx6.mono (by simp))
        have hS6 : OA w6 g 80 q f k A st.length c (safeB sf) F m s ∧ w6.heap[w1.heap.size]? = some (.cells #[.int .i64 (P : Int), .int .i64 (T : Int), .int .i64 x] 166 (0, 0)) := ⟨hO2.below hb6 hgW, (hb6.block _ hMlt).trans kM⟩
        (try have k6 : DA w6 W1.heap.size 78 (fun _ _ => 0) := (hx6.block W1.heap.size (by simp)).trans (heap_alloc_at W1.drew (.cells (standC (fun _ _ => 0)) 78) _ rfl))
        refine hK'.out _ _ hS6 (fun _ => ?_)
        clear hK' K'
        try simp only [Act.put, List.setIfInBounds_toArray, List.set_cons_zero, List.set_cons_succ]
        refine wpAnyH_take (i := 9) (oi := ⟨some 19, _, _, _, _, _⟩) (v := ?va11) rfl (by kernel_rfl) (by kernel_rfl) (by kernel_rfl) (fun _ _ _ h => h) (Or.inl ⟨by rfl, ?ha11⟩) hS6 ?ra11
        case ha11 => (intro w' hSw; (try dsimp only at hSw); go_simp; (try with_reducible rfl))
        try simp only [Act.put, List.setIfInBounds_toArray, List.set_cons_zero, List.set_cons_succ]
        refine wpAnyH_take (i := 10) (oi := ⟨some 29, _, _, _, _, _⟩) (v := ?va12) rfl (by kernel_rfl) (by kernel_rfl) (by kernel_rfl) (fun _ _ _ h => h) (Or.inl ⟨by rfl, ?ha12⟩) hS6 ?ra12
        case ha12 => (intro w' hSw; (try dsimp only at hSw); go_simp; (try with_reducible rfl))
        try simp only [Act.put, List.setIfInBounds_toArray, List.set_cons_zero, List.set_cons_succ]
        refine wpAnyH_take (i := 11) (oi := ⟨some 30, _, _, _, _, _⟩) (v := ?va13) rfl (by kernel_rfl) (by kernel_rfl) (by kernel_rfl) (fun _ _ _ h => h) (Or.inl ⟨by rfl, ?ha13⟩) hS6 ?ra13
        case ha13 => (intro w' hSw; (try dsimp only at hSw); go_simp; (try with_reducible rfl))
        try simp only [Act.put, List.setIfInBounds_toArray, List.set_cons_zero, List.set_cons_succ]
        refine wpAnyH_take (i := 12) (oi := ⟨some 31, _, _, _, _, _⟩) (v := ?va14) rfl (by kernel_rfl) (by kernel_rfl) (by kernel_rfl) (fun _ _ _ h => h) (Or.inl ⟨by rfl, ?ha14⟩) hS6 ?ra14
        case ha14 => (intro w' hSw; (try dsimp only at hSw); go_simp; (try with_reducible rfl))
        try simp only [Act.put, List.setIfInBounds_toArray, List.set_cons_zero, List.set_cons_succ]
        refine wpAnyH_ready (rs := [14]) (by kernel_rfl) (by simp) ?_
        refine AllReadyH.cons (o := ⟨none, _, _, _, _, _⟩) rfl (fun K' hK' => ?_) AllReadyH.nil
        first | refine step_store_row rfl 78 (.tmp 7) (.tmp 29) rfl w6.heap.size rfl _ _ _ rfl (heap_alloc_at w6 (.cells (standC (fun _ _ => 0)) 78) _ rfl) ?_ ?_ (stand_one _) ?_ | refine step_store_row rfl 78 (.tmp 7) (.tmp 29) rfl W1.heap.size rfl _ _ _ rfl k6 ?_ ?_ (stand_one _) ?_
        simp only [stand_size]
        rw [stand_size]; exact sizeStandV
        intro w9 h9 g9 s9
        have hb9 : Below W1.heap.size W1 w9 := by first | exact (hb6.alloc hb6.size _).grown g9 (by have := hb6.size; simp; omega) (fun k h => by cases h; exact hb6.size) | exact hb6.grown g9 hb6.size (fun k h => by cases h; exact Nat.le_refl _)
        have hS9 : OA w9 g 80 q f k A st.length c (safeB sf) F m s ∧ w9.heap[w1.heap.size]? = some (.cells #[.int .i64 (P : Int), .int .i64 (T : Int), .int .i64 x] 166 (0, 0)) := ⟨hO2.below hb9 hgW, (hb9.block _ hMlt).trans kM⟩
        refine hK'.out _ _ hS9 (fun _ => ?_)
        clear hK' K'
        try simp only [Act.put]
        refine wpAnyH_ready (rs := [15]) (by kernel_rfl) (by simp) ?_
        refine AllReadyH.cons (o := ⟨some 8, _, _, _, _, _⟩) rfl (fun K' hK' => ?_) AllReadyH.nil
        go_simp
        refine hK'.out _ _ hS9 (fun _ => ?_)
        clear hK' K'
        try simp only [Act.put, List.setIfInBounds_toArray, List.set_cons_zero, List.set_cons_succ]
        refine wpAnyH_ready (rs := [16]) (by kernel_rfl) (by simp) ?_
        refine AllReadyH.cons (o := ⟨some 6, _, _, _, _, _⟩) rfl (fun K' hK' => ?_) AllReadyH.nil
        go_simp
        refine hK'.out _ _ hS9 (fun _ => ?_)
        clear hK' K'
        try simp only [Act.put, List.setIfInBounds_toArray, List.set_cons_zero, List.set_cons_succ]
        refine wpAnyH_done (by kernel_rfl) ?_ _
      rotate_left 1
      all_goals
        go_wp2_with fail
        go_meet
        exact ⟨rfl, rfl, ⟨_, rfl, by first | exact hb6.size | exact Nat.le_refl _, h9⟩, hb9⟩
    case rest =>
      obtain ⟨rfl, rfl, ⟨g7, rfl, hg7, hD⟩, hbx⟩ := hcut
      have hOx := hO2.below hbx hgW
      have hbw : Below w.heap.size w wc := hb2.trans (hbx.mono hb2.size)
      cases r
      · obtain ⟨rfl, rfl, rfl⟩ := H0.out rfl
        go_wp2_with fail
        go_ret
        exact ⟨rfl, hOx, Only.of hbw⟩
      · obtain ⟨rfl, rfl, rfl⟩ := HVG.out rfl
        have i1 : IntKind.i64.wrap (m + 1) = m + 1 := IntWalk.i64_in _ (by omega)
        have i2 : IntKind.i64.wrap (s + n) = s + n := IntWalk.i64_in _ (by omega)
        have hgz := hOx.lt
        go_wp2_with (first
          | (refine wpList_load_row rfl 78 (.tmp 7) rfl g7 rfl _ _ _ _ hD Try.underlying78 rfl ?_ ?_; (rw [stand_size]; exact sizeStandV))
          | (refine wpList_store_part rfl 78 (.tmp 37) (.tmp 35) rfl g 64 rfl _ _ _ (outC q f k A st.length c (safeB sf) G m s) rfl hOx ?_ ?_ (stand_one _) out_part ?_; (rw [out_size, stand_size]; omega); (rw [stand_size]; exact sizeStandV); intro w7 h7 g7' s7; have hO7 : OA w7 g 80 q f k A st.length c (safeB sf) G m s := h7; have c7 := hO7.made; have c8 := hO7.sent; have f7 := hO7.free 80; have f8 := hO7.free 81))
        go_ret
        refine ⟨rfl, (hO7.setMade (m + 1)).setSent (s + n), (Only.of hbw).trans ((Only.grown g7').trans ((Only.cell _ _).trans (Only.cell _ _)))⟩
end Go.Proofs.Ytmhffdgfkgdmlaa

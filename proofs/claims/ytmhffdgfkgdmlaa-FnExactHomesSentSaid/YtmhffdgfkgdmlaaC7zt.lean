/-
  Plays: the model's trPlay.
-/
import Derived.Test.YtmhffdgfkgdmlaaC7zj
import Derived.Test.YtmhffdgfkgdmlaaC7v
import Derived.Test.YtmhffdgfkgdmlaaWRegP
import Derived.StillTailTactics
namespace Go.Proofs.Ytmhffdgfkgdmlaa
open Go.RowKit

/-- A whole struct is loaded, behind a guard that holds. -/
theorem yields_load_row_u {P : Program} {ops : Array Oper} {S : World → Prop} {a : Act} {o : Oper} (hw : Region.wanted o (yielded ops a.tmps) = true) (ty : TypeId) (x : Operand) (hop : o.op = .load ty x) (g : Nat) (hx : a.eval x = .pointer (some ⟨g, 0, none⟩)) (t : TypeId) (cs : Array Value) (fr : Nat × Nat) (d : TypeDesc)
    (hS : ∀ w, S w → w.heap[g]? = some (.cells cs t fr)) (hu : P.underlying ty = some d) (hd : (match d with | .struct _ | .array _ _ => true | _ => false) = true) (hi : (P.info? ty).map (·.size) = some cs.size) : YieldsIf P ops S o (.agg cs) a :=
  .inl ⟨hw, fun w hw => by
    unfold execOp
    simp only [hop, hx, Instr.loadAt, Instr.sureAddr, Sem.run_bind, Sem.run_pure, Result.andThen_ok, run_loadVar_row w g t ty cs fr d (hS w hw) hu hd hi]⟩
theorem sizeTrkP : (Try.prog.info? 29).map (·.size) = some 5 := by kernel_rfl

/-- What trPlay hands back: all moves made, or the first that cannot be made. -/
def PlayBack (q f k : Int) (st sf : List Int) (M : List (List Int)) (J : Nat) (w : World) (e : Ending) (w' : World) : Prop :=
  Below w.heap.size w w' ∧ ((J = M.length ∧ ∃ A c Bk C, e = .returned (.tuple #[.slice A st.length c, .int .i64 (plS q f k st sf M J : Int), .int .i64 (-1)]) ∧ Grid w' w.heap.size 22 3 (.slice A st.length c) st.length (fun _ => k.toNat) (plF q f k st sf M J) Bk C) ∨
    (J ≠ M.length ∧ e = .returned (.tuple #[.slice none 0 0, .int .i64 0, .int .i64 (J : Int)])))

/-- trGo at a stand that lies as a grid. -/
theorem trGoF_any (q f k : Int) (A1 A2 A3 : Option Addr) (c1 c2 c3 base : Nat) (st sf : List Int) (F : Nat → Nat → Int) (Bk C : Nat → Nat) (P T : Nat) (x : Int) (w : World) (h1 : RI w w.heap.size A1 st) (h2 : RI w w.heap.size A2 sf) (h3 : Grid w base 22 3 (.slice A3 st.length c3) st.length (fun _ => k.toNat) F Bk C) (hc : st.length ≤ c1) (hT : Trk q f k st sf) (hF : ∀ a b, -1 ≤ F a b ∧ F a b ≤ q) (hO : ∀ a b, ¬ (a < st.length ∧ b < k.toNat) → F a b = q) (hlt : P < st.length) (htl : T < k.toNat) (hx1 : 1 ≤ x) (hx8 : x ≤ 8) (hcan : canB q f (F P T) x = true) (n : Int) (hn : n = ((goL q k st sf F P T x).length : Int)) (FF : Nat → Nat → Int) (hFF : FF = goF q k st sf F P T x) :
    Calls Try.prog 82 #[.agg #[.int .i64 q, .int .i64 f, .int .i64 k, .slice A1 st.length c1, .slice A2 sf.length c2], .slice A3 st.length c3, .int .i64 (P : Int), .int .i64 (T : Int), .int .i64 x] w fun e w' => ∃ A c Bk C, e = .returned (.tuple #[.slice A st.length c, .int .i64 n]) ∧ Grid w' w.heap.size 22 3 (.slice A st.length c) st.length (fun _ => k.toNat) FF Bk C ∧ Below w.heap.size w w' := by
  have hk4 := hT.k4
  have hk1 := hT.k1
  have hn4 := hT.n4
  have es : stF q (rowsOf F st.length k.toNat) = F := stF_rows hO
  have hl : P < (rowsOf F st.length k.toNat).length := by rw [rowsOf_len]; exact hlt
  have h := trGo_any q f k A1 A2 A3 c1 c2 c3 st sf (rowsOf F st.length k.toNat) P T x w h1 h2 (h3.rows (by omega) (by omega)) hc hT (sta_rows (by omega) hF) hl (by rw [rowsOf_row]; exact htl) hx1 hx8 (by rw [es]; exact hcan) n (by rw [es]; exact hn) FF (by rw [es]; exact hFF)
  rw [rowsOf_len] at h
  exact h

theorem retP {j J : Nat} (h : j = J) : Ending.returned (.tuple #[.slice none 0 0, .int .i64 0, .int .i64 (j : Int)]) = Ending.returned (.tuple #[.slice none 0 0, .int .i64 0, .int .i64 (J : Int)]) := by rw [h]
theorem retP2 {A : Option Addr} {n c : Nat} {a s : Int} (h : a = s) : Ending.returned (.tuple #[.slice A n c, .int .i64 a, .int .i64 (-1)]) = Ending.returned (.tuple #[.slice A n c, .int .i64 s, .int .i64 (-1)]) := by rw [h]
theorem three {α : Type} {xs : List α} (h : xs.length = 3) : ∃ a b c, xs = [a, b, c] := by
  match xs, h with
  | [a, b, c], _ => exact ⟨a, b, c, rfl⟩

set_option maxRecDepth 100000 in
set_option maxHeartbeats 4000000 in
theorem trPlay_any (q f k : Int) (A1 A2 A3 : Option Addr) (c1 c2 c3 : Nat) (st sf : List Int) (M : List (List Int)) (J : Nat) (w : World) (h1 : RI w w.heap.size A1 st) (h2 : RI w w.heap.size A2 sf) (h3 : RG w w.heap.size A3 M) (hc : st.length ≤ c1) (ht : trkOk q f k st sf = true) (hn : M.length ≤ 200) (hJ : Made q f k st sf M J) :
    Calls Try.prog 54 #[.agg #[.int .i64 q, .int .i64 f, .int .i64 k, .slice A1 st.length c1, .slice A2 sf.length c2], .slice A3 M.length c3] w (PlayBack q f k st sf M J w) := by
  have hl := h1.1
  have hl2 := h2.1
  have hT := trk_of ht
  have hTr := hT
  obtain ⟨q4, q60, f1, f8, k1, k4, n2, n4, st0, sf0, sfl⟩ := hT
  have hle := hJ.le
  have HT := Lib.hid ht; have HJ := Lib.hid hJ; have HTR := Lib.hid hTr
  obtain ⟨K, hK⟩ := Int.eq_ofNat_of_zero_le (show 0 ≤ k by omega)
  have hKt : k.toNat = K := by omega
  have HK := Lib.hid hK; have HKt := Lib.hid hKt
  have hK4 : K ≤ 4 := by omega
  clear ht hJ hTr hK hKt st0 sf0 sfl
  go_enter Try.func54, Try.ntmps54
  have hB0 : Below (w.heap.size + 1) (w.alloc (.cells #[.int .i64 q, .int .i64 f, .int .i64 k, .slice A1 st.length c1, .slice A2 sf.length c2] 29)) (w.alloc (.cells #[.int .i64 q, .int .i64 f, .int .i64 k, .slice A1 st.length c1, .slice A2 sf.length c2] 29)) := Below.refl _ _
  have qq := boxcells hB0
  go_wp2_with fail
  clear qq
  refine (trStart_any q f k A1 A2 st.length c1 sf.length c2 _ n4 k1 k4).mono ?_
  rintro e w2 ⟨Av0, cv0, Bk0, C0, rfl, hG0, hx0⟩
  simp only [World.size_alloc] at hG0 hx0
  have hB2 := box_on hB0 hx0 (Nat.le_refl _)
  clear hx0
  go_wp2_with fail
  go_loopw [7, 8, 9, 10, 11, 12, 17] (fun v s _ _ _ _ i wr => ∃ (j : Nat) (a : Int) (Av : Option Addr) (cv : Nat) (Bk C : Nat → Nat), j ≤ J ∧ i = .int .i64 j ∧ v = .slice Av st.length cv ∧ s = .int .i64 a ∧ Hid (a = (plS q f k st sf M j : Int)) ∧ Below (w.heap.size + 1) (w.alloc (.cells #[.int .i64 q, .int .i64 f, .int .i64 k, .slice A1 st.length c1, .slice A2 sf.length c2] 29)) wr ∧ Grid wr (w.heap.size + 1) 22 3 (.slice Av st.length cv) st.length (fun _ => k.toNat) (plF q f k st sf M j) Bk C) (fun _ _ _ _ _ _ i _ => M.length - (intOf i).toNat)
  case atStart => exact ⟨0, 0, Av0, cv0, Bk0, C0, Nat.zero_le _, rfl, rfl, rfl, Lib.hid (by simp [plS]), hB2, hG0.congr (fun _ _ => rfl) (fun y hy j hj => by show _ = alikeFV st.length k q (-1) y j; unfold alikeFV; rw [if_pos ⟨hy, by omega⟩])⟩
  case round =>
    clear hB0 hB2 hG0
    obtain ⟨j, a, Av, cv, Bk, C, hjJ, rfl, rfl, rfl, HA, hB, hG⟩ := hrel
    have hbw : Below w.heap.size w wr := (below1 _ _).trans (hB.mono (by omega))
    have hsz : w.heap.size + 1 ≤ wr.heap.size := by have := hB.size; simpa using this
    have kb : wr.heap[w.heap.size]? = some (.cells #[.int .i64 q, .int .i64 f, .int .i64 k, .slice A1 st.length c1, .slice A2 sf.length c2] 29 (0, 0)) := (hB.block w.heap.size (by omega)).trans (heap_alloc_at w _ _ rfl)
    by_cases hjl : j < M.length
    · obtain ⟨b, off, A', c', rfl, hbb, hc0, hrow⟩ := h3.at_ hbw hjl
      have hget : M.getD j [] = M[j] := by rw [List.getD_eq_getElem?_getD, List.getElem?_eq_getElem hjl]; rfl
      obtain ⟨xs, hxs⟩ : ∃ xs, xs = M[j] := ⟨_, rfl⟩
      rw [← hxs] at hc0 hrow hget
      have HX := Lib.hid hget
      clear hget hxs
      have hjM : (j : Int) < (M.length : Int) := by omega
      by_cases h3l : xs.length = 3
      · obtain ⟨p, t, x, rfl⟩ := three h3l
        clear h3l
        obtain ⟨b2, off2, rfl, hb2, d0⟩ := hrow.at_ (Below.refl _ _) (k := 0) (by simp)
        obtain ⟨b2', off2', e2, _, d1⟩ := hrow.at_ (Below.refl _ _) (k := 1) (by simp)
        injection e2 with e2; injection e2 with e2 e3; subst e2 e3
        obtain ⟨b2', off2', e2, _, d2⟩ := hrow.at_ (Below.refl _ _) (k := 2) (by simp)
        injection e2 with e2; injection e2 with e2 e3; subst e2 e3
        replace hb2 : b2 < wr.heap.size := by have := hbw.size; omega
        simp only [List.length_cons, List.length_nil, Nat.zero_add, Nat.reduceAdd] at hc0
        simp only [List.getElem_cons_zero, List.getElem_cons_succ, Nat.add_zero] at d0 d1 d2
        have ok0 : plOk q f k st sf M j = (mvB f k st.length p t x && canB q f (plF q f k st sf M j p.toNat t.toNat) x) := by
          rw [plOk, HX.out, mOk, isMv]; rfl
        have HOK := Lib.hid ok0
        clear ok0 hrow
        have hk0 : 0 ≤ k := by omega
        cases hmv : mvB f k st.length p t x
        · have HMV := Lib.hid hmv
          have hjJ2 : j = J := by
            rcases Nat.lt_or_ge j J with h | h
            · have := HJ.out.ok j h; rw [HOK.out, hmv] at this; cases this
            · omega
          have HJJ := Lib.hid hjJ2
          clear hmv hjJ2
          go_wp2_with fail
          refine wp_region_held_drew (S := (fun w' => w'.heap[w.heap.size]? = some (.cells #[.int .i64 q, .int .i64 f, .int .i64 k, .slice A1 st.length c1, .slice A2 sf.length c2] 29 (0, 0)) ∧ w'.cell? ⟨b2, off2, none⟩ = some (.int .i64 p) ∧ w'.cell? ⟨b2, off2 + 1, none⟩ = some (.int .i64 t) ∧ w'.cell? ⟨b2, off2 + 2, none⟩ = some (.int .i64 x))) (by kernel_rfl) ⟨kb, d0, d1, d2⟩ (fun hS => ?_)
          refine wpAnyH_take (i := 0) (oi := ⟨some 22, _, _, _, _, _⟩) (v := ?vpa1) rfl (by kernel_rfl) (by kernel_rfl) (by kernel_rfl) (fun _ _ _ h => h) (Or.inl ⟨by rfl, ?hpa1⟩) hS ?rpa1
          case hpa1 => (intro w' hSw; (try dsimp only at hSw); go_simp; (try with_reducible rfl))
          try simp only [Act.put, List.setIfInBounds_toArray, List.set_cons_zero, List.set_cons_succ]
          refine wpAnyH_take (i := 1) (oi := ⟨some 23, _, _, _, _, _⟩) (v := ?vpa2) rfl (by kernel_rfl) (by kernel_rfl) (by kernel_rfl) (fun _ _ _ h => h) (Or.inl ⟨by rfl, ?hpa2⟩) hS ?rpa2
          case hpa2 => (intro w' hSw; (try dsimp only at hSw); go_simp; (try with_reducible rfl))
          try simp only [Act.put, List.setIfInBounds_toArray, List.set_cons_zero, List.set_cons_succ]
          refine wpAnyH_take (i := 2) (oi := ⟨some 24, _, _, _, _, _⟩) (v := ?vpa3) rfl (by kernel_rfl) (by kernel_rfl) (by kernel_rfl) (fun _ _ _ h => h) (Or.inl ⟨by rfl, ?hpa3⟩) hS ?rpa3
          case hpa3 => (intro w' hSw; (try dsimp only at hSw); go_simp; (try with_reducible rfl))
          try simp only [Act.put, List.setIfInBounds_toArray, List.set_cons_zero, List.set_cons_succ]
          refine wpAnyH_take (i := 3) (oi := ⟨some 25, _, _, _, _, _⟩) (v := ?vpa4) rfl (by kernel_rfl) (by kernel_rfl) (by kernel_rfl) (fun _ _ _ h => h) (Or.inl ⟨by rfl, ?hpa4⟩) hS ?rpa4
          case hpa4 => (intro w' hSw; (try dsimp only at hSw); go_simp; (try with_reducible rfl))
          try simp only [Act.put, List.setIfInBounds_toArray, List.set_cons_zero, List.set_cons_succ]
          refine wpAnyH_take (i := 4) (oi := ⟨some 26, _, _, _, _, _⟩) rfl (by kernel_rfl) (by kernel_rfl) (by kernel_rfl) (fun _ _ _ h => h) (yields_load_row_u (by rfl) 29 (.tmp 2) rfl w.heap.size rfl _ _ _ _ (fun _ h => h.1) Try.underlying29 rfl sizeTrkP) hS ?_
          try simp only [Act.put, List.setIfInBounds_toArray, List.set_cons_zero, List.set_cons_succ]
          refine wpAnyH_take (i := 5) (oi := ⟨some 27, _, _, _, _, _⟩) (v := ?vpa5) rfl (by kernel_rfl) (by kernel_rfl) (by kernel_rfl) (fun _ _ _ h => h) (Or.inl ⟨by rfl, ?hpa5⟩) hS ?rpa5
          case hpa5 => (intro w' hSw; (try dsimp only at hSw); go_simp; (try with_reducible rfl))
          try simp only [Act.put, List.setIfInBounds_toArray, List.set_cons_zero, List.set_cons_succ]
          refine wpAnyH_take (i := 6) (oi := ⟨some 28, _, _, _, _, _⟩) (v := ?vpa6) rfl (by kernel_rfl) (by kernel_rfl) (by kernel_rfl) (fun _ _ _ h => h) (Or.inl ⟨by rfl, ?hpa6⟩) hS ?rpa6
          case hpa6 => (intro w' hSw; (try dsimp only at hSw); go_simp; (try with_reducible rfl))
          try simp only [Act.put, List.setIfInBounds_toArray, List.set_cons_zero, List.set_cons_succ]
          refine wpAnyH_take (i := 7) (oi := ⟨some 29, _, _, _, _, _⟩) (v := ?vpa7) rfl (by kernel_rfl) (by kernel_rfl) (by kernel_rfl) (fun _ _ _ h => h) (Or.inl ⟨by rfl, ?hpa7⟩) hS ?rpa7
          case hpa7 => (intro w' hSw; (try dsimp only at hSw); go_simp; (try with_reducible rfl))
          try simp only [Act.put, List.setIfInBounds_toArray, List.set_cons_zero, List.set_cons_succ]
          refine wpAnyH_take (i := 8) (oi := ⟨some 30, _, _, _, _, _⟩) (v := ?vpa8) rfl (by kernel_rfl) (by kernel_rfl) (by kernel_rfl) (fun _ _ _ h => h) (Or.inl ⟨by rfl, ?hpa8⟩) hS ?rpa8
          case hpa8 => (intro w' hSw; (try dsimp only at hSw); go_simp; (try with_reducible rfl))
          try simp only [Act.put, List.setIfInBounds_toArray, List.set_cons_zero, List.set_cons_succ]
          refine wpAnyH_take (i := 9) (oi := ⟨some 31, _, _, _, _, _⟩) (v := ?vpa9) rfl (by kernel_rfl) (by kernel_rfl) (by kernel_rfl) (fun _ _ _ h => h) (Or.inl ⟨by rfl, ?hpa9⟩) hS ?rpa9
          case hpa9 => (intro w' hSw; (try dsimp only at hSw); go_simp; (try with_reducible rfl))
          try simp only [Act.put, List.setIfInBounds_toArray, List.set_cons_zero, List.set_cons_succ]
          refine wpAnyH_take (i := 10) (oi := ⟨some 32, _, _, _, _, _⟩) (v := ?vpa10) rfl (by kernel_rfl) (by kernel_rfl) (by kernel_rfl) (fun _ _ _ h => h) (Or.inl ⟨by rfl, ?hpa10⟩) hS ?rpa10
          case hpa10 => (intro w' hSw; (try dsimp only at hSw); go_simp; (try with_reducible rfl))
          try simp only [Act.put, List.setIfInBounds_toArray, List.set_cons_zero, List.set_cons_succ]
          refine wpAnyH_take (i := 11) (oi := ⟨some 33, _, _, _, _, _⟩) (v := ?vpa11) rfl (by kernel_rfl) (by kernel_rfl) (by kernel_rfl) (fun _ _ _ h => h) (Or.inl ⟨by rfl, ?hpa11⟩) hS ?rpa11
          case hpa11 => (intro w' hSw; (try dsimp only at hSw); go_simp; (try with_reducible rfl))
          try simp only [Act.put, List.setIfInBounds_toArray, List.set_cons_zero, List.set_cons_succ]
          refine wpAnyH_take (i := 12) (oi := ⟨some 34, _, _, _, _, _⟩) (v := ?vpa12) rfl (by kernel_rfl) (by kernel_rfl) (by kernel_rfl) (fun _ _ _ h => h) (Or.inl ⟨by rfl, ?hpa12⟩) hS ?rpa12
          case hpa12 => (intro w' hSw; (try dsimp only at hSw); go_simp; (try with_reducible rfl))
          try simp only [Act.put, List.setIfInBounds_toArray, List.set_cons_zero, List.set_cons_succ]
          refine wpAnyH_take (i := 13) (oi := ⟨some 35, _, _, _, _, _⟩) (v := ?vpa13) rfl (by kernel_rfl) (by kernel_rfl) (by kernel_rfl) (fun _ _ _ h => h) (Or.inl ⟨by rfl, ?hpa13⟩) hS ?rpa13
          case hpa13 => (intro w' hSw; (try dsimp only at hSw); go_simp; (try with_reducible rfl))
          try simp only [Act.put, List.setIfInBounds_toArray, List.set_cons_zero, List.set_cons_succ]
          refine wpAnyH_ready (rs := [14]) (by kernel_rfl) (by simp) ?_
          refine AllReadyH.cons (o := ⟨some 36, _, _, _, _, _⟩) rfl (fun K' hK' => ?_) AllReadyH.nil
          go_simp
          go_at_call 80
          refine (trMove_any q f k A1 A2 st.length c1 sf.length c2 p t x wr.drew hl hk0 k4).mono ?_
          rintro e w5 ⟨rfl, hx5⟩
          rw [HMV.out]
          replace hx5 : Below wr.heap.size wr w5 := (Below.refl _ wr).drew.trans (hx5.mono (Nat.le_refl _))
          refine hK'.out _ _ ⟨(hx5.block _ (heap_lt kb)).trans kb, (bcell hx5 hb2).trans d0, (bcell hx5 hb2).trans d1, (bcell hx5 hb2).trans d2⟩ (fun _ => ?_)
          clear hK' K'
          try simp only [Act.put, List.setIfInBounds_toArray, List.set_cons_zero, List.set_cons_succ]
          refine wpAnyH_take (i := 15) (oi := ⟨some 37, _, _, _, _, _⟩) (v := ?vpa14) rfl (by kernel_rfl) (by kernel_rfl) (by kernel_rfl) (fun _ _ _ h => h) (Or.inl ⟨by rfl, ?hpa14⟩) ⟨(hx5.block _ (heap_lt kb)).trans kb, (bcell hx5 hb2).trans d0, (bcell hx5 hb2).trans d1, (bcell hx5 hb2).trans d2⟩ ?rpa14
          case hpa14 => (intro w' hSw; (try dsimp only at hSw); go_simp; (try with_reducible rfl))
          try simp only [Act.put, List.setIfInBounds_toArray, List.set_cons_zero, List.set_cons_succ]
          refine wpAnyH_take (i := 16) (oi := ⟨some 38, _, _, _, _, _⟩) (v := ?vpa15) rfl (by kernel_rfl) (by kernel_rfl) (by kernel_rfl) (fun _ _ _ h => h) (Or.inl ⟨by rfl, ?hpa15⟩) ⟨(hx5.block _ (heap_lt kb)).trans kb, (bcell hx5 hb2).trans d0, (bcell hx5 hb2).trans d1, (bcell hx5 hb2).trans d2⟩ ?rpa15
          case hpa15 => (intro w' hSw; (try dsimp only at hSw); go_simp; (try with_reducible rfl))
          try simp only [Act.put, List.setIfInBounds_toArray, List.set_cons_zero, List.set_cons_succ]
          refine wpAnyH_take (i := 17) (oi := ⟨some 39, _, _, _, _, _⟩) (v := ?vpa16) rfl (by kernel_rfl) (by kernel_rfl) (by kernel_rfl) (fun _ _ _ h => h) (Or.inl ⟨by rfl, ?hpa16⟩) ⟨(hx5.block _ (heap_lt kb)).trans kb, (bcell hx5 hb2).trans d0, (bcell hx5 hb2).trans d1, (bcell hx5 hb2).trans d2⟩ ?rpa16
          case hpa16 => (intro w' hSw; (try dsimp only at hSw); go_simp; (try with_reducible rfl))
          try simp only [Act.put, List.setIfInBounds_toArray, List.set_cons_zero, List.set_cons_succ]
          refine wpAnyH_take (i := 18) (oi := ⟨some 40, _, _, _, _, _⟩) (v := undef) rfl (by kernel_rfl) (by kernel_rfl) (by kernel_rfl) (fun _ _ _ h => h) (Or.inr ⟨by rfl, rfl⟩) ⟨(hx5.block _ (heap_lt kb)).trans kb, (bcell hx5 hb2).trans d0, (bcell hx5 hb2).trans d1, (bcell hx5 hb2).trans d2⟩ ?rpa17
          try simp only [Act.put, List.setIfInBounds_toArray, List.set_cons_zero, List.set_cons_succ]
          refine wpAnyH_take (i := 19) (oi := ⟨some 41, _, _, _, _, _⟩) (v := undef) rfl (by kernel_rfl) (by kernel_rfl) (by kernel_rfl) (fun _ _ _ h => h) (Or.inr ⟨by rfl, rfl⟩) ⟨(hx5.block _ (heap_lt kb)).trans kb, (bcell hx5 hb2).trans d0, (bcell hx5 hb2).trans d1, (bcell hx5 hb2).trans d2⟩ ?rpa18
          try simp only [Act.put, List.setIfInBounds_toArray, List.set_cons_zero, List.set_cons_succ]
          refine wpAnyH_take (i := 20) (oi := ⟨some 42, _, _, _, _, _⟩) (v := undef) rfl (by kernel_rfl) (by kernel_rfl) (by kernel_rfl) (fun _ _ _ h => h) (Or.inr ⟨by rfl, rfl⟩) ⟨(hx5.block _ (heap_lt kb)).trans kb, (bcell hx5 hb2).trans d0, (bcell hx5 hb2).trans d1, (bcell hx5 hb2).trans d2⟩ ?rpa19
          try simp only [Act.put, List.setIfInBounds_toArray, List.set_cons_zero, List.set_cons_succ]
          refine wpAnyH_take (i := 21) (oi := ⟨some 43, _, _, _, _, _⟩) (v := undef) rfl (by kernel_rfl) (by kernel_rfl) (by kernel_rfl) (fun _ _ _ h => h) (Or.inr ⟨by rfl, rfl⟩) ⟨(hx5.block _ (heap_lt kb)).trans kb, (bcell hx5 hb2).trans d0, (bcell hx5 hb2).trans d1, (bcell hx5 hb2).trans d2⟩ ?rpa20
          try simp only [Act.put, List.setIfInBounds_toArray, List.set_cons_zero, List.set_cons_succ]
          refine wpAnyH_take (i := 22) (oi := ⟨some 44, _, _, _, _, _⟩) (v := undef) rfl (by kernel_rfl) (by kernel_rfl) (by kernel_rfl) (fun _ _ _ h => h) (Or.inr ⟨by rfl, rfl⟩) ⟨(hx5.block _ (heap_lt kb)).trans kb, (bcell hx5 hb2).trans d0, (bcell hx5 hb2).trans d1, (bcell hx5 hb2).trans d2⟩ ?rpa21
          try simp only [Act.put, List.setIfInBounds_toArray, List.set_cons_zero, List.set_cons_succ]
          refine wpAnyH_take (i := 23) (oi := ⟨some 45, _, _, _, _, _⟩) (v := undef) rfl (by kernel_rfl) (by kernel_rfl) (by kernel_rfl) (fun _ _ _ h => h) (Or.inr ⟨by rfl, rfl⟩) ⟨(hx5.block _ (heap_lt kb)).trans kb, (bcell hx5 hb2).trans d0, (bcell hx5 hb2).trans d1, (bcell hx5 hb2).trans d2⟩ ?rpa22
          try simp only [Act.put, List.setIfInBounds_toArray, List.set_cons_zero, List.set_cons_succ]
          refine wpAnyH_take (i := 24) (oi := ⟨some 46, _, _, _, _, _⟩) (v := undef) rfl (by kernel_rfl) (by kernel_rfl) (by kernel_rfl) (fun _ _ _ h => h) (Or.inr ⟨by rfl, rfl⟩) ⟨(hx5.block _ (heap_lt kb)).trans kb, (bcell hx5 hb2).trans d0, (bcell hx5 hb2).trans d1, (bcell hx5 hb2).trans d2⟩ ?rpa23
          try simp only [Act.put, List.setIfInBounds_toArray, List.set_cons_zero, List.set_cons_succ]
          refine wpAnyH_take (i := 25) (oi := ⟨some 47, _, _, _, _, _⟩) (v := undef) rfl (by kernel_rfl) (by kernel_rfl) (by kernel_rfl) (fun _ _ _ h => h) (Or.inr ⟨by rfl, rfl⟩) ⟨(hx5.block _ (heap_lt kb)).trans kb, (bcell hx5 hb2).trans d0, (bcell hx5 hb2).trans d1, (bcell hx5 hb2).trans d2⟩ ?rpa24
          try simp only [Act.put, List.setIfInBounds_toArray, List.set_cons_zero, List.set_cons_succ]
          refine wpAnyH_take (i := 26) (oi := ⟨some 48, _, _, _, _, _⟩) (v := undef) rfl (by kernel_rfl) (by kernel_rfl) (by kernel_rfl) (fun _ _ _ h => h) (Or.inr ⟨by rfl, rfl⟩) ⟨(hx5.block _ (heap_lt kb)).trans kb, (bcell hx5 hb2).trans d0, (bcell hx5 hb2).trans d1, (bcell hx5 hb2).trans d2⟩ ?rpa25
          try simp only [Act.put, List.setIfInBounds_toArray, List.set_cons_zero, List.set_cons_succ]
          refine wpAnyH_take (i := 27) (oi := ⟨some 49, _, _, _, _, _⟩) (v := undef) rfl (by kernel_rfl) (by kernel_rfl) (by kernel_rfl) (fun _ _ _ h => h) (Or.inr ⟨by rfl, rfl⟩) ⟨(hx5.block _ (heap_lt kb)).trans kb, (bcell hx5 hb2).trans d0, (bcell hx5 hb2).trans d1, (bcell hx5 hb2).trans d2⟩ ?rpa26
          try simp only [Act.put, List.setIfInBounds_toArray, List.set_cons_zero, List.set_cons_succ]
          refine wpAnyH_take (i := 28) (oi := ⟨some 50, _, _, _, _, _⟩) (v := undef) rfl (by kernel_rfl) (by kernel_rfl) (by kernel_rfl) (fun _ _ _ h => h) (Or.inr ⟨by rfl, rfl⟩) ⟨(hx5.block _ (heap_lt kb)).trans kb, (bcell hx5 hb2).trans d0, (bcell hx5 hb2).trans d1, (bcell hx5 hb2).trans d2⟩ ?rpa27
          try simp only [Act.put, List.setIfInBounds_toArray, List.set_cons_zero, List.set_cons_succ]
          refine wpAnyH_take (i := 29) (oi := ⟨some 51, _, _, _, _, _⟩) (v := undef) rfl (by kernel_rfl) (by kernel_rfl) (by kernel_rfl) (fun _ _ _ h => h) (Or.inr ⟨by rfl, rfl⟩) ⟨(hx5.block _ (heap_lt kb)).trans kb, (bcell hx5 hb2).trans d0, (bcell hx5 hb2).trans d1, (bcell hx5 hb2).trans d2⟩ ?rpa28
          try simp only [Act.put, List.setIfInBounds_toArray, List.set_cons_zero, List.set_cons_succ]
          refine wpAnyH_take (i := 30) (oi := ⟨some 52, _, _, _, _, _⟩) (v := undef) rfl (by kernel_rfl) (by kernel_rfl) (by kernel_rfl) (fun _ _ _ h => h) (Or.inr ⟨by rfl, rfl⟩) ⟨(hx5.block _ (heap_lt kb)).trans kb, (bcell hx5 hb2).trans d0, (bcell hx5 hb2).trans d1, (bcell hx5 hb2).trans d2⟩ ?rpa29
          try simp only [Act.put, List.setIfInBounds_toArray, List.set_cons_zero, List.set_cons_succ]
          refine wpAnyH_take (i := 31) (oi := ⟨some 53, _, _, _, _, _⟩) (v := undef) rfl (by kernel_rfl) (by kernel_rfl) (by kernel_rfl) (fun _ _ _ h => h) (Or.inr ⟨by rfl, rfl⟩) ⟨(hx5.block _ (heap_lt kb)).trans kb, (bcell hx5 hb2).trans d0, (bcell hx5 hb2).trans d1, (bcell hx5 hb2).trans d2⟩ ?rpa30
          try simp only [Act.put, List.setIfInBounds_toArray, List.set_cons_zero, List.set_cons_succ]
          refine wpAnyH_take (i := 32) (oi := ⟨some 54, _, _, _, _, _⟩) (v := undef) rfl (by kernel_rfl) (by kernel_rfl) (by kernel_rfl) (fun _ _ _ h => h) (Or.inr ⟨by rfl, rfl⟩) ⟨(hx5.block _ (heap_lt kb)).trans kb, (bcell hx5 hb2).trans d0, (bcell hx5 hb2).trans d1, (bcell hx5 hb2).trans d2⟩ ?rpa31
          try simp only [Act.put, List.setIfInBounds_toArray, List.set_cons_zero, List.set_cons_succ]
          refine wpAnyH_take (i := 33) (oi := ⟨some 55, _, _, _, _, _⟩) (v := undef) rfl (by kernel_rfl) (by kernel_rfl) (by kernel_rfl) (fun _ _ _ h => h) (Or.inr ⟨by rfl, rfl⟩) ⟨(hx5.block _ (heap_lt kb)).trans kb, (bcell hx5 hb2).trans d0, (bcell hx5 hb2).trans d1, (bcell hx5 hb2).trans d2⟩ ?rpa32
          try simp only [Act.put, List.setIfInBounds_toArray, List.set_cons_zero, List.set_cons_succ]
          refine wpAnyH_take (i := 34) (oi := ⟨some 56, _, _, _, _, _⟩) (v := undef) rfl (by kernel_rfl) (by kernel_rfl) (by kernel_rfl) (fun _ _ _ h => h) (Or.inr ⟨by rfl, rfl⟩) ⟨(hx5.block _ (heap_lt kb)).trans kb, (bcell hx5 hb2).trans d0, (bcell hx5 hb2).trans d1, (bcell hx5 hb2).trans d2⟩ ?rpa33
          try simp only [Act.put, List.setIfInBounds_toArray, List.set_cons_zero, List.set_cons_succ]
          refine wpAnyH_take (i := 35) (oi := ⟨some 57, _, _, _, _, _⟩) (v := ?vpa34) rfl (by kernel_rfl) (by kernel_rfl) (by kernel_rfl) (fun _ _ _ h => h) (Or.inl ⟨by rfl, ?hpa34⟩) ⟨(hx5.block _ (heap_lt kb)).trans kb, (bcell hx5 hb2).trans d0, (bcell hx5 hb2).trans d1, (bcell hx5 hb2).trans d2⟩ ?rpa34
          case hpa34 => (intro w' hSw; (try dsimp only at hSw); go_simp; (try with_reducible rfl))
          try simp only [Act.put, List.setIfInBounds_toArray, List.set_cons_zero, List.set_cons_succ]
          refine wpAnyH_done (by kernel_rfl) ?_ _
          go_wp2
          go_ret3
          exact ⟨hbw.trans (hx5.mono hbw.size), .inr ⟨by have := HJJ.out; omega, retP HJJ.out⟩⟩
        · have HMV := Lib.hid hmv
          have hmb := hmv
          rw [mvB, Bool.and_eq_true, Bool.and_eq_true, inB_iff, inB_iff, inB_iff] at hmb
          obtain ⟨⟨hpb, htb⟩, hxb⟩ := hmb
          obtain ⟨P, hP⟩ := Int.eq_ofNat_of_zero_le hpb.1
          obtain ⟨T, hT⟩ := Int.eq_ofNat_of_zero_le htb.1
          subst hP hT
          clear hmv
          have hPn : P < st.length := by omega
          have hTK : T < K := by have := HK.out; omega
          have hTk : T < k.toNat := by rw [HKt.out]; exact hTK
          obtain ⟨g8, e8, hg0, hg8, hc8, hr8⟩ := hG.row hPn
          simp only at e8
          injection e8 with e8 _ _
          subst e8
          have d8 := hr8.cell hTk
          have hBkl := hr8.lt
          rw [HKt.out] at hc8
          have iP : (P : Int) < (st.length : Int) := by omega
          have iT : (T : Int) < (K : Int) := by omega
          have hpre : ∀ i, i < j → plOk q f k st sf M i = true := fun i hi => HJ.out.ok i (by omega)
          have hbd := plF_bd HTR.out j hpre
          have hout := plF_out j hpre
          have hyb := hbd P T
          obtain ⟨y, hy⟩ : ∃ y, y = plF q f k st sf M j P T := ⟨_, rfl⟩
          rw [← hy] at d8 hyb
          have HBD := Lib.hid hbd; have HOUT := Lib.hid hout; have HY := Lib.hid hy
          clear hy hbd hout hpre hr8
          have hx8 : x ≤ 8 := by omega
          cases hcn : canB q f y x
          · have HCN := Lib.hid hcn
            have hjJ2 : j = J := by
              rcases Nat.lt_or_ge j J with h | h
              · have := HJ.out.ok j h; rw [HOK.out, HMV.out, Int.toNat_natCast, Int.toNat_natCast, ← HY.out, hcn] at this; cases this
              · omega
            have HJJ := Lib.hid hjJ2
            clear hcn hjJ2
            go_wp2_with fail
            refine wp_region_held_drew (S := (fun w' => w'.heap[w.heap.size]? = some (.cells #[.int .i64 q, .int .i64 f, .int .i64 k, .slice A1 st.length c1, .slice A2 sf.length c2] 29 (0, 0)) ∧ w'.cell? ⟨b2, off2, none⟩ = some (.int .i64 (P : Int)) ∧ w'.cell? ⟨b2, off2 + 1, none⟩ = some (.int .i64 (T : Int)) ∧ w'.cell? ⟨b2, off2 + 2, none⟩ = some (.int .i64 x) ∧ w'.cell? ⟨g8, P, none⟩ = some (.slice (some ⟨Bk P, 0, none⟩) K (C P)) ∧ w'.cell? ⟨Bk P, T, none⟩ = some (.int .i64 y))) (by kernel_rfl) ⟨kb, d0, d1, d2, hc8, d8⟩ (fun hS => ?_)
            refine wpAnyH_take (i := 0) (oi := ⟨some 22, _, _, _, _, _⟩) (v := ?vpb1) rfl (by kernel_rfl) (by kernel_rfl) (by kernel_rfl) (fun _ _ _ h => h) (Or.inl ⟨by rfl, ?hpb1⟩) hS ?rpb1
            case hpb1 => (intro w' hSw; (try dsimp only at hSw); go_simp; (try with_reducible rfl))
            try simp only [Act.put, List.setIfInBounds_toArray, List.set_cons_zero, List.set_cons_succ]
            refine wpAnyH_take (i := 1) (oi := ⟨some 23, _, _, _, _, _⟩) (v := ?vpb2) rfl (by kernel_rfl) (by kernel_rfl) (by kernel_rfl) (fun _ _ _ h => h) (Or.inl ⟨by rfl, ?hpb2⟩) hS ?rpb2
            case hpb2 => (intro w' hSw; (try dsimp only at hSw); go_simp; (try with_reducible rfl))
            try simp only [Act.put, List.setIfInBounds_toArray, List.set_cons_zero, List.set_cons_succ]
            refine wpAnyH_take (i := 2) (oi := ⟨some 24, _, _, _, _, _⟩) (v := ?vpb3) rfl (by kernel_rfl) (by kernel_rfl) (by kernel_rfl) (fun _ _ _ h => h) (Or.inl ⟨by rfl, ?hpb3⟩) hS ?rpb3
            case hpb3 => (intro w' hSw; (try dsimp only at hSw); go_simp; (try with_reducible rfl))
            try simp only [Act.put, List.setIfInBounds_toArray, List.set_cons_zero, List.set_cons_succ]
            refine wpAnyH_take (i := 3) (oi := ⟨some 25, _, _, _, _, _⟩) (v := ?vpb4) rfl (by kernel_rfl) (by kernel_rfl) (by kernel_rfl) (fun _ _ _ h => h) (Or.inl ⟨by rfl, ?hpb4⟩) hS ?rpb4
            case hpb4 => (intro w' hSw; (try dsimp only at hSw); go_simp; (try with_reducible rfl))
            try simp only [Act.put, List.setIfInBounds_toArray, List.set_cons_zero, List.set_cons_succ]
            refine wpAnyH_take (i := 4) (oi := ⟨some 26, _, _, _, _, _⟩) rfl (by kernel_rfl) (by kernel_rfl) (by kernel_rfl) (fun _ _ _ h => h) (yields_load_row_u (by rfl) 29 (.tmp 2) rfl w.heap.size rfl _ _ _ _ (fun _ h => h.1) Try.underlying29 rfl sizeTrkP) hS ?_
            try simp only [Act.put, List.setIfInBounds_toArray, List.set_cons_zero, List.set_cons_succ]
            refine wpAnyH_take (i := 5) (oi := ⟨some 27, _, _, _, _, _⟩) (v := ?vpb5) rfl (by kernel_rfl) (by kernel_rfl) (by kernel_rfl) (fun _ _ _ h => h) (Or.inl ⟨by rfl, ?hpb5⟩) hS ?rpb5
            case hpb5 => (intro w' hSw; (try dsimp only at hSw); go_simp; (try with_reducible rfl))
            try simp only [Act.put, List.setIfInBounds_toArray, List.set_cons_zero, List.set_cons_succ]
            refine wpAnyH_take (i := 6) (oi := ⟨some 28, _, _, _, _, _⟩) (v := ?vpb6) rfl (by kernel_rfl) (by kernel_rfl) (by kernel_rfl) (fun _ _ _ h => h) (Or.inl ⟨by rfl, ?hpb6⟩) hS ?rpb6
            case hpb6 => (intro w' hSw; (try dsimp only at hSw); go_simp; (try with_reducible rfl))
            try simp only [Act.put, List.setIfInBounds_toArray, List.set_cons_zero, List.set_cons_succ]
            refine wpAnyH_take (i := 7) (oi := ⟨some 29, _, _, _, _, _⟩) (v := ?vpb7) rfl (by kernel_rfl) (by kernel_rfl) (by kernel_rfl) (fun _ _ _ h => h) (Or.inl ⟨by rfl, ?hpb7⟩) hS ?rpb7
            case hpb7 => (intro w' hSw; (try dsimp only at hSw); go_simp; (try with_reducible rfl))
            try simp only [Act.put, List.setIfInBounds_toArray, List.set_cons_zero, List.set_cons_succ]
            refine wpAnyH_take (i := 8) (oi := ⟨some 30, _, _, _, _, _⟩) (v := ?vpb8) rfl (by kernel_rfl) (by kernel_rfl) (by kernel_rfl) (fun _ _ _ h => h) (Or.inl ⟨by rfl, ?hpb8⟩) hS ?rpb8
            case hpb8 => (intro w' hSw; (try dsimp only at hSw); go_simp; (try with_reducible rfl))
            try simp only [Act.put, List.setIfInBounds_toArray, List.set_cons_zero, List.set_cons_succ]
            refine wpAnyH_take (i := 9) (oi := ⟨some 31, _, _, _, _, _⟩) (v := ?vpb9) rfl (by kernel_rfl) (by kernel_rfl) (by kernel_rfl) (fun _ _ _ h => h) (Or.inl ⟨by rfl, ?hpb9⟩) hS ?rpb9
            case hpb9 => (intro w' hSw; (try dsimp only at hSw); go_simp; (try with_reducible rfl))
            try simp only [Act.put, List.setIfInBounds_toArray, List.set_cons_zero, List.set_cons_succ]
            refine wpAnyH_take (i := 10) (oi := ⟨some 32, _, _, _, _, _⟩) (v := ?vpb10) rfl (by kernel_rfl) (by kernel_rfl) (by kernel_rfl) (fun _ _ _ h => h) (Or.inl ⟨by rfl, ?hpb10⟩) hS ?rpb10
            case hpb10 => (intro w' hSw; (try dsimp only at hSw); go_simp; (try with_reducible rfl))
            try simp only [Act.put, List.setIfInBounds_toArray, List.set_cons_zero, List.set_cons_succ]
            refine wpAnyH_take (i := 11) (oi := ⟨some 33, _, _, _, _, _⟩) (v := ?vpb11) rfl (by kernel_rfl) (by kernel_rfl) (by kernel_rfl) (fun _ _ _ h => h) (Or.inl ⟨by rfl, ?hpb11⟩) hS ?rpb11
            case hpb11 => (intro w' hSw; (try dsimp only at hSw); go_simp; (try with_reducible rfl))
            try simp only [Act.put, List.setIfInBounds_toArray, List.set_cons_zero, List.set_cons_succ]
            refine wpAnyH_take (i := 12) (oi := ⟨some 34, _, _, _, _, _⟩) (v := ?vpb12) rfl (by kernel_rfl) (by kernel_rfl) (by kernel_rfl) (fun _ _ _ h => h) (Or.inl ⟨by rfl, ?hpb12⟩) hS ?rpb12
            case hpb12 => (intro w' hSw; (try dsimp only at hSw); go_simp; (try with_reducible rfl))
            try simp only [Act.put, List.setIfInBounds_toArray, List.set_cons_zero, List.set_cons_succ]
            refine wpAnyH_take (i := 13) (oi := ⟨some 35, _, _, _, _, _⟩) (v := ?vpb13) rfl (by kernel_rfl) (by kernel_rfl) (by kernel_rfl) (fun _ _ _ h => h) (Or.inl ⟨by rfl, ?hpb13⟩) hS ?rpb13
            case hpb13 => (intro w' hSw; (try dsimp only at hSw); go_simp; (try with_reducible rfl))
            try simp only [Act.put, List.setIfInBounds_toArray, List.set_cons_zero, List.set_cons_succ]
            refine wpAnyH_ready (rs := [14]) (by kernel_rfl) (by simp) ?_
            refine AllReadyH.cons (o := ⟨some 36, _, _, _, _, _⟩) rfl (fun K' hK' => ?_) AllReadyH.nil
            go_simp
            go_at_call 80
            refine (trMove_any q f k A1 A2 st.length c1 sf.length c2 (P : Int) (T : Int) x wr.drew hl hk0 k4).mono ?_
            rintro e w5 ⟨rfl, hx5⟩
            rw [HMV.out]
            replace hx5 : Below wr.heap.size wr w5 := (Below.refl _ wr).drew.trans (hx5.mono (Nat.le_refl _))
            have kb5 := (hx5.block _ (heap_lt kb)).trans kb
            have d05 := (bcell hx5 hb2).trans d0
            have d15 := (bcell hx5 hb2).trans d1
            have d25 := (bcell hx5 hb2).trans d2
            have hc85 := (bcell hx5 hg8).trans hc8
            have d85 := (bcell hx5 hBkl).trans d8
            refine hK'.out _ _ ⟨kb5, d05, d15, d25, hc85, d85⟩ (fun _ => ?_)
            clear hK' K'
            try simp only [Act.put, List.setIfInBounds_toArray, List.set_cons_zero, List.set_cons_succ]
            refine wpAnyH_take (i := 15) (oi := ⟨some 37, _, _, _, _, _⟩) (v := ?vpb14) rfl (by kernel_rfl) (by kernel_rfl) (by kernel_rfl) (fun _ _ _ h => h) (Or.inl ⟨by rfl, ?hpb14⟩) ⟨kb5, d05, d15, d25, hc85, d85⟩ ?rpb14
            case hpb14 => (intro w' hSw; (try dsimp only at hSw); go_simp; (try with_reducible rfl))
            try simp only [Act.put, List.setIfInBounds_toArray, List.set_cons_zero, List.set_cons_succ]
            refine wpAnyH_take (i := 16) (oi := ⟨some 38, _, _, _, _, _⟩) (v := ?vpb15) rfl (by kernel_rfl) (by kernel_rfl) (by kernel_rfl) (fun _ _ _ h => h) (Or.inl ⟨by rfl, ?hpb15⟩) ⟨kb5, d05, d15, d25, hc85, d85⟩ ?rpb15
            case hpb15 => (intro w' hSw; (try dsimp only at hSw); go_simp; (try with_reducible rfl))
            try simp only [Act.put, List.setIfInBounds_toArray, List.set_cons_zero, List.set_cons_succ]
            refine wpAnyH_take (i := 17) (oi := ⟨some 39, _, _, _, _, _⟩) (v := ?vpb16) rfl (by kernel_rfl) (by kernel_rfl) (by kernel_rfl) (fun _ _ _ h => h) (Or.inl ⟨by rfl, ?hpb16⟩) ⟨kb5, d05, d15, d25, hc85, d85⟩ ?rpb16
            case hpb16 => (intro w' hSw; (try dsimp only at hSw); go_simp; (try with_reducible rfl))
            try simp only [Act.put, List.setIfInBounds_toArray, List.set_cons_zero, List.set_cons_succ]
            refine wpAnyH_take (i := 18) (oi := ⟨some 40, _, _, _, _, _⟩) rfl (by kernel_rfl) (by kernel_rfl) (by kernel_rfl) (fun _ _ _ h => h) (yields_load_row_u (by rfl) 29 (.tmp 2) rfl w.heap.size rfl _ _ _ _ (fun _ h => h.1) Try.underlying29 rfl sizeTrkP) ⟨kb5, d05, d15, d25, hc85, d85⟩ ?_
            try simp only [Act.put, List.setIfInBounds_toArray, List.set_cons_zero, List.set_cons_succ]
            refine wpAnyH_take (i := 19) (oi := ⟨some 41, _, _, _, _, _⟩) (v := ?vpb17) rfl (by kernel_rfl) (by kernel_rfl) (by kernel_rfl) (fun _ _ _ h => h) (Or.inl ⟨by rfl, ?hpb17⟩) ⟨kb5, d05, d15, d25, hc85, d85⟩ ?rpb17
            case hpb17 => (intro w' hSw; (try dsimp only at hSw); go_simp; (try with_reducible rfl))
            try simp only [Act.put, List.setIfInBounds_toArray, List.set_cons_zero, List.set_cons_succ]
            refine wpAnyH_take (i := 20) (oi := ⟨some 42, _, _, _, _, _⟩) (v := ?vpb18) rfl (by kernel_rfl) (by kernel_rfl) (by kernel_rfl) (fun _ _ _ h => h) (Or.inl ⟨by rfl, ?hpb18⟩) ⟨kb5, d05, d15, d25, hc85, d85⟩ ?rpb18
            case hpb18 => (intro w' hSw; (try dsimp only at hSw); go_simp; (try with_reducible rfl))
            try simp only [Act.put, List.setIfInBounds_toArray, List.set_cons_zero, List.set_cons_succ]
            refine wpAnyH_take (i := 21) (oi := ⟨some 43, _, _, _, _, _⟩) (v := ?vpb19) rfl (by kernel_rfl) (by kernel_rfl) (by kernel_rfl) (fun _ _ _ h => h) (Or.inl ⟨by rfl, ?hpb19⟩) ⟨kb5, d05, d15, d25, hc85, d85⟩ ?rpb19
            case hpb19 => (intro w' hSw; (try dsimp only at hSw); go_simp; (try with_reducible rfl))
            try simp only [Act.put, List.setIfInBounds_toArray, List.set_cons_zero, List.set_cons_succ]
            refine wpAnyH_take (i := 22) (oi := ⟨some 44, _, _, _, _, _⟩) (v := ?vpb20) rfl (by kernel_rfl) (by kernel_rfl) (by kernel_rfl) (fun _ _ _ h => h) (Or.inl ⟨by rfl, ?hpb20⟩) ⟨kb5, d05, d15, d25, hc85, d85⟩ ?rpb20
            case hpb20 => (intro w' hSw; (try dsimp only at hSw); go_simp; (try with_reducible rfl))
            try simp only [Act.put, List.setIfInBounds_toArray, List.set_cons_zero, List.set_cons_succ]
            refine wpAnyH_take (i := 23) (oi := ⟨some 45, _, _, _, _, _⟩) (v := ?vpb21) rfl (by kernel_rfl) (by kernel_rfl) (by kernel_rfl) (fun _ _ _ h => h) (Or.inl ⟨by rfl, ?hpb21⟩) ⟨kb5, d05, d15, d25, hc85, d85⟩ ?rpb21
            case hpb21 => (intro w' hSw; (try dsimp only at hSw); go_simp; (try with_reducible rfl))
            try simp only [Act.put, List.setIfInBounds_toArray, List.set_cons_zero, List.set_cons_succ]
            refine wpAnyH_take (i := 24) (oi := ⟨some 46, _, _, _, _, _⟩) (v := ?vpb22) rfl (by kernel_rfl) (by kernel_rfl) (by kernel_rfl) (fun _ _ _ h => h) (Or.inl ⟨by rfl, ?hpb22⟩) ⟨kb5, d05, d15, d25, hc85, d85⟩ ?rpb22
            case hpb22 => (intro w' hSw; (try dsimp only at hSw); go_simp; (try with_reducible rfl))
            try simp only [Act.put, List.setIfInBounds_toArray, List.set_cons_zero, List.set_cons_succ]
            refine wpAnyH_take (i := 25) (oi := ⟨some 47, _, _, _, _, _⟩) (v := ?vpb23) rfl (by kernel_rfl) (by kernel_rfl) (by kernel_rfl) (fun _ _ _ h => h) (Or.inl ⟨by rfl, ?hpb23⟩) ⟨kb5, d05, d15, d25, hc85, d85⟩ ?rpb23
            case hpb23 => (intro w' hSw; (try dsimp only at hSw); go_simp; (try with_reducible rfl))
            try simp only [Act.put, List.setIfInBounds_toArray, List.set_cons_zero, List.set_cons_succ]
            refine wpAnyH_take (i := 26) (oi := ⟨some 48, _, _, _, _, _⟩) (v := ?vpb24) rfl (by kernel_rfl) (by kernel_rfl) (by kernel_rfl) (fun _ _ _ h => h) (Or.inl ⟨by rfl, ?hpb24⟩) ⟨kb5, d05, d15, d25, hc85, d85⟩ ?rpb24
            case hpb24 => (intro w' hSw; (try dsimp only at hSw); go_simp; (try with_reducible rfl))
            try simp only [Act.put, List.setIfInBounds_toArray, List.set_cons_zero, List.set_cons_succ]
            refine wpAnyH_take (i := 27) (oi := ⟨some 49, _, _, _, _, _⟩) (v := ?vpb25) rfl (by kernel_rfl) (by kernel_rfl) (by kernel_rfl) (fun _ _ _ h => h) (Or.inl ⟨by rfl, ?hpb25⟩) ⟨kb5, d05, d15, d25, hc85, d85⟩ ?rpb25
            case hpb25 => (intro w' hSw; (try dsimp only at hSw); go_simp; (try with_reducible rfl))
            try simp only [Act.put, List.setIfInBounds_toArray, List.set_cons_zero, List.set_cons_succ]
            refine wpAnyH_take (i := 28) (oi := ⟨some 50, _, _, _, _, _⟩) (v := ?vpb26) rfl (by kernel_rfl) (by kernel_rfl) (by kernel_rfl) (fun _ _ _ h => h) (Or.inl ⟨by rfl, ?hpb26⟩) ⟨kb5, d05, d15, d25, hc85, d85⟩ ?rpb26
            case hpb26 => (intro w' hSw; (try dsimp only at hSw); go_simp; (try with_reducible rfl))
            try simp only [Act.put, List.setIfInBounds_toArray, List.set_cons_zero, List.set_cons_succ]
            refine wpAnyH_take (i := 29) (oi := ⟨some 51, _, _, _, _, _⟩) (v := ?vpb27) rfl (by kernel_rfl) (by kernel_rfl) (by kernel_rfl) (fun _ _ _ h => h) (Or.inl ⟨by rfl, ?hpb27⟩) ⟨kb5, d05, d15, d25, hc85, d85⟩ ?rpb27
            case hpb27 => (intro w' hSw; (try dsimp only at hSw); go_simp; (try with_reducible rfl))
            try simp only [Act.put, List.setIfInBounds_toArray, List.set_cons_zero, List.set_cons_succ]
            refine wpAnyH_take (i := 30) (oi := ⟨some 52, _, _, _, _, _⟩) (v := ?vpb28) rfl (by kernel_rfl) (by kernel_rfl) (by kernel_rfl) (fun _ _ _ h => h) (Or.inl ⟨by rfl, ?hpb28⟩) ⟨kb5, d05, d15, d25, hc85, d85⟩ ?rpb28
            case hpb28 => (intro w' hSw; (try dsimp only at hSw); go_simp; (try with_reducible rfl))
            try simp only [Act.put, List.setIfInBounds_toArray, List.set_cons_zero, List.set_cons_succ]
            refine wpAnyH_take (i := 31) (oi := ⟨some 53, _, _, _, _, _⟩) (v := ?vpb29) rfl (by kernel_rfl) (by kernel_rfl) (by kernel_rfl) (fun _ _ _ h => h) (Or.inl ⟨by rfl, ?hpb29⟩) ⟨kb5, d05, d15, d25, hc85, d85⟩ ?rpb29
            case hpb29 => (intro w' hSw; (try dsimp only at hSw); go_simp; (try with_reducible rfl))
            try simp only [Act.put, List.setIfInBounds_toArray, List.set_cons_zero, List.set_cons_succ]
            refine wpAnyH_take (i := 32) (oi := ⟨some 54, _, _, _, _, _⟩) (v := ?vpb30) rfl (by kernel_rfl) (by kernel_rfl) (by kernel_rfl) (fun _ _ _ h => h) (Or.inl ⟨by rfl, ?hpb30⟩) ⟨kb5, d05, d15, d25, hc85, d85⟩ ?rpb30
            case hpb30 => (intro w' hSw; (try dsimp only at hSw); go_simp; (try with_reducible rfl))
            try simp only [Act.put, List.setIfInBounds_toArray, List.set_cons_zero, List.set_cons_succ]
            refine wpAnyH_ready (rs := [33]) (by kernel_rfl) (by simp) ?_
            refine AllReadyH.cons (o := ⟨some 55, _, _, _, _, _⟩) rfl (fun K' hK' => ?_) AllReadyH.nil
            go_simp
            go_at_call 81
            refine (trCan_any q f k A1 A2 st.length c1 sf.length c2 y x _ hyb.2 q60 hxb.1 hx8).mono ?_
            rintro e w7 ⟨rfl, hx7⟩
            rw [HCN.out]
            replace hx7 : Below wr.heap.size wr w7 := hx5.trans (hx7.mono hx5.size)
            refine hK'.out _ _ ⟨(hx7.block _ (heap_lt kb)).trans kb, (bcell hx7 hb2).trans d0, (bcell hx7 hb2).trans d1, (bcell hx7 hb2).trans d2, (bcell hx7 hg8).trans hc8, (bcell hx7 hBkl).trans d8⟩ (fun _ => ?_)
            clear hK' K'
            try simp only [Act.put, List.setIfInBounds_toArray, List.set_cons_zero, List.set_cons_succ]
            refine wpAnyH_take (i := 34) (oi := ⟨some 56, _, _, _, _, _⟩) (v := ?vpb31) rfl (by kernel_rfl) (by kernel_rfl) (by kernel_rfl) (fun _ _ _ h => h) (Or.inl ⟨by rfl, ?hpb31⟩) ⟨(hx7.block _ (heap_lt kb)).trans kb, (bcell hx7 hb2).trans d0, (bcell hx7 hb2).trans d1, (bcell hx7 hb2).trans d2, (bcell hx7 hg8).trans hc8, (bcell hx7 hBkl).trans d8⟩ ?rpb31
            case hpb31 => (intro w' hSw; (try dsimp only at hSw); go_simp; (try with_reducible rfl))
            try simp only [Act.put, List.setIfInBounds_toArray, List.set_cons_zero, List.set_cons_succ]
            refine wpAnyH_take (i := 35) (oi := ⟨some 57, _, _, _, _, _⟩) (v := ?vpb32) rfl (by kernel_rfl) (by kernel_rfl) (by kernel_rfl) (fun _ _ _ h => h) (Or.inl ⟨by rfl, ?hpb32⟩) ⟨(hx7.block _ (heap_lt kb)).trans kb, (bcell hx7 hb2).trans d0, (bcell hx7 hb2).trans d1, (bcell hx7 hb2).trans d2, (bcell hx7 hg8).trans hc8, (bcell hx7 hBkl).trans d8⟩ ?rpb32
            case hpb32 => (intro w' hSw; (try dsimp only at hSw); go_simp; (try with_reducible rfl))
            try simp only [Act.put, List.setIfInBounds_toArray, List.set_cons_zero, List.set_cons_succ]
            refine wpAnyH_done (by kernel_rfl) ?_ _
            go_wp2
            go_ret3
            exact ⟨hbw.trans (hx7.mono hbw.size), .inr ⟨by have := HJJ.out; omega, retP HJJ.out⟩⟩
          · have HCN := Lib.hid hcn
            have hjJ2 : j < J := by
              rcases Nat.lt_or_ge j J with h | h
              · exact h
              · exfalso
                obtain rfl : j = J := by omega
                have := HJ.out.no hjl
                rw [HOK.out, HMV.out, Int.toNat_natCast, Int.toNat_natCast, ← HY.out, hcn] at this
                cases this
            clear hcn
            go_wp2_with fail
            refine wp_region_held_drew (S := (fun w' => w'.heap[w.heap.size]? = some (.cells #[.int .i64 q, .int .i64 f, .int .i64 k, .slice A1 st.length c1, .slice A2 sf.length c2] 29 (0, 0)) ∧ w'.cell? ⟨b2, off2, none⟩ = some (.int .i64 (P : Int)) ∧ w'.cell? ⟨b2, off2 + 1, none⟩ = some (.int .i64 (T : Int)) ∧ w'.cell? ⟨b2, off2 + 2, none⟩ = some (.int .i64 x) ∧ w'.cell? ⟨g8, P, none⟩ = some (.slice (some ⟨Bk P, 0, none⟩) K (C P)) ∧ w'.cell? ⟨Bk P, T, none⟩ = some (.int .i64 y))) (by kernel_rfl) ⟨kb, d0, d1, d2, hc8, d8⟩ (fun hS => ?_)
            refine wpAnyH_take (i := 0) (oi := ⟨some 22, _, _, _, _, _⟩) (v := ?vpc1) rfl (by kernel_rfl) (by kernel_rfl) (by kernel_rfl) (fun _ _ _ h => h) (Or.inl ⟨by rfl, ?hpc1⟩) hS ?rpc1
            case hpc1 => (intro w' hSw; (try dsimp only at hSw); go_simp; (try with_reducible rfl))
            try simp only [Act.put, List.setIfInBounds_toArray, List.set_cons_zero, List.set_cons_succ]
            refine wpAnyH_take (i := 1) (oi := ⟨some 23, _, _, _, _, _⟩) (v := ?vpc2) rfl (by kernel_rfl) (by kernel_rfl) (by kernel_rfl) (fun _ _ _ h => h) (Or.inl ⟨by rfl, ?hpc2⟩) hS ?rpc2
            case hpc2 => (intro w' hSw; (try dsimp only at hSw); go_simp; (try with_reducible rfl))
            try simp only [Act.put, List.setIfInBounds_toArray, List.set_cons_zero, List.set_cons_succ]
            refine wpAnyH_take (i := 2) (oi := ⟨some 24, _, _, _, _, _⟩) (v := ?vpc3) rfl (by kernel_rfl) (by kernel_rfl) (by kernel_rfl) (fun _ _ _ h => h) (Or.inl ⟨by rfl, ?hpc3⟩) hS ?rpc3
            case hpc3 => (intro w' hSw; (try dsimp only at hSw); go_simp; (try with_reducible rfl))
            try simp only [Act.put, List.setIfInBounds_toArray, List.set_cons_zero, List.set_cons_succ]
            refine wpAnyH_take (i := 3) (oi := ⟨some 25, _, _, _, _, _⟩) (v := ?vpc4) rfl (by kernel_rfl) (by kernel_rfl) (by kernel_rfl) (fun _ _ _ h => h) (Or.inl ⟨by rfl, ?hpc4⟩) hS ?rpc4
            case hpc4 => (intro w' hSw; (try dsimp only at hSw); go_simp; (try with_reducible rfl))
            try simp only [Act.put, List.setIfInBounds_toArray, List.set_cons_zero, List.set_cons_succ]
            refine wpAnyH_take (i := 4) (oi := ⟨some 26, _, _, _, _, _⟩) rfl (by kernel_rfl) (by kernel_rfl) (by kernel_rfl) (fun _ _ _ h => h) (yields_load_row_u (by rfl) 29 (.tmp 2) rfl w.heap.size rfl _ _ _ _ (fun _ h => h.1) Try.underlying29 rfl sizeTrkP) hS ?_
            try simp only [Act.put, List.setIfInBounds_toArray, List.set_cons_zero, List.set_cons_succ]
            refine wpAnyH_take (i := 5) (oi := ⟨some 27, _, _, _, _, _⟩) (v := ?vpc5) rfl (by kernel_rfl) (by kernel_rfl) (by kernel_rfl) (fun _ _ _ h => h) (Or.inl ⟨by rfl, ?hpc5⟩) hS ?rpc5
            case hpc5 => (intro w' hSw; (try dsimp only at hSw); go_simp; (try with_reducible rfl))
            try simp only [Act.put, List.setIfInBounds_toArray, List.set_cons_zero, List.set_cons_succ]
            refine wpAnyH_take (i := 6) (oi := ⟨some 28, _, _, _, _, _⟩) (v := ?vpc6) rfl (by kernel_rfl) (by kernel_rfl) (by kernel_rfl) (fun _ _ _ h => h) (Or.inl ⟨by rfl, ?hpc6⟩) hS ?rpc6
            case hpc6 => (intro w' hSw; (try dsimp only at hSw); go_simp; (try with_reducible rfl))
            try simp only [Act.put, List.setIfInBounds_toArray, List.set_cons_zero, List.set_cons_succ]
            refine wpAnyH_take (i := 7) (oi := ⟨some 29, _, _, _, _, _⟩) (v := ?vpc7) rfl (by kernel_rfl) (by kernel_rfl) (by kernel_rfl) (fun _ _ _ h => h) (Or.inl ⟨by rfl, ?hpc7⟩) hS ?rpc7
            case hpc7 => (intro w' hSw; (try dsimp only at hSw); go_simp; (try with_reducible rfl))
            try simp only [Act.put, List.setIfInBounds_toArray, List.set_cons_zero, List.set_cons_succ]
            refine wpAnyH_take (i := 8) (oi := ⟨some 30, _, _, _, _, _⟩) (v := ?vpc8) rfl (by kernel_rfl) (by kernel_rfl) (by kernel_rfl) (fun _ _ _ h => h) (Or.inl ⟨by rfl, ?hpc8⟩) hS ?rpc8
            case hpc8 => (intro w' hSw; (try dsimp only at hSw); go_simp; (try with_reducible rfl))
            try simp only [Act.put, List.setIfInBounds_toArray, List.set_cons_zero, List.set_cons_succ]
            refine wpAnyH_take (i := 9) (oi := ⟨some 31, _, _, _, _, _⟩) (v := ?vpc9) rfl (by kernel_rfl) (by kernel_rfl) (by kernel_rfl) (fun _ _ _ h => h) (Or.inl ⟨by rfl, ?hpc9⟩) hS ?rpc9
            case hpc9 => (intro w' hSw; (try dsimp only at hSw); go_simp; (try with_reducible rfl))
            try simp only [Act.put, List.setIfInBounds_toArray, List.set_cons_zero, List.set_cons_succ]
            refine wpAnyH_take (i := 10) (oi := ⟨some 32, _, _, _, _, _⟩) (v := ?vpc10) rfl (by kernel_rfl) (by kernel_rfl) (by kernel_rfl) (fun _ _ _ h => h) (Or.inl ⟨by rfl, ?hpc10⟩) hS ?rpc10
            case hpc10 => (intro w' hSw; (try dsimp only at hSw); go_simp; (try with_reducible rfl))
            try simp only [Act.put, List.setIfInBounds_toArray, List.set_cons_zero, List.set_cons_succ]
            refine wpAnyH_take (i := 11) (oi := ⟨some 33, _, _, _, _, _⟩) (v := ?vpc11) rfl (by kernel_rfl) (by kernel_rfl) (by kernel_rfl) (fun _ _ _ h => h) (Or.inl ⟨by rfl, ?hpc11⟩) hS ?rpc11
            case hpc11 => (intro w' hSw; (try dsimp only at hSw); go_simp; (try with_reducible rfl))
            try simp only [Act.put, List.setIfInBounds_toArray, List.set_cons_zero, List.set_cons_succ]
            refine wpAnyH_take (i := 12) (oi := ⟨some 34, _, _, _, _, _⟩) (v := ?vpc12) rfl (by kernel_rfl) (by kernel_rfl) (by kernel_rfl) (fun _ _ _ h => h) (Or.inl ⟨by rfl, ?hpc12⟩) hS ?rpc12
            case hpc12 => (intro w' hSw; (try dsimp only at hSw); go_simp; (try with_reducible rfl))
            try simp only [Act.put, List.setIfInBounds_toArray, List.set_cons_zero, List.set_cons_succ]
            refine wpAnyH_take (i := 13) (oi := ⟨some 35, _, _, _, _, _⟩) (v := ?vpc13) rfl (by kernel_rfl) (by kernel_rfl) (by kernel_rfl) (fun _ _ _ h => h) (Or.inl ⟨by rfl, ?hpc13⟩) hS ?rpc13
            case hpc13 => (intro w' hSw; (try dsimp only at hSw); go_simp; (try with_reducible rfl))
            try simp only [Act.put, List.setIfInBounds_toArray, List.set_cons_zero, List.set_cons_succ]
            refine wpAnyH_ready (rs := [14]) (by kernel_rfl) (by simp) ?_
            refine AllReadyH.cons (o := ⟨some 36, _, _, _, _, _⟩) rfl (fun K' hK' => ?_) AllReadyH.nil
            go_simp
            go_at_call 80
            refine (trMove_any q f k A1 A2 st.length c1 sf.length c2 (P : Int) (T : Int) x wr.drew hl hk0 k4).mono ?_
            rintro e w5 ⟨rfl, hx5⟩
            rw [HMV.out]
            replace hx5 : Below wr.heap.size wr w5 := (Below.refl _ wr).drew.trans (hx5.mono (Nat.le_refl _))
            have kb5 := (hx5.block _ (heap_lt kb)).trans kb
            have d05 := (bcell hx5 hb2).trans d0
            have d15 := (bcell hx5 hb2).trans d1
            have d25 := (bcell hx5 hb2).trans d2
            have hc85 := (bcell hx5 hg8).trans hc8
            have d85 := (bcell hx5 hBkl).trans d8
            refine hK'.out _ _ ⟨kb5, d05, d15, d25, hc85, d85⟩ (fun _ => ?_)
            clear hK' K'
            try simp only [Act.put, List.setIfInBounds_toArray, List.set_cons_zero, List.set_cons_succ]
            refine wpAnyH_take (i := 15) (oi := ⟨some 37, _, _, _, _, _⟩) (v := ?vpc14) rfl (by kernel_rfl) (by kernel_rfl) (by kernel_rfl) (fun _ _ _ h => h) (Or.inl ⟨by rfl, ?hpc14⟩) ⟨kb5, d05, d15, d25, hc85, d85⟩ ?rpc14
            case hpc14 => (intro w' hSw; (try dsimp only at hSw); go_simp; (try with_reducible rfl))
            try simp only [Act.put, List.setIfInBounds_toArray, List.set_cons_zero, List.set_cons_succ]
            refine wpAnyH_take (i := 16) (oi := ⟨some 38, _, _, _, _, _⟩) (v := ?vpc15) rfl (by kernel_rfl) (by kernel_rfl) (by kernel_rfl) (fun _ _ _ h => h) (Or.inl ⟨by rfl, ?hpc15⟩) ⟨kb5, d05, d15, d25, hc85, d85⟩ ?rpc15
            case hpc15 => (intro w' hSw; (try dsimp only at hSw); go_simp; (try with_reducible rfl))
            try simp only [Act.put, List.setIfInBounds_toArray, List.set_cons_zero, List.set_cons_succ]
            refine wpAnyH_take (i := 17) (oi := ⟨some 39, _, _, _, _, _⟩) (v := ?vpc16) rfl (by kernel_rfl) (by kernel_rfl) (by kernel_rfl) (fun _ _ _ h => h) (Or.inl ⟨by rfl, ?hpc16⟩) ⟨kb5, d05, d15, d25, hc85, d85⟩ ?rpc16
            case hpc16 => (intro w' hSw; (try dsimp only at hSw); go_simp; (try with_reducible rfl))
            try simp only [Act.put, List.setIfInBounds_toArray, List.set_cons_zero, List.set_cons_succ]
            refine wpAnyH_take (i := 18) (oi := ⟨some 40, _, _, _, _, _⟩) rfl (by kernel_rfl) (by kernel_rfl) (by kernel_rfl) (fun _ _ _ h => h) (yields_load_row_u (by rfl) 29 (.tmp 2) rfl w.heap.size rfl _ _ _ _ (fun _ h => h.1) Try.underlying29 rfl sizeTrkP) ⟨kb5, d05, d15, d25, hc85, d85⟩ ?_
            try simp only [Act.put, List.setIfInBounds_toArray, List.set_cons_zero, List.set_cons_succ]
            refine wpAnyH_take (i := 19) (oi := ⟨some 41, _, _, _, _, _⟩) (v := ?vpc17) rfl (by kernel_rfl) (by kernel_rfl) (by kernel_rfl) (fun _ _ _ h => h) (Or.inl ⟨by rfl, ?hpc17⟩) ⟨kb5, d05, d15, d25, hc85, d85⟩ ?rpc17
            case hpc17 => (intro w' hSw; (try dsimp only at hSw); go_simp; (try with_reducible rfl))
            try simp only [Act.put, List.setIfInBounds_toArray, List.set_cons_zero, List.set_cons_succ]
            refine wpAnyH_take (i := 20) (oi := ⟨some 42, _, _, _, _, _⟩) (v := ?vpc18) rfl (by kernel_rfl) (by kernel_rfl) (by kernel_rfl) (fun _ _ _ h => h) (Or.inl ⟨by rfl, ?hpc18⟩) ⟨kb5, d05, d15, d25, hc85, d85⟩ ?rpc18
            case hpc18 => (intro w' hSw; (try dsimp only at hSw); go_simp; (try with_reducible rfl))
            try simp only [Act.put, List.setIfInBounds_toArray, List.set_cons_zero, List.set_cons_succ]
            refine wpAnyH_take (i := 21) (oi := ⟨some 43, _, _, _, _, _⟩) (v := ?vpc19) rfl (by kernel_rfl) (by kernel_rfl) (by kernel_rfl) (fun _ _ _ h => h) (Or.inl ⟨by rfl, ?hpc19⟩) ⟨kb5, d05, d15, d25, hc85, d85⟩ ?rpc19
            case hpc19 => (intro w' hSw; (try dsimp only at hSw); go_simp; (try with_reducible rfl))
            try simp only [Act.put, List.setIfInBounds_toArray, List.set_cons_zero, List.set_cons_succ]
            refine wpAnyH_take (i := 22) (oi := ⟨some 44, _, _, _, _, _⟩) (v := ?vpc20) rfl (by kernel_rfl) (by kernel_rfl) (by kernel_rfl) (fun _ _ _ h => h) (Or.inl ⟨by rfl, ?hpc20⟩) ⟨kb5, d05, d15, d25, hc85, d85⟩ ?rpc20
            case hpc20 => (intro w' hSw; (try dsimp only at hSw); go_simp; (try with_reducible rfl))
            try simp only [Act.put, List.setIfInBounds_toArray, List.set_cons_zero, List.set_cons_succ]
            refine wpAnyH_take (i := 23) (oi := ⟨some 45, _, _, _, _, _⟩) (v := ?vpc21) rfl (by kernel_rfl) (by kernel_rfl) (by kernel_rfl) (fun _ _ _ h => h) (Or.inl ⟨by rfl, ?hpc21⟩) ⟨kb5, d05, d15, d25, hc85, d85⟩ ?rpc21
            case hpc21 => (intro w' hSw; (try dsimp only at hSw); go_simp; (try with_reducible rfl))
            try simp only [Act.put, List.setIfInBounds_toArray, List.set_cons_zero, List.set_cons_succ]
            refine wpAnyH_take (i := 24) (oi := ⟨some 46, _, _, _, _, _⟩) (v := ?vpc22) rfl (by kernel_rfl) (by kernel_rfl) (by kernel_rfl) (fun _ _ _ h => h) (Or.inl ⟨by rfl, ?hpc22⟩) ⟨kb5, d05, d15, d25, hc85, d85⟩ ?rpc22
            case hpc22 => (intro w' hSw; (try dsimp only at hSw); go_simp; (try with_reducible rfl))
            try simp only [Act.put, List.setIfInBounds_toArray, List.set_cons_zero, List.set_cons_succ]
            refine wpAnyH_take (i := 25) (oi := ⟨some 47, _, _, _, _, _⟩) (v := ?vpc23) rfl (by kernel_rfl) (by kernel_rfl) (by kernel_rfl) (fun _ _ _ h => h) (Or.inl ⟨by rfl, ?hpc23⟩) ⟨kb5, d05, d15, d25, hc85, d85⟩ ?rpc23
            case hpc23 => (intro w' hSw; (try dsimp only at hSw); go_simp; (try with_reducible rfl))
            try simp only [Act.put, List.setIfInBounds_toArray, List.set_cons_zero, List.set_cons_succ]
            refine wpAnyH_take (i := 26) (oi := ⟨some 48, _, _, _, _, _⟩) (v := ?vpc24) rfl (by kernel_rfl) (by kernel_rfl) (by kernel_rfl) (fun _ _ _ h => h) (Or.inl ⟨by rfl, ?hpc24⟩) ⟨kb5, d05, d15, d25, hc85, d85⟩ ?rpc24
            case hpc24 => (intro w' hSw; (try dsimp only at hSw); go_simp; (try with_reducible rfl))
            try simp only [Act.put, List.setIfInBounds_toArray, List.set_cons_zero, List.set_cons_succ]
            refine wpAnyH_take (i := 27) (oi := ⟨some 49, _, _, _, _, _⟩) (v := ?vpc25) rfl (by kernel_rfl) (by kernel_rfl) (by kernel_rfl) (fun _ _ _ h => h) (Or.inl ⟨by rfl, ?hpc25⟩) ⟨kb5, d05, d15, d25, hc85, d85⟩ ?rpc25
            case hpc25 => (intro w' hSw; (try dsimp only at hSw); go_simp; (try with_reducible rfl))
            try simp only [Act.put, List.setIfInBounds_toArray, List.set_cons_zero, List.set_cons_succ]
            refine wpAnyH_take (i := 28) (oi := ⟨some 50, _, _, _, _, _⟩) (v := ?vpc26) rfl (by kernel_rfl) (by kernel_rfl) (by kernel_rfl) (fun _ _ _ h => h) (Or.inl ⟨by rfl, ?hpc26⟩) ⟨kb5, d05, d15, d25, hc85, d85⟩ ?rpc26
            case hpc26 => (intro w' hSw; (try dsimp only at hSw); go_simp; (try with_reducible rfl))
            try simp only [Act.put, List.setIfInBounds_toArray, List.set_cons_zero, List.set_cons_succ]
            refine wpAnyH_take (i := 29) (oi := ⟨some 51, _, _, _, _, _⟩) (v := ?vpc27) rfl (by kernel_rfl) (by kernel_rfl) (by kernel_rfl) (fun _ _ _ h => h) (Or.inl ⟨by rfl, ?hpc27⟩) ⟨kb5, d05, d15, d25, hc85, d85⟩ ?rpc27
            case hpc27 => (intro w' hSw; (try dsimp only at hSw); go_simp; (try with_reducible rfl))
            try simp only [Act.put, List.setIfInBounds_toArray, List.set_cons_zero, List.set_cons_succ]
            refine wpAnyH_take (i := 30) (oi := ⟨some 52, _, _, _, _, _⟩) (v := ?vpc28) rfl (by kernel_rfl) (by kernel_rfl) (by kernel_rfl) (fun _ _ _ h => h) (Or.inl ⟨by rfl, ?hpc28⟩) ⟨kb5, d05, d15, d25, hc85, d85⟩ ?rpc28
            case hpc28 => (intro w' hSw; (try dsimp only at hSw); go_simp; (try with_reducible rfl))
            try simp only [Act.put, List.setIfInBounds_toArray, List.set_cons_zero, List.set_cons_succ]
            refine wpAnyH_take (i := 31) (oi := ⟨some 53, _, _, _, _, _⟩) (v := ?vpc29) rfl (by kernel_rfl) (by kernel_rfl) (by kernel_rfl) (fun _ _ _ h => h) (Or.inl ⟨by rfl, ?hpc29⟩) ⟨kb5, d05, d15, d25, hc85, d85⟩ ?rpc29
            case hpc29 => (intro w' hSw; (try dsimp only at hSw); go_simp; (try with_reducible rfl))
            try simp only [Act.put, List.setIfInBounds_toArray, List.set_cons_zero, List.set_cons_succ]
            refine wpAnyH_take (i := 32) (oi := ⟨some 54, _, _, _, _, _⟩) (v := ?vpc30) rfl (by kernel_rfl) (by kernel_rfl) (by kernel_rfl) (fun _ _ _ h => h) (Or.inl ⟨by rfl, ?hpc30⟩) ⟨kb5, d05, d15, d25, hc85, d85⟩ ?rpc30
            case hpc30 => (intro w' hSw; (try dsimp only at hSw); go_simp; (try with_reducible rfl))
            try simp only [Act.put, List.setIfInBounds_toArray, List.set_cons_zero, List.set_cons_succ]
            refine wpAnyH_ready (rs := [33]) (by kernel_rfl) (by simp) ?_
            refine AllReadyH.cons (o := ⟨some 55, _, _, _, _, _⟩) rfl (fun K' hK' => ?_) AllReadyH.nil
            go_simp
            go_at_call 81
            refine (trCan_any q f k A1 A2 st.length c1 sf.length c2 y x _ hyb.2 q60 hxb.1 hx8).mono ?_
            rintro e w7 ⟨rfl, hx7⟩
            rw [HCN.out]
            replace hx7 : Below wr.heap.size wr w7 := hx5.trans (hx7.mono hx5.size)
            refine hK'.out _ _ ⟨(hx7.block _ (heap_lt kb)).trans kb, (bcell hx7 hb2).trans d0, (bcell hx7 hb2).trans d1, (bcell hx7 hb2).trans d2, (bcell hx7 hg8).trans hc8, (bcell hx7 hBkl).trans d8⟩ (fun _ => ?_)
            clear hK' K'
            try simp only [Act.put, List.setIfInBounds_toArray, List.set_cons_zero, List.set_cons_succ]
            refine wpAnyH_take (i := 34) (oi := ⟨some 56, _, _, _, _, _⟩) (v := ?vpc31) rfl (by kernel_rfl) (by kernel_rfl) (by kernel_rfl) (fun _ _ _ h => h) (Or.inl ⟨by rfl, ?hpc31⟩) ⟨(hx7.block _ (heap_lt kb)).trans kb, (bcell hx7 hb2).trans d0, (bcell hx7 hb2).trans d1, (bcell hx7 hb2).trans d2, (bcell hx7 hg8).trans hc8, (bcell hx7 hBkl).trans d8⟩ ?rpc31
            case hpc31 => (intro w' hSw; (try dsimp only at hSw); go_simp; (try with_reducible rfl))
            try simp only [Act.put, List.setIfInBounds_toArray, List.set_cons_zero, List.set_cons_succ]
            refine wpAnyH_take (i := 35) (oi := ⟨some 57, _, _, _, _, _⟩) (v := ?vpc32) rfl (by kernel_rfl) (by kernel_rfl) (by kernel_rfl) (fun _ _ _ h => h) (Or.inl ⟨by rfl, ?hpc32⟩) ⟨(hx7.block _ (heap_lt kb)).trans kb, (bcell hx7 hb2).trans d0, (bcell hx7 hb2).trans d1, (bcell hx7 hb2).trans d2, (bcell hx7 hg8).trans hc8, (bcell hx7 hBkl).trans d8⟩ ?rpc32
            case hpc32 => (intro w' hSw; (try dsimp only at hSw); go_simp; (try with_reducible rfl))
            try simp only [Act.put, List.setIfInBounds_toArray, List.set_cons_zero, List.set_cons_succ]
            refine wpAnyH_done (by kernel_rfl) ?_ _
            have kb7 := (hx7.block _ (heap_lt kb)).trans kb
            have qq := fun i => cell_of_row w7 w.heap.size i _ _ _ kb7
            have d07 := (bcell hx7 hb2).trans d0
            have d17 := (bcell hx7 hb2).trans d1
            have d27 := (bcell hx7 hb2).trans d2
            have hG7 := hG.below hx7
            have hB7 := box_on hB hx7 hsz
            have hbw7 : Below w.heap.size w w7 := (below1 _ _).trans (hB7.mono (by omega))
            have hsz7 := Nat.le_trans hsz hx7.size
            clear hc8 d8 kb kb7 hx5 hx7 hB hG hbw hsz d0 d1 d2 hc0
            obtain ⟨z, hz⟩ : ∃ z : Int, z = ((goL q k st sf (plF q f k st sf M j) P T x).length : Int) := ⟨_, rfl⟩
            obtain ⟨FF, hFF⟩ : ∃ FF, FF = goF q k st sf (plF q f k st sf M j) P T x := ⟨_, rfl⟩
            have HZ := Lib.hid hz; have HFF := Lib.hid hFF
            have hz16 : 0 ≤ z ∧ z ≤ 16 := by
              have := goL_len (q := q) (sf := sf) (F := plF q f k st sf M j) (p := P) (t := T) (face := x) HTR.out.n4 HTR.out.k4
              omega
            have ha3 : 0 ≤ a ∧ a ≤ 3200 := by
              have := plS_le (M := M) HTR.out j
              have := HA.out
              omega
            clear hz hFF
            have kb7 : w7.heap[w.heap.size]? = some (.cells #[.int .i64 q, .int .i64 f, .int .i64 k, .slice A1 st.length c1, .slice A2 sf.length c2] 29 (0, 0)) := (hB7.block w.heap.size (by omega)).trans (heap_alloc_at w _ _ rfl)
            go_wp2_with fail
            clear qq
            refine wp_region_held_drew (S := (fun w' => w'.heap[w.heap.size]? = some (.cells #[.int .i64 q, .int .i64 f, .int .i64 k, .slice A1 st.length c1, .slice A2 sf.length c2] 29 (0, 0)) ∧ w'.cell? ⟨b2, off2, none⟩ = some (.int .i64 (P : Int)) ∧ w'.cell? ⟨b2, off2 + 1, none⟩ = some (.int .i64 (T : Int)) ∧ w'.cell? ⟨b2, off2 + 2, none⟩ = some (.int .i64 x))) (by kernel_rfl) ⟨kb7, d07, d17, d27⟩ (fun hS => ?_)
            refine wpAnyH_take (i := 0) (oi := ⟨some 60, _, _, _, _, _⟩) rfl (by kernel_rfl) (by kernel_rfl) (by kernel_rfl) (fun _ _ _ h => h) (yields_load_row rfl 29 (.tmp 2) rfl w.heap.size rfl _ _ _ _ (fun _ h => h.1) Try.underlying29 rfl sizeTrkP) hS ?_
            try simp only [Act.put, List.setIfInBounds_toArray, List.set_cons_zero, List.set_cons_succ]
            refine wpAnyH_take (i := 1) (oi := ⟨some 61, _, _, _, _, _⟩) (v := ?vpe1) rfl (by kernel_rfl) (by kernel_rfl) (by kernel_rfl) (fun _ _ _ h => h) (Or.inl ⟨by rfl, ?hpe1⟩) hS ?rpe1
            case hpe1 => (intro w' hSw; (try dsimp only at hSw); go_simp; (try with_reducible rfl))
            try simp only [Act.put, List.setIfInBounds_toArray, List.set_cons_zero, List.set_cons_succ]
            refine wpAnyH_take (i := 2) (oi := ⟨some 62, _, _, _, _, _⟩) (v := ?vpe2) rfl (by kernel_rfl) (by kernel_rfl) (by kernel_rfl) (fun _ _ _ h => h) (Or.inl ⟨by rfl, ?hpe2⟩) hS ?rpe2
            case hpe2 => (intro w' hSw; (try dsimp only at hSw); go_simp; (try with_reducible rfl))
            try simp only [Act.put, List.setIfInBounds_toArray, List.set_cons_zero, List.set_cons_succ]
            refine wpAnyH_take (i := 3) (oi := ⟨some 63, _, _, _, _, _⟩) (v := ?vpe3) rfl (by kernel_rfl) (by kernel_rfl) (by kernel_rfl) (fun _ _ _ h => h) (Or.inl ⟨by rfl, ?hpe3⟩) hS ?rpe3
            case hpe3 => (intro w' hSw; (try dsimp only at hSw); go_simp; (try with_reducible rfl))
            try simp only [Act.put, List.setIfInBounds_toArray, List.set_cons_zero, List.set_cons_succ]
            refine wpAnyH_take (i := 4) (oi := ⟨some 64, _, _, _, _, _⟩) (v := ?vpe4) rfl (by kernel_rfl) (by kernel_rfl) (by kernel_rfl) (fun _ _ _ h => h) (Or.inl ⟨by rfl, ?hpe4⟩) hS ?rpe4
            case hpe4 => (intro w' hSw; (try dsimp only at hSw); go_simp; (try with_reducible rfl))
            try simp only [Act.put, List.setIfInBounds_toArray, List.set_cons_zero, List.set_cons_succ]
            refine wpAnyH_take (i := 5) (oi := ⟨some 65, _, _, _, _, _⟩) (v := ?vpe5) rfl (by kernel_rfl) (by kernel_rfl) (by kernel_rfl) (fun _ _ _ h => h) (Or.inl ⟨by rfl, ?hpe5⟩) hS ?rpe5
            case hpe5 => (intro w' hSw; (try dsimp only at hSw); go_simp; (try with_reducible rfl))
            try simp only [Act.put, List.setIfInBounds_toArray, List.set_cons_zero, List.set_cons_succ]
            refine wpAnyH_take (i := 6) (oi := ⟨some 66, _, _, _, _, _⟩) (v := ?vpe6) rfl (by kernel_rfl) (by kernel_rfl) (by kernel_rfl) (fun _ _ _ h => h) (Or.inl ⟨by rfl, ?hpe6⟩) hS ?rpe6
            case hpe6 => (intro w' hSw; (try dsimp only at hSw); go_simp; (try with_reducible rfl))
            try simp only [Act.put, List.setIfInBounds_toArray, List.set_cons_zero, List.set_cons_succ]
            refine wpAnyH_take (i := 7) (oi := ⟨some 67, _, _, _, _, _⟩) (v := ?vpe7) rfl (by kernel_rfl) (by kernel_rfl) (by kernel_rfl) (fun _ _ _ h => h) (Or.inl ⟨by rfl, ?hpe7⟩) hS ?rpe7
            case hpe7 => (intro w' hSw; (try dsimp only at hSw); go_simp; (try with_reducible rfl))
            try simp only [Act.put, List.setIfInBounds_toArray, List.set_cons_zero, List.set_cons_succ]
            refine wpAnyH_take (i := 8) (oi := ⟨some 68, _, _, _, _, _⟩) (v := ?vpe8) rfl (by kernel_rfl) (by kernel_rfl) (by kernel_rfl) (fun _ _ _ h => h) (Or.inl ⟨by rfl, ?hpe8⟩) hS ?rpe8
            case hpe8 => (intro w' hSw; (try dsimp only at hSw); go_simp; (try with_reducible rfl))
            try simp only [Act.put, List.setIfInBounds_toArray, List.set_cons_zero, List.set_cons_succ]
            refine wpAnyH_take (i := 9) (oi := ⟨some 69, _, _, _, _, _⟩) (v := ?vpe9) rfl (by kernel_rfl) (by kernel_rfl) (by kernel_rfl) (fun _ _ _ h => h) (Or.inl ⟨by rfl, ?hpe9⟩) hS ?rpe9
            case hpe9 => (intro w' hSw; (try dsimp only at hSw); go_simp; (try with_reducible rfl))
            try simp only [Act.put, List.setIfInBounds_toArray, List.set_cons_zero, List.set_cons_succ]
            refine wpAnyH_take (i := 10) (oi := ⟨some 70, _, _, _, _, _⟩) (v := ?vpe10) rfl (by kernel_rfl) (by kernel_rfl) (by kernel_rfl) (fun _ _ _ h => h) (Or.inl ⟨by rfl, ?hpe10⟩) hS ?rpe10
            case hpe10 => (intro w' hSw; (try dsimp only at hSw); go_simp; (try with_reducible rfl))
            try simp only [Act.put, List.setIfInBounds_toArray, List.set_cons_zero, List.set_cons_succ]
            refine wpAnyH_ready (rs := [11]) (by kernel_rfl) (by simp) ?_
            refine AllReadyH.cons (o := ⟨some 71, _, _, _, _, _⟩) rfl (fun K' hK' => ?_) AllReadyH.nil
            go_simp
            go_at_call 82
            have hB8 := hB7.drew
            have hbw8 := hbw7.drew
            have hG8 : Grid w7.drew (w.heap.size + 1) 22 3 (.slice (some ⟨g8, 0, none⟩) st.length cv) st.length (fun _ => k.toNat) (plF q f k st sf M j) Bk C := hG7
            have hsz8 : w.heap.size + 1 ≤ w7.drew.heap.size := hsz7
            refine (trGoF_any q f k A1 A2 _ c1 c2 cv (w.heap.size + 1) st sf (plF q f k st sf M j) Bk C P T x w7.drew (h1.go hbw8) (h2.go hbw8) hG8 hc HTR.out HBD.out HOUT.out hPn hTk hxb.1 hx8 (by rw [← HY.out]; exact HCN.out) z HZ.out FF HFF.out).mono ?_
            rintro e w9 ⟨A9, c9, Bk9, C9, rfl, hG9, hx9⟩
            have hb7 : b2 < w7.heap.size := cell_lt d07
            replace hx9 : Below w7.heap.size w7 w9 := (Below.refl _ w7).drew.trans (hx9.mono (Nat.le_refl _))
            refine hK'.out _ _ ⟨(hx9.block _ (heap_lt kb7)).trans kb7, (bcell hx9 hb7).trans d07, (bcell hx9 hb7).trans d17, (bcell hx9 hb7).trans d27⟩ (fun _ => ?_)
            clear hK' K'
            try simp only [Act.put, List.setIfInBounds_toArray, List.set_cons_zero, List.set_cons_succ]
            refine wpAnyH_take (i := 12) (oi := ⟨some 59, _, _, _, _, _⟩) (v := ?vpe11) rfl (by kernel_rfl) (by kernel_rfl) (by kernel_rfl) (fun _ _ _ h => h) (Or.inl ⟨by rfl, ?hpe11⟩) ⟨(hx9.block _ (heap_lt kb7)).trans kb7, (bcell hx9 hb7).trans d07, (bcell hx9 hb7).trans d17, (bcell hx9 hb7).trans d27⟩ ?rpe11
            case hpe11 => (intro w' hSw; (try dsimp only at hSw); go_simp; (try with_reducible rfl))
            try simp only [Act.put, List.setIfInBounds_toArray, List.set_cons_zero, List.set_cons_succ]
            refine wpAnyH_take (i := 13) (oi := ⟨some 72, _, _, _, _, _⟩) (v := ?vpe12) rfl (by kernel_rfl) (by kernel_rfl) (by kernel_rfl) (fun _ _ _ h => h) (Or.inl ⟨by rfl, ?hpe12⟩) ⟨(hx9.block _ (heap_lt kb7)).trans kb7, (bcell hx9 hb7).trans d07, (bcell hx9 hb7).trans d17, (bcell hx9 hb7).trans d27⟩ ?rpe12
            case hpe12 => (intro w' hSw; (try dsimp only at hSw); go_simp; (try with_reducible rfl))
            try simp only [Act.put, List.setIfInBounds_toArray, List.set_cons_zero, List.set_cons_succ]
            refine wpAnyH_take (i := 14) (oi := ⟨some 73, _, _, _, _, _⟩) (v := ?vpe13) rfl (by kernel_rfl) (by kernel_rfl) (by kernel_rfl) (fun _ _ _ h => h) (Or.inl ⟨by rfl, ?hpe13⟩) ⟨(hx9.block _ (heap_lt kb7)).trans kb7, (bcell hx9 hb7).trans d07, (bcell hx9 hb7).trans d17, (bcell hx9 hb7).trans d27⟩ ?rpe13
            case hpe13 => (intro w' hSw; (try dsimp only at hSw); go_simp; (try with_reducible rfl))
            try simp only [Act.put, List.setIfInBounds_toArray, List.set_cons_zero, List.set_cons_succ]
            refine wpAnyH_ready (rs := [15]) (by kernel_rfl) (by simp) ?_
            refine AllReadyH.cons (o := ⟨some 11, _, _, _, _, _⟩) rfl (fun K' hK' => ?_) AllReadyH.nil
            go_simp
            refine hK'.out _ _ ⟨(hx9.block _ (heap_lt kb7)).trans kb7, (bcell hx9 hb7).trans d07, (bcell hx9 hb7).trans d17, (bcell hx9 hb7).trans d27⟩ (fun _ => ?_)
            clear hK' K'
            try simp only [Act.put, List.setIfInBounds_toArray, List.set_cons_zero, List.set_cons_succ]
            refine wpAnyH_ready (rs := [16]) (by kernel_rfl) (by simp) ?_
            refine AllReadyH.cons (o := ⟨some 12, _, _, _, _, _⟩) rfl (fun K' hK' => ?_) AllReadyH.nil
            go_simp
            refine hK'.out _ _ ⟨(hx9.block _ (heap_lt kb7)).trans kb7, (bcell hx9 hb7).trans d07, (bcell hx9 hb7).trans d17, (bcell hx9 hb7).trans d27⟩ (fun _ => ?_)
            clear hK' K'
            try simp only [Act.put, List.setIfInBounds_toArray, List.set_cons_zero, List.set_cons_succ]
            refine wpAnyH_done (by kernel_rfl) ?_ _
            all_goals go_wp2_with fail
            all_goals go_roundw
            case rel =>
              refine ⟨j + 1, a + z, A9, c9, Bk9, C9, by omega, by go_num, rfl, rfl, Lib.hid ?_, box_on hB7 hx9 hsz7, ?_⟩
              · rw [HA.out, HZ.out, plS, HX.out]
                show _ = ((plS q f k st sf M j + (goL q k st sf (plF q f k st sf M j) (P : Int).toNat (T : Int).toNat x).length : Nat) : Int)
                rw [Int.toNat_natCast, Int.toNat_natCast]
                omega
              · have e : plF q f k st sf M (j + 1) = FF := by
                  rw [plF, HX.out, HFF.out]
                  show goF q k st sf (plF q f k st sf M j) (P : Int).toNat (T : Int).toNat x = _
                  rw [Int.toNat_natCast, Int.toNat_natCast]
                rw [e]
                exact hG9.mono hsz7
            case measure => simp [intOf]; omega
      · have hq : ((xs.length : Int) != 3) = true := bne_iff_ne.2 (by omega)
        have hjJ2 : j = J := by
          rcases Nat.lt_or_ge j J with h | h
          · have := HJ.out.ok j h
            rw [plOk, HX.out, mOk, isMv, Bool.and_eq_true, Bool.and_eq_true, decide_eq_true_eq] at this
            exact absurd this.1.1 h3l
          · omega
        obtain ⟨m, hm⟩ : ∃ m, m = xs.length := ⟨_, rfl⟩
        rw [← hm] at hc0 hq
        have HJJ := Lib.hid hjJ2
        clear hrow h3l hm hjJ2
        go_wp2_with fail
        refine wp_region_held_drew (S := (fun _ => True)) (by kernel_rfl) trivial (fun hS => ?_)
        refine wpAnyH_take (i := 0) (oi := ⟨some 22, _, _, _, _, _⟩) (v := ?vpd1) rfl (by kernel_rfl) (by kernel_rfl) (by kernel_rfl) (fun _ _ _ h => h) (Or.inl ⟨by rfl, ?hpd1⟩) hS ?rpd1
        case hpd1 => (intro w' hSw; (try dsimp only at hSw); go_simp; (try with_reducible rfl))
        try simp only [Act.put, List.setIfInBounds_toArray, List.set_cons_zero, List.set_cons_succ]
        refine wpAnyH_take (i := 1) (oi := ⟨some 23, _, _, _, _, _⟩) (v := ?vpd2) rfl (by kernel_rfl) (by kernel_rfl) (by kernel_rfl) (fun _ _ _ h => h) (Or.inl ⟨by rfl, ?hpd2⟩) hS ?rpd2
        case hpd2 => (intro w' hSw; (try dsimp only at hSw); go_simp; (try with_reducible rfl))
        try simp only [Act.put, List.setIfInBounds_toArray, List.set_cons_zero, List.set_cons_succ]
        refine wpAnyH_take (i := 2) (oi := ⟨some 24, _, _, _, _, _⟩) (v := ?vpd3) rfl (by kernel_rfl) (by kernel_rfl) (by kernel_rfl) (fun _ _ _ h => h) (Or.inl ⟨by rfl, ?hpd3⟩) hS ?rpd3
        case hpd3 => (intro w' hSw; (try dsimp only at hSw); go_simp; (try with_reducible rfl))
        try simp only [Act.put, List.setIfInBounds_toArray, List.set_cons_zero, List.set_cons_succ]
        refine wpAnyH_take (i := 3) (oi := ⟨some 25, _, _, _, _, _⟩) (v := ?vpd4) rfl (by kernel_rfl) (by kernel_rfl) (by kernel_rfl) (fun _ _ _ h => h) (Or.inl ⟨by rfl, ?hpd4⟩) hS ?rpd4
        case hpd4 => (intro w' hSw; (try dsimp only at hSw); go_simp; (try with_reducible rfl))
        try simp only [Act.put, List.setIfInBounds_toArray, List.set_cons_zero, List.set_cons_succ]
        refine wpAnyH_take (i := 4) (oi := ⟨some 26, _, _, _, _, _⟩) (v := undef) rfl (by kernel_rfl) (by kernel_rfl) (by kernel_rfl) (fun _ _ _ h => h) (Or.inr ⟨by rfl, rfl⟩) hS ?rpd5
        try simp only [Act.put, List.setIfInBounds_toArray, List.set_cons_zero, List.set_cons_succ]
        refine wpAnyH_take (i := 5) (oi := ⟨some 27, _, _, _, _, _⟩) (v := undef) rfl (by kernel_rfl) (by kernel_rfl) (by kernel_rfl) (fun _ _ _ h => h) (Or.inr ⟨by rfl, rfl⟩) hS ?rpd6
        try simp only [Act.put, List.setIfInBounds_toArray, List.set_cons_zero, List.set_cons_succ]
        refine wpAnyH_take (i := 6) (oi := ⟨some 28, _, _, _, _, _⟩) (v := undef) rfl (by kernel_rfl) (by kernel_rfl) (by kernel_rfl) (fun _ _ _ h => h) (Or.inr ⟨by rfl, rfl⟩) hS ?rpd7
        try simp only [Act.put, List.setIfInBounds_toArray, List.set_cons_zero, List.set_cons_succ]
        refine wpAnyH_take (i := 7) (oi := ⟨some 29, _, _, _, _, _⟩) (v := undef) rfl (by kernel_rfl) (by kernel_rfl) (by kernel_rfl) (fun _ _ _ h => h) (Or.inr ⟨by rfl, rfl⟩) hS ?rpd8
        try simp only [Act.put, List.setIfInBounds_toArray, List.set_cons_zero, List.set_cons_succ]
        refine wpAnyH_take (i := 8) (oi := ⟨some 30, _, _, _, _, _⟩) (v := undef) rfl (by kernel_rfl) (by kernel_rfl) (by kernel_rfl) (fun _ _ _ h => h) (Or.inr ⟨by rfl, rfl⟩) hS ?rpd9
        try simp only [Act.put, List.setIfInBounds_toArray, List.set_cons_zero, List.set_cons_succ]
        refine wpAnyH_take (i := 9) (oi := ⟨some 31, _, _, _, _, _⟩) (v := undef) rfl (by kernel_rfl) (by kernel_rfl) (by kernel_rfl) (fun _ _ _ h => h) (Or.inr ⟨by rfl, rfl⟩) hS ?rpd10
        try simp only [Act.put, List.setIfInBounds_toArray, List.set_cons_zero, List.set_cons_succ]
        refine wpAnyH_take (i := 10) (oi := ⟨some 32, _, _, _, _, _⟩) (v := undef) rfl (by kernel_rfl) (by kernel_rfl) (by kernel_rfl) (fun _ _ _ h => h) (Or.inr ⟨by rfl, rfl⟩) hS ?rpd11
        try simp only [Act.put, List.setIfInBounds_toArray, List.set_cons_zero, List.set_cons_succ]
        refine wpAnyH_take (i := 11) (oi := ⟨some 33, _, _, _, _, _⟩) (v := undef) rfl (by kernel_rfl) (by kernel_rfl) (by kernel_rfl) (fun _ _ _ h => h) (Or.inr ⟨by rfl, rfl⟩) hS ?rpd12
        try simp only [Act.put, List.setIfInBounds_toArray, List.set_cons_zero, List.set_cons_succ]
        refine wpAnyH_take (i := 12) (oi := ⟨some 34, _, _, _, _, _⟩) (v := undef) rfl (by kernel_rfl) (by kernel_rfl) (by kernel_rfl) (fun _ _ _ h => h) (Or.inr ⟨by rfl, rfl⟩) hS ?rpd13
        try simp only [Act.put, List.setIfInBounds_toArray, List.set_cons_zero, List.set_cons_succ]
        refine wpAnyH_take (i := 13) (oi := ⟨some 35, _, _, _, _, _⟩) (v := undef) rfl (by kernel_rfl) (by kernel_rfl) (by kernel_rfl) (fun _ _ _ h => h) (Or.inr ⟨by rfl, rfl⟩) hS ?rpd14
        try simp only [Act.put, List.setIfInBounds_toArray, List.set_cons_zero, List.set_cons_succ]
        refine wpAnyH_take (i := 14) (oi := ⟨some 36, _, _, _, _, _⟩) (v := undef) rfl (by kernel_rfl) (by kernel_rfl) (by kernel_rfl) (fun _ _ _ h => h) (Or.inr ⟨by rfl, rfl⟩) hS ?rpd15
        try simp only [Act.put, List.setIfInBounds_toArray, List.set_cons_zero, List.set_cons_succ]
        refine wpAnyH_take (i := 15) (oi := ⟨some 37, _, _, _, _, _⟩) (v := undef) rfl (by kernel_rfl) (by kernel_rfl) (by kernel_rfl) (fun _ _ _ h => h) (Or.inr ⟨by rfl, rfl⟩) hS ?rpd16
        try simp only [Act.put, List.setIfInBounds_toArray, List.set_cons_zero, List.set_cons_succ]
        refine wpAnyH_take (i := 16) (oi := ⟨some 38, _, _, _, _, _⟩) (v := ?vpd17) rfl (by kernel_rfl) (by kernel_rfl) (by kernel_rfl) (fun _ _ _ h => h) (Or.inl ⟨by rfl, ?hpd17⟩) hS ?rpd17
        case hpd17 => (intro w' hSw; (try dsimp only at hSw); go_simp; (try with_reducible rfl))
        try simp only [Act.put, List.setIfInBounds_toArray, List.set_cons_zero, List.set_cons_succ]
        refine wpAnyH_take (i := 17) (oi := ⟨some 39, _, _, _, _, _⟩) (v := ?vpd18) rfl (by kernel_rfl) (by kernel_rfl) (by kernel_rfl) (fun _ _ _ h => h) (Or.inl ⟨by rfl, ?hpd18⟩) hS ?rpd18
        case hpd18 => (intro w' hSw; (try dsimp only at hSw); go_simp; (try with_reducible rfl))
        try simp only [Act.put, List.setIfInBounds_toArray, List.set_cons_zero, List.set_cons_succ]
        refine wpAnyH_take (i := 18) (oi := ⟨some 40, _, _, _, _, _⟩) (v := undef) rfl (by kernel_rfl) (by kernel_rfl) (by kernel_rfl) (fun _ _ _ h => h) (Or.inr ⟨by rfl, rfl⟩) hS ?rpd19
        try simp only [Act.put, List.setIfInBounds_toArray, List.set_cons_zero, List.set_cons_succ]
        refine wpAnyH_take (i := 19) (oi := ⟨some 41, _, _, _, _, _⟩) (v := undef) rfl (by kernel_rfl) (by kernel_rfl) (by kernel_rfl) (fun _ _ _ h => h) (Or.inr ⟨by rfl, rfl⟩) hS ?rpd20
        try simp only [Act.put, List.setIfInBounds_toArray, List.set_cons_zero, List.set_cons_succ]
        refine wpAnyH_take (i := 20) (oi := ⟨some 42, _, _, _, _, _⟩) (v := undef) rfl (by kernel_rfl) (by kernel_rfl) (by kernel_rfl) (fun _ _ _ h => h) (Or.inr ⟨by rfl, rfl⟩) hS ?rpd21
        try simp only [Act.put, List.setIfInBounds_toArray, List.set_cons_zero, List.set_cons_succ]
        refine wpAnyH_take (i := 21) (oi := ⟨some 43, _, _, _, _, _⟩) (v := undef) rfl (by kernel_rfl) (by kernel_rfl) (by kernel_rfl) (fun _ _ _ h => h) (Or.inr ⟨by rfl, rfl⟩) hS ?rpd22
        try simp only [Act.put, List.setIfInBounds_toArray, List.set_cons_zero, List.set_cons_succ]
        refine wpAnyH_take (i := 22) (oi := ⟨some 44, _, _, _, _, _⟩) (v := undef) rfl (by kernel_rfl) (by kernel_rfl) (by kernel_rfl) (fun _ _ _ h => h) (Or.inr ⟨by rfl, rfl⟩) hS ?rpd23
        try simp only [Act.put, List.setIfInBounds_toArray, List.set_cons_zero, List.set_cons_succ]
        refine wpAnyH_take (i := 23) (oi := ⟨some 45, _, _, _, _, _⟩) (v := undef) rfl (by kernel_rfl) (by kernel_rfl) (by kernel_rfl) (fun _ _ _ h => h) (Or.inr ⟨by rfl, rfl⟩) hS ?rpd24
        try simp only [Act.put, List.setIfInBounds_toArray, List.set_cons_zero, List.set_cons_succ]
        refine wpAnyH_take (i := 24) (oi := ⟨some 46, _, _, _, _, _⟩) (v := undef) rfl (by kernel_rfl) (by kernel_rfl) (by kernel_rfl) (fun _ _ _ h => h) (Or.inr ⟨by rfl, rfl⟩) hS ?rpd25
        try simp only [Act.put, List.setIfInBounds_toArray, List.set_cons_zero, List.set_cons_succ]
        refine wpAnyH_take (i := 25) (oi := ⟨some 47, _, _, _, _, _⟩) (v := undef) rfl (by kernel_rfl) (by kernel_rfl) (by kernel_rfl) (fun _ _ _ h => h) (Or.inr ⟨by rfl, rfl⟩) hS ?rpd26
        try simp only [Act.put, List.setIfInBounds_toArray, List.set_cons_zero, List.set_cons_succ]
        refine wpAnyH_take (i := 26) (oi := ⟨some 48, _, _, _, _, _⟩) (v := undef) rfl (by kernel_rfl) (by kernel_rfl) (by kernel_rfl) (fun _ _ _ h => h) (Or.inr ⟨by rfl, rfl⟩) hS ?rpd27
        try simp only [Act.put, List.setIfInBounds_toArray, List.set_cons_zero, List.set_cons_succ]
        refine wpAnyH_take (i := 27) (oi := ⟨some 49, _, _, _, _, _⟩) (v := undef) rfl (by kernel_rfl) (by kernel_rfl) (by kernel_rfl) (fun _ _ _ h => h) (Or.inr ⟨by rfl, rfl⟩) hS ?rpd28
        try simp only [Act.put, List.setIfInBounds_toArray, List.set_cons_zero, List.set_cons_succ]
        refine wpAnyH_take (i := 28) (oi := ⟨some 50, _, _, _, _, _⟩) (v := undef) rfl (by kernel_rfl) (by kernel_rfl) (by kernel_rfl) (fun _ _ _ h => h) (Or.inr ⟨by rfl, rfl⟩) hS ?rpd29
        try simp only [Act.put, List.setIfInBounds_toArray, List.set_cons_zero, List.set_cons_succ]
        refine wpAnyH_take (i := 29) (oi := ⟨some 51, _, _, _, _, _⟩) (v := undef) rfl (by kernel_rfl) (by kernel_rfl) (by kernel_rfl) (fun _ _ _ h => h) (Or.inr ⟨by rfl, rfl⟩) hS ?rpd30
        try simp only [Act.put, List.setIfInBounds_toArray, List.set_cons_zero, List.set_cons_succ]
        refine wpAnyH_take (i := 30) (oi := ⟨some 52, _, _, _, _, _⟩) (v := undef) rfl (by kernel_rfl) (by kernel_rfl) (by kernel_rfl) (fun _ _ _ h => h) (Or.inr ⟨by rfl, rfl⟩) hS ?rpd31
        try simp only [Act.put, List.setIfInBounds_toArray, List.set_cons_zero, List.set_cons_succ]
        refine wpAnyH_take (i := 31) (oi := ⟨some 53, _, _, _, _, _⟩) (v := undef) rfl (by kernel_rfl) (by kernel_rfl) (by kernel_rfl) (fun _ _ _ h => h) (Or.inr ⟨by rfl, rfl⟩) hS ?rpd32
        try simp only [Act.put, List.setIfInBounds_toArray, List.set_cons_zero, List.set_cons_succ]
        refine wpAnyH_take (i := 32) (oi := ⟨some 54, _, _, _, _, _⟩) (v := undef) rfl (by kernel_rfl) (by kernel_rfl) (by kernel_rfl) (fun _ _ _ h => h) (Or.inr ⟨by rfl, rfl⟩) hS ?rpd33
        try simp only [Act.put, List.setIfInBounds_toArray, List.set_cons_zero, List.set_cons_succ]
        refine wpAnyH_take (i := 33) (oi := ⟨some 55, _, _, _, _, _⟩) (v := undef) rfl (by kernel_rfl) (by kernel_rfl) (by kernel_rfl) (fun _ _ _ h => h) (Or.inr ⟨by rfl, rfl⟩) hS ?rpd34
        try simp only [Act.put, List.setIfInBounds_toArray, List.set_cons_zero, List.set_cons_succ]
        refine wpAnyH_take (i := 34) (oi := ⟨some 56, _, _, _, _, _⟩) (v := undef) rfl (by kernel_rfl) (by kernel_rfl) (by kernel_rfl) (fun _ _ _ h => h) (Or.inr ⟨by rfl, rfl⟩) hS ?rpd35
        try simp only [Act.put, List.setIfInBounds_toArray, List.set_cons_zero, List.set_cons_succ]
        refine wpAnyH_take (i := 35) (oi := ⟨some 57, _, _, _, _, _⟩) (v := ?vpd36) rfl (by kernel_rfl) (by kernel_rfl) (by kernel_rfl) (fun _ _ _ h => h) (Or.inl ⟨by rfl, ?hpd36⟩) hS ?rpd36
        case hpd36 => (intro w' hSw; (try dsimp only at hSw); go_simp; (try with_reducible rfl))
        try simp only [Act.put, List.setIfInBounds_toArray, List.set_cons_zero, List.set_cons_succ]
        refine wpAnyH_done (by kernel_rfl) ?_ _
        go_wp2
        go_ret3
        exact ⟨hbw.drew, .inr ⟨by have := HJJ.out; omega, retP HJJ.out⟩⟩
    · obtain rfl : j = J := by omega
      obtain rfl : j = M.length := by omega
      go_wp2_with fail
      go_ret3
      exact ⟨hbw, .inl ⟨rfl, Av, cv, Bk, C, retP2 HA.out, hG.mono (by omega)⟩⟩
end Go.Proofs.Ytmhffdgfkgdmlaa

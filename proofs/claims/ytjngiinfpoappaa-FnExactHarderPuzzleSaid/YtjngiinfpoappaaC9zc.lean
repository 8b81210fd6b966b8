/-
  Puzzles: HarderPuzzle on both sides.
-/
import Derived.Test.YtjngiinfpoappaaC9h
import Derived.Test.YtjngiinfpoappaaC9u
namespace Go.Proofs.Ytjngiinfpoappaa
open Go.RowKit

def sliceLen : Value → Nat
  | .slice _ n _ => n
  | _ => 0
theorem dropQ_le (C : List Qd) (k : Nat) : (dropQ C k).length ≤ C.length := by simp [dropQ]; omega
theorem dropQ_mem {L : List Qd} {k : Nat} {P : Qd → Prop} (h : ∀ q ∈ L, P q) : ∀ q ∈ dropQ L k, P q := by
  intro q hq
  rcases List.mem_append.1 hq with hq | hq
  · exact h q (List.mem_of_mem_take hq)
  · exact h q (List.mem_of_mem_drop hq)
theorem hardF_len (s f : Int) (S : Nat) : ∀ (n : Nat) (C : List Qd) (k : Nat), (hardF s f S n C k).length ≤ C.length
  | 0, C, k => Nat.le_refl _
  | n + 1, C, k => by
    rw [hardF]
    split
    · exact Nat.le_trans (hardF_len s f S n _ k) (dropQ_le C k)
    · exact hardF_len s f S n C (k + 1)
noncomputable def hardR (q f : Int) (L : List Qd) : (Int × Int × List Qd) × Bool := if pzB q f L && (solN q f L == 1) then ((q, f, hardF q f q.toNat L.length L 0), true) else noPz
theorem hardR_len {q f : Int} {L : List Qd} (hl : L.length ≤ 1048576) : (hardR q f L).1.2.2.length ≤ 1048576 := by
  unfold hardR
  split
  · exact Nat.le_trans (hardF_len _ _ _ _ _ _) hl
  · simp [noPz]
theorem qback_own {w w' : World} {v : Value} {n : Nat} {E : List Qd} (h : w'.ownsRow w.heap.size 104 4 v n (flatQ E)) (hn : E.length = n) : ∃ A' c', v = .slice A' E.length c' ∧ OQ w' w.heap.size 104 A' E.length (fun i => E.getD i zeroQ) ∧ E.length ≤ c' := by
  obtain ⟨A, c, rfl, hc⟩ := own_sliceQ h
  obtain ⟨A2, c2, e, hO⟩ := own_oq h hn
  injection e with e1 _ _
  subst e1
  exact ⟨A, c, by rw [hn], hO, by omega⟩

set_option maxRecDepth 100000 in
set_option maxHeartbeats 1000000 in
theorem specHarder_bad (q f : Int) (A : Option Addr) (cp : Nat) (L : List Qd) (w : World) (hL : RQ w w.heap.size A L) (hg : pzB q f L = false) : Calls Try.prog 46 #[.agg #[.int .i64 q, .int .i64 f, .slice A L.length cp]] w (PzBack w.heap.size w noPz) := by
  have HG := Lib.hid hg
  clear hg
  have hl := hL.1
  go_enter Try.func46, Try.ntmps46
  go_wp2_with fail
  refine (pzGood_any q f A cp L _ (hL.go (below2 w _ _))).mono ?_
  rintro e w2 ⟨rfl, hx⟩
  simp only [World.size_alloc] at hx
  have k2 := (hx.block (w.heap.size + 1) (by omega)).trans (heap_alloc_at _ (.cells #[.int .i64 0, .int .i64 0, .slice none 0 0] 34) _ (by simp))
  have q2 := fun i => cell_of_row w2 (w.heap.size + 1) i _ _ _ k2
  have z2 := fun i => frozen_row (i := i) k2
  have hb2 : Below w.heap.size w w2 := (below2 w _ _).trans (hx.mono (by omega))
  rw [HG.out]
  go_wp2
  exact bodyPost_ret (v := .tuple #[.agg #[.int .i64 0, .int .i64 0, .slice none 0 0], .bool false]) (by simp [results, Try.results46, go_sem, q2]) rfl (noPz_back w _ (((hb2.setCell (by simp) _).setCell (by simp) _).setCell (by simp) _))

set_option maxRecDepth 100000 in
set_option maxHeartbeats 1000000 in
theorem specHarder_out (S : Nat) (f : Int) (A : Option Addr) (cp : Nat) (L : List Qd) (w : World) (hL : RQ w w.heap.size A L) (hg : pzB (S : Int) f L = true) (hs : ((keepL (oversL (S : Int) f S 3) L).length == 1) = false) : Calls Try.prog 46 #[.agg #[.int .i64 (S : Int), .int .i64 f, .slice A L.length cp]] w (PzBack w.heap.size w noPz) := by
  obtain ⟨S0, hS0, hS, hf, hq⟩ := pz_yes hg
  obtain rfl : S0 = S := by omega
  have HG := Lib.hid hg; have HS := Lib.hid hs; have HQ := Lib.hid hq
  clear hg hs hq hS0
  have hl := hL.1
  go_enter Try.func46, Try.ntmps46
  go_wp2_with fail
  refine (pzGood_any (S0 : Int) f A cp L _ (hL.go (below2 w _ _))).mono ?_
  rintro e w2 ⟨rfl, hx⟩
  simp only [World.size_alloc] at hx
  have k1 := (hx.block w.heap.size (by omega)).trans ((Below.heap_alloc _ _ _ (by simp)).trans (heap_alloc_at w (.cells #[.int .i64 (S0 : Int), .int .i64 f, .slice A L.length cp] 34) _ rfl))
  have k2 := (hx.block (w.heap.size + 1) (by omega)).trans (heap_alloc_at _ (.cells #[.int .i64 0, .int .i64 0, .slice none 0 0] 34) _ (by simp))
  have q1 := fun i => cell_of_row w2 w.heap.size i _ _ _ k1
  have hb2 : Below w.heap.size w w2 := (below2 w _ _).trans (hx.mono (by omega))
  rw [HG.out]
  go_wp2_with fail
  refine (pzSolved_any S0 f A A L.length cp cp L _ hS hf (hL.go hb2) HQ.out).mono ?_
  rintro e w3 ⟨rfl, hx3⟩
  rw [HS.out]
  have k23 := (hx3.block _ (heap_lt k2)).trans k2
  have q2 := fun i => cell_of_row w3 (w.heap.size + 1) i _ _ _ k23
  have z2 := fun i => frozen_row (i := i) k23
  have hb3 := hb2.trans (hx3.mono hb2.size)
  clear q1
  go_wp2
  exact bodyPost_ret (v := .tuple #[.agg #[.int .i64 0, .int .i64 0, .slice none 0 0], .bool false]) (by simp [results, Try.results46, go_sem, q2]) rfl (noPz_back w _ (((hb3.setCell (by simp) _).setCell (by simp) _).setCell (by simp) _))

set_option maxRecDepth 100000 in
set_option maxHeartbeats 2000000 in
theorem specHarder_yes (S : Nat) (f : Int) (A : Option Addr) (cp : Nat) (L R : List Qd) (w : World) (hL : RQ w w.heap.size A L) (hg : pzB (S : Int) f L = true) (hs : ((keepL (oversL (S : Int) f S 3) L).length == 1) = true) (hR : R = hardF (S : Int) f S L.length L 0) : Calls Try.prog 46 #[.agg #[.int .i64 (S : Int), .int .i64 f, .slice A L.length cp]] w (PzBack w.heap.size w (((S : Int), f, R), true)) := by
  have hl6 := (pzB_parts hg).2.2.1
  obtain ⟨S0, hS0, hSb, hf, hq⟩ := pz_yes hg
  obtain rfl : S0 = S := by omega
  obtain ⟨i0, hi, hz0, hz1, hz2⟩ := info_parts infoClueW
  have HG := Lib.hid hg; have HS := Lib.hid hs; have HQ := Lib.hid hq; have HR := Lib.hid hR
  clear hg hs hq hS0 hR
  have hl := hL.1
  go_enter Try.func46, Try.ntmps46
  go_wp2_with fail
  refine (pzGood_any (S0 : Int) f A cp L _ (hL.go (below2 w _ _))).mono ?_
  rintro e w2 ⟨rfl, hx⟩
  simp only [World.size_alloc] at hx
  have k1 := (hx.block w.heap.size (by omega)).trans ((Below.heap_alloc _ _ _ (by simp)).trans (heap_alloc_at w (.cells #[.int .i64 (S0 : Int), .int .i64 f, .slice A L.length cp] 34) _ rfl))
  have k2 := (hx.block (w.heap.size + 1) (by omega)).trans (heap_alloc_at _ (.cells #[.int .i64 0, .int .i64 0, .slice none 0 0] 34) _ (by simp))
  have q1 := fun i => cell_of_row w2 w.heap.size i _ _ _ k1
  have hb2 : Below w.heap.size w w2 := (below2 w _ _).trans (hx.mono (by omega))
  have hs2 : w.heap.size + 1 + 1 ≤ w2.heap.size := by have := hx.size; simpa using this
  rw [HG.out]
  go_wp2_with fail
  refine (pzSolved_any S0 f A A L.length cp cp L _ hSb hf (hL.go hb2) HQ.out).mono ?_
  rintro e w3 ⟨rfl, hx3⟩
  rw [HS.out]
  have k13 := (hx3.block _ (heap_lt k1)).trans k1
  have k23 := (hx3.block _ (heap_lt k2)).trans k2
  have q13 := fun i => cell_of_row w3 w.heap.size i _ _ _ k13
  have hb3 := hb2.trans (hx3.mono hb2.size)
  have hs3 : w.heap.size + 1 + 1 ≤ w3.heap.size := Nat.le_trans hs2 hx3.size
  have hs31 : w.heap.size < w3.heap.size := by omega
  have o5 := own_made4 (N := w3.heap.size) (w := w3) (Nat.le_refl _) 104 w3.heap.size rfl
  clear q1 k1 k2 hx hx3
  go_wp2_with (at_builtin; go_loud (refine wpList_appendQ rfl _ _ 32 rfl w3.heap.size 104 i0 (.agg #[.int .i64 0, .int .i64 0, .int .i64 0, .int .i64 0]) Try.underlying32 hi hz0 hz1 hz2 rfl _ 0 [] rfl o5 w.heap.size A L.length cp L rfl rfl (hL.below (hb3.alloc hb3.size _)) (by omega) (by simp) ?_; intro v7 w7 o7 g7))
  have hb7 : Below w3.heap.size w3 w7 := (below1 w3 _).grown g7 (by simp) (own_from o5)
  obtain ⟨A7, c7, rfl, hO7, hc7⟩ := qback_own (E := L) (w := w3) (by simpa using o7) rfl
  have HK1 := Lib.hid k13; have HK2 := Lib.hid k23
  clear o7 g7 o5 q13 k13 k23
  go_loopw [4, 5] (fun v i wr => ∃ (C : List Qd) (k : Nat) (A' : Option Addr) (c' : Nat), v = .slice A' C.length c' ∧ i = .int .i64 k ∧ k ≤ C.length ∧ C.length ≤ c' ∧ C.length ≤ 6 ∧ OQ wr w3.heap.size 104 A' C.length (fun i => C.getD i zeroQ) ∧ Below w3.heap.size w3 wr ∧ Hid ((∀ q ∈ C, clQ (S0 : Int) f q = true) ∧ hardF (S0 : Int) f S0 (C.length - k) C k = R)) (fun v i _ => sliceLen v - (intOf i).toNat)
  case atStart => exact ⟨L, 0, A7, c7, rfl, rfl, Nat.zero_le _, hc7, hl6, hO7, hb7, Lib.hid ⟨HQ.out, HR.out.symm⟩⟩
  case round =>
    clear hO7 hb7
    obtain ⟨C, k, A', c', rfl, rfl, hk, hcc, hC6, hO, hb, hH⟩ := hrel
    have hsr := hb.size
    have kp := (hb.block w.heap.size (by omega)).trans HK1.out
    have qp := fun i => cell_of_row wr w.heap.size i _ _ _ kp
    by_cases hlt : k < C.length
    · have h1 : (k : Int) < (C.length : Int) := by omega
      have hQ : RQ wr wr.heap.size A' C := hO.rq (by omega)
      obtain ⟨b, off, rfl, _, _⟩ := hQ.at_ (Below.refl _ _) hlt
      obtain ⟨m, hm⟩ : ∃ m, C.length - k = m + 1 := ⟨C.length - k - 1, by omega⟩
      have hst := hH.out.2
      rw [hm, hardF] at hst
      have hdl := dropQ_len hlt
      obtain ⟨sv, hsv⟩ : ∃ sv, sv = ((keepL (oversL (S0 : Int) f S0 3) (dropQ C k)).length == 1) := ⟨_, rfl⟩
      have HST := Lib.hid hst; have HSV := Lib.hid hsv; have HDL := Lib.hid hdl; have HM := Lib.hid hm
      clear hst hsv hdl hm
      go_wp2_with fail
      refine (pzWithout_any b off c' k C wr hQ hlt hcc).mono ?_
      rintro e w5 ⟨A5, c5, rfl, hO5, hx5, hc5⟩
      have hdl5 : (dropQ C k).length ≤ 6 := by have := HDL.out; omega
      have kp5 := (hx5.block _ (heap_lt kp)).trans kp
      have qp5 := fun i => cell_of_row w5 w.heap.size i _ _ _ kp5
      go_wp2_with fail
      refine (pzSolved_any S0 f A A5 L.length cp c5 (dropQ C k) w5 hSb hf (hO5.rq (by omega)) (dropQ_mem hH.out.1)).mono ?_
      rintro e w6 ⟨rfl, hx6⟩
      rw [← HSV.out]
      have hx56 : Below wr.heap.size wr w6 := hx5.trans (hx6.mono hx5.size)
      have hb6 := hb.trans (hx56.mono hsr)
      have hO6 := (hO5.below hx6 (Nat.le_refl _)).from_ hsr
      have hO' := hO.below hx56 (Nat.le_refl _)
      clear kp kp5 qp qp5 hO5 hx5 hx6 hO hQ
      cases sv
      · have hne : ¬ (keepL (oversL (S0 : Int) f S0 3) (dropQ C k)).length = 1 := by have := HSV.out; simpa using this.symm
        have hst := HST.out
        rw [if_neg hne] at hst
        have HST' := Lib.hid hst; have HNE := Lib.hid hne
        clear hst hne
        go_wp2
        go_roundw
        case rel => exact ⟨C, k + 1, _, c', rfl, by go_num, by omega, hcc, hC6, hO', hb6, Lib.hid ⟨hH.out.1, by rw [show C.length - (k + 1) = m from by have := HM.out; omega]; exact HST'.out⟩⟩
        case measure => simp [intOf, sliceLen]; omega
      · have hne : (keepL (oversL (S0 : Int) f S0 3) (dropQ C k)).length = 1 := by have := HSV.out; simpa using this.symm
        have hst := HST.out
        rw [if_pos hne] at hst
        have HST' := Lib.hid hst; have HNE := Lib.hid hne
        clear hst hne
        go_wp2
        go_roundw
        case rel => exact ⟨dropQ C k, k, A5, c5, rfl, rfl, by have := HDL.out; omega, hc5, hdl5, hO6, hb6, Lib.hid ⟨dropQ_mem hH.out.1, by rw [show (dropQ C k).length - k = m from by have := HM.out; have := HDL.out; omega]; exact HST'.out⟩⟩
        case measure => have := HDL.out; simp [intOf, sliceLen]; omega
    · obtain rfl : k = C.length := by omega
      have h1 : ¬ (C.length : Int) < (C.length : Int) := by omega
      have hCR : C = R := by have := hH.out.2; rwa [Nat.sub_self, hardF] at this
      subst hCR
      have hs2r : w.heap.size + 1 < wr.heap.size := by omega
      go_wp2_with fail
      refine (pzWith_any (S0 : Int) f A A' L.length cp C.length c' wr).mono ?_
      rintro e w9 ⟨rfl, hx9⟩
      have hO9 := hO.below hx9 (Nat.le_refl _)
      have hb9 := hb.trans (hx9.mono hsr)
      have k29 := (hb9.block (w.heap.size + 1) (by omega)).trans HK2.out
      have q29 := fun i => cell_of_row w9 (w.heap.size + 1) i _ _ _ k29
      have z29 := fun i => frozen_row (i := i) k29
      have hbw := hb3.trans (hb9.mono hb3.size)
      have HO9 := Lib.hid hO9
      clear hO hO9 qp kp
      go_wp2
      exact bodyPost_ret (v := .tuple #[.agg #[.int .i64 (S0 : Int), .int .i64 f, .slice A' C.length c'], .bool true]) (by simp [results, Try.results46, go_sem, q29]) rfl
        ⟨A', c', rfl, (((HO9.out.set (by dsimp only; omega) _).set (by dsimp only; omega) _).set (by dsimp only; omega) _).from_ hb3.size, ((hbw.setCell (by simp) _).setCell (by simp) _).setCell (by simp) _⟩

set_option maxRecDepth 100000 in
set_option maxHeartbeats 1000000 in
theorem implHarder_bad (q f : Int) (A : Option Addr) (cp : Nat) (L : List Qd) (w : World) (hL : RQ w w.heap.size A L) (hg : pzB q f L = false) : Calls Try.prog 47 #[.agg #[.int .i64 q, .int .i64 f, .slice A L.length cp]] w (PzBack w.heap.size w noPz) := by
  have HG := Lib.hid hg
  clear hg
  have hl := hL.1
  go_enter Try.func47, Try.ntmps47
  go_wp2_with fail
  refine (hiddenOf_no q f A cp L _ (hL.go (below2 w _ _)) HG.out).mono ?_
  rintro e w2 ⟨rfl, hx⟩
  simp only [World.size_alloc] at hx
  have k2 := (hx.block (w.heap.size + 1) (by omega)).trans (heap_alloc_at _ (.cells #[.int .i64 0, .int .i64 0, .slice none 0 0] 34) _ (by simp))
  have hb2 : Below w.heap.size w w2 := (below2 w _ _).trans (hx.mono (by omega))
  have hb2' := hb2.alloc hb2.size (.cells #[.int .i64 0, .int .i64 0] 79)
  have k2' := (Below.heap_alloc w2 (.cells #[.int .i64 0, .int .i64 0] 79) _ (heap_lt k2)).trans k2
  have q2 := fun i => cell_of_row _ (w.heap.size + 1) i _ _ _ k2'
  have z2 := fun i => frozen_row (i := i) k2'
  go_wp2
  exact bodyPost_ret (v := .tuple #[.agg #[.int .i64 0, .int .i64 0, .slice none 0 0], .bool false]) (by simp [results, Try.results47, go_sem, q2]) rfl (noPz_back w _ (((hb2'.setCell (by simp) _).setCell (by simp) _).setCell (by simp) _))

set_option maxRecDepth 100000 in
set_option maxHeartbeats 1000000 in
theorem implHarder_out (S : Nat) (f : Int) (A : Option Addr) (cp : Nat) (L : List Qd) (w : World) (hL : RQ w w.heap.size A L) (hg : pzB (S : Int) f L = true) (hs : ((keepL (oversL (S : Int) f S 3) L).length == 1) = false) : Calls Try.prog 47 #[.agg #[.int .i64 (S : Int), .int .i64 f, .slice A L.length cp]] w (PzBack w.heap.size w noPz) := by
  obtain ⟨S0, hS0, hSb, hf, hq⟩ := pz_yes hg
  obtain rfl : S0 = S := by omega
  have HG := Lib.hid hg; have HS := Lib.hid hs; have HQ := Lib.hid hq
  clear hg hs hq hS0
  have hl := hL.1
  go_enter Try.func47, Try.ntmps47
  go_wp2_with fail
  refine (hiddenOf_yes (S0 : Int) f A cp L _ (hL.go (below2 w _ _)) HG.out).mono ?_
  rintro e w2 ⟨rfl, hx⟩
  simp only [World.size_alloc] at hx
  have k1 := (hx.block w.heap.size (by omega)).trans ((Below.heap_alloc _ _ _ (by simp)).trans (heap_alloc_at w (.cells #[.int .i64 (S0 : Int), .int .i64 f, .slice A L.length cp] 34) _ rfl))
  have k2 := (hx.block (w.heap.size + 1) (by omega)).trans (heap_alloc_at _ (.cells #[.int .i64 0, .int .i64 0, .slice none 0 0] 34) _ (by simp))
  have hb2 : Below w.heap.size w w2 := (below2 w _ _).trans (hx.mono (by omega))
  have hs2 : w.heap.size < w2.heap.size := heap_lt k1
  have hb2' := hb2.alloc hb2.size (.cells #[.int .i64 (S0 : Int), .int .i64 f] 79)
  have q1 := fun i => cell_of_row w2 w.heap.size i _ _ _ k1
  have k2' := (Below.heap_alloc w2 (.cells #[.int .i64 (S0 : Int), .int .i64 f] 79) _ (heap_lt k2)).trans k2
  go_wp2_with fail
  refine (areSolved_any S0 f A cp L _ hSb hf (hL.go hb2') HQ.out).mono ?_
  rintro e w3 ⟨rfl, hx3⟩
  rw [HS.out]
  have k23 := (hx3.block _ (heap_lt k2')).trans k2'
  have q2 := fun i => cell_of_row w3 (w.heap.size + 1) i _ _ _ k23
  have z2 := fun i => frozen_row (i := i) k23
  have hb3 := hb2'.trans (hx3.mono hb2'.size)
  clear q1
  go_wp2
  exact bodyPost_ret (v := .tuple #[.agg #[.int .i64 0, .int .i64 0, .slice none 0 0], .bool false]) (by simp [results, Try.results47, go_sem, q2]) rfl (noPz_back w _ (((hb3.setCell (by simp) _).setCell (by simp) _).setCell (by simp) _))

set_option maxRecDepth 100000 in
set_option maxHeartbeats 2000000 in
theorem implHarder_yes (S : Nat) (f : Int) (A : Option Addr) (cp : Nat) (L R : List Qd) (w : World) (hL : RQ w w.heap.size A L) (hc : L.length ≤ cp) (hg : pzB (S : Int) f L = true) (hs : ((keepL (oversL (S : Int) f S 3) L).length == 1) = true) (hR : R = hardF (S : Int) f S L.length L 0) : Calls Try.prog 47 #[.agg #[.int .i64 (S : Int), .int .i64 f, .slice A L.length cp]] w (PzBack w.heap.size w (((S : Int), f, R), true)) := by
  have hl6 := (pzB_parts hg).2.2.1
  obtain ⟨S0, hS0, hSb, hf, hq⟩ := pz_yes hg
  obtain rfl : S0 = S := by omega
  have HG := Lib.hid hg; have HS := Lib.hid hs; have HQ := Lib.hid hq; have HR := Lib.hid hR
  clear hg hs hq hS0 hR
  have hl := hL.1
  go_enter Try.func47, Try.ntmps47
  go_wp2_with fail
  refine (hiddenOf_yes (S0 : Int) f A cp L _ (hL.go (below2 w _ _)) HG.out).mono ?_
  rintro e w2 ⟨rfl, hx⟩
  simp only [World.size_alloc] at hx
  have k1 := (hx.block w.heap.size (by omega)).trans ((Below.heap_alloc _ _ _ (by simp)).trans (heap_alloc_at w (.cells #[.int .i64 (S0 : Int), .int .i64 f, .slice A L.length cp] 34) _ rfl))
  have k2 := (hx.block (w.heap.size + 1) (by omega)).trans (heap_alloc_at _ (.cells #[.int .i64 0, .int .i64 0, .slice none 0 0] 34) _ (by simp))
  have hb2 : Below w.heap.size w w2 := (below2 w _ _).trans (hx.mono (by omega))
  have hs2 : w.heap.size < w2.heap.size := heap_lt k1
  have hs22 : w.heap.size + 1 < w2.heap.size := heap_lt k2
  have hb2' := hb2.alloc hb2.size (.cells #[.int .i64 (S0 : Int), .int .i64 f] 79)
  have q1 := fun i => cell_of_row w2 w.heap.size i _ _ _ k1
  have k1' := (Below.heap_alloc w2 (.cells #[.int .i64 (S0 : Int), .int .i64 f] 79) _ (heap_lt k1)).trans k1
  have k2' := (Below.heap_alloc w2 (.cells #[.int .i64 (S0 : Int), .int .i64 f] 79) _ (heap_lt k2)).trans k2
  have kh' := heap_alloc_at w2 (.cells #[.int .i64 (S0 : Int), .int .i64 f] 79) _ rfl
  go_wp2_with fail
  refine (areSolved_any S0 f A cp L _ hSb hf (hL.go hb2') HQ.out).mono ?_
  rintro e w3 ⟨rfl, hx3⟩
  rw [HS.out]
  have k13 := (hx3.block _ (heap_lt k1')).trans k1'
  have k23 := (hx3.block _ (heap_lt k2')).trans k2'
  have kh3 := (hx3.block _ (heap_lt kh')).trans kh'
  have q13 := fun i => cell_of_row w3 w.heap.size i _ _ _ k13
  have hb3 := hb2'.trans (hx3.mono hb2'.size)
  have hs3 : w2.heap.size + 1 ≤ w3.heap.size := by have := hx3.size; simpa using this
  clear q1 k1 k2 k1' k2' kh' hx hx3
  go_wp2
  have HK1 := Lib.hid k13; have HK2 := Lib.hid k23; have HKH := Lib.hid kh3
  clear q13 k13 k23 kh3
  go_loopw [6, 7] (fun v i wr => ∃ (C : List Qd) (k : Nat) (A' : Option Addr) (c' : Nat), v = .slice A' C.length c' ∧ i = .int .i64 k ∧ k ≤ C.length ∧ C.length ≤ c' ∧ C.length ≤ 6 ∧ RQ wr wr.heap.size A' C ∧ Below w3.heap.size w3 wr ∧ Hid ((∀ q ∈ C, clQ (S0 : Int) f q = true) ∧ hardF (S0 : Int) f S0 (C.length - k) C k = R)) (fun v i _ => sliceLen v - (intOf i).toNat)
  case atStart => exact ⟨L, 0, A, cp, rfl, rfl, Nat.zero_le _, hc, hl6, hL.go hb3, Below.refl _ _, Lib.hid ⟨HQ.out, HR.out.symm⟩⟩
  case round =>
    obtain ⟨C, k, A', c', rfl, rfl, hk, hcc, hC6, hQ, hb, hH⟩ := hrel
    have hsr := hb.size
    have kp := (hb.block w.heap.size (by omega)).trans HK1.out
    have kh := (hb.block w2.heap.size (by omega)).trans HKH.out
    have qp := fun i => cell_of_row wr w.heap.size i _ _ _ kp
    by_cases hlt : k < C.length
    · have h1 : (k : Int) < (C.length : Int) := by omega
      obtain ⟨b, off, rfl, _, _⟩ := hQ.at_ (Below.refl _ _) hlt
      obtain ⟨m, hm⟩ : ∃ m, C.length - k = m + 1 := ⟨C.length - k - 1, by omega⟩
      have hst := hH.out.2
      rw [hm, hardF] at hst
      have hdl := dropQ_len hlt
      obtain ⟨sv, hsv⟩ : ∃ sv, sv = ((keepL (oversL (S0 : Int) f S0 3) (dropQ C k)).length == 1) := ⟨_, rfl⟩
      have HST := Lib.hid hst; have HSV := Lib.hid hsv; have HDL := Lib.hid hdl; have HM := Lib.hid hm
      clear hst hsv hdl hm
      go_wp2_with fail
      refine (without_any b off c' k C wr hQ hlt hcc).mono ?_
      rintro e w5 ⟨A5, c5, rfl, hQ5, hx5, hc5⟩
      have hdl5 : (dropQ C k).length ≤ 6 := by have := HDL.out; omega
      have kh5 := (hx5.block _ (heap_lt kh)).trans kh
      have qh5 := fun i => cell_of_row w5 w2.heap.size i _ _ _ kh5
      clear qp
      go_wp2_with fail
      refine (areSolved_any S0 f A5 c5 (dropQ C k) w5 hSb hf hQ5 (dropQ_mem hH.out.1)).mono ?_
      rintro e w6 ⟨rfl, hx6⟩
      rw [← HSV.out]
      have hx56 : Below wr.heap.size wr w6 := hx5.trans (hx6.mono hx5.size)
      have hb6 := hb.trans (hx56.mono hsr)
      have hQ6 := hQ5.go hx6
      have hQ' := hQ.go hx56
      clear kp kh kh5 qh5 hQ5 hx5 hx6 hQ
      cases sv
      · have hne : ¬ (keepL (oversL (S0 : Int) f S0 3) (dropQ C k)).length = 1 := by have := HSV.out; simpa using this.symm
        have hst := HST.out
        rw [if_neg hne] at hst
        have HST' := Lib.hid hst; have HNE := Lib.hid hne
        clear hst hne
        go_wp2
        go_roundw
        case rel => exact ⟨C, k + 1, _, c', rfl, by go_num, by omega, hcc, hC6, hQ', hb6, Lib.hid ⟨hH.out.1, by rw [show C.length - (k + 1) = m from by have := HM.out; omega]; exact HST'.out⟩⟩
        case measure => simp [intOf, sliceLen]; omega
      · have hne : (keepL (oversL (S0 : Int) f S0 3) (dropQ C k)).length = 1 := by have := HSV.out; simpa using this.symm
        have hst := HST.out
        rw [if_pos hne] at hst
        have HST' := Lib.hid hst; have HNE := Lib.hid hne
        clear hst hne
        go_wp2
        go_roundw
        case rel => exact ⟨dropQ C k, k, A5, c5, rfl, rfl, by have := HDL.out; omega, hc5, hdl5, hQ6, hb6, Lib.hid ⟨dropQ_mem hH.out.1, by rw [show (dropQ C k).length - k = m from by have := HM.out; have := HDL.out; omega]; exact HST'.out⟩⟩
        case measure => have := HDL.out; simp [intOf, sliceLen]; omega
    · obtain rfl : k = C.length := by omega
      have h1 : ¬ (C.length : Int) < (C.length : Int) := by omega
      have hCR : C = R := by have := hH.out.2; rwa [Nat.sub_self, hardF] at this
      subst hCR
      have hs2r : w.heap.size + 1 < wr.heap.size := by omega
      go_wp2_with fail
      refine (withClues_any (S0 : Int) f A A' L.length cp c' C wr hQ).mono ?_
      rintro e w9 ⟨A9, c9, rfl, hO9, hx9⟩
      have hb9 := hb.trans (hx9.mono hsr)
      have k29 := (hb9.block (w.heap.size + 1) (by omega)).trans HK2.out
      have q29 := fun i => cell_of_row w9 (w.heap.size + 1) i _ _ _ k29
      have z29 := fun i => frozen_row (i := i) k29
      have hbw := hb3.trans (hb9.mono hb3.size)
      have HO9 := Lib.hid hO9
      clear hO9 qp kp kh hQ
      go_wp2
      exact bodyPost_ret (v := .tuple #[.agg #[.int .i64 (S0 : Int), .int .i64 f, .slice A9 C.length c9], .bool true]) (by simp [results, Try.results47, go_sem, q29]) rfl
        ⟨A9, c9, rfl, (((HO9.out.set (by dsimp only; omega) _).set (by dsimp only; omega) _).set (by dsimp only; omega) _).from_ (by have := hb3.size; omega), ((hbw.setCell (by simp) _).setCell (by simp) _).setCell (by simp) _⟩
theorem harder_both (q f : Int) (L : List Qd) :
    (∀ (A : Option Addr) (c : Nat) (w : World), RQ w w.heap.size A L → L.length ≤ c → Calls Try.prog 46 #[.agg #[.int .i64 q, .int .i64 f, .slice A L.length c]] w (PzBack w.heap.size w (hardR q f L))) ∧
    (∀ (A : Option Addr) (c : Nat) (w : World), RQ w w.heap.size A L → L.length ≤ c → Calls Try.prog 47 #[.agg #[.int .i64 q, .int .i64 f, .slice A L.length c]] w (PzBack w.heap.size w (hardR q f L))) := by
  cases hg : pzB q f L
  · have e : hardR q f L = noPz := by rw [hardR, hg]; rfl
    rw [e]
    exact ⟨fun A c w h _ => specHarder_bad q f A c L w h hg, fun A c w h _ => implHarder_bad q f A c L w h hg⟩
  · obtain ⟨S, rfl, hS, hf, hq⟩ := pz_yes hg
    cases hs : ((keepL (oversL (S : Int) f S 3) L).length == 1)
    · have e : hardR (S : Int) f L = noPz := by rw [hardR, hg, solN_yes hg, hs]; rfl
      rw [e]
      exact ⟨fun A c w h _ => specHarder_out S f A c L w h hg hs, fun A c w h _ => implHarder_out S f A c L w h hg hs⟩
    · have e : hardR (S : Int) f L = (((S : Int), f, hardF (S : Int) f S L.length L 0), true) := by rw [hardR, hg, solN_yes hg, hs]; rfl
      rw [e]
      exact ⟨fun A c w h _ => specHarder_yes S f A c L _ w h hg hs rfl, fun A c w h hc => implHarder_yes S f A c L _ w h hc hg hs rfl⟩
end Go.Proofs.Ytjngiinfpoappaa

/-
  Puzzles: NeedlessClues on both sides.
-/
import Derived.Test.YtjngiinfpoappaaC9y
import Derived.Test.YtjngiinfpoappaaWReg
namespace Go.Proofs.Ytjngiinfpoappaa
open Go.RowKit

theorem dropQ_all {L : List Qd} {k : Nat} {P : Qd → Prop} (h : ∀ q ∈ L, P q) : ∀ q ∈ dropQ L k, P q := by
  intro q hq
  rcases List.mem_append.1 hq with hq | hq
  · exact h q (List.mem_of_mem_take hq)
  · exact h q (List.mem_of_mem_drop hq)

set_option maxRecDepth 100000 in
set_option maxHeartbeats 1000000 in
theorem specNeedless_no (q f : Int) (L : List Qd) (A : Option Addr) (cp : Nat) (w : World) (hL : RQ w w.heap.size A L) (h : pzB q f L = false) : Calls Try.prog 37 #[.agg #[.int .i64 q, .int .i64 f, .slice A L.length cp]] w (IntsBack w ([], false)) := by
  have hl := hL.1
  have H := Lib.hid h
  clear h
  go_enter Try.func37, Try.ntmps37
  go_wp2_with fail
  refine (pzGood_any q f A cp L _ (hL.go (below1 _ _))).mono ?_
  rintro e w2 ⟨rfl, hx⟩
  have hb := (below1 w _).trans (hx.mono (by simp))
  rw [H.out]
  go_wp2
  go_ret2
  exact ⟨none, 0, rfl, .inl rfl, hb⟩

set_option maxRecDepth 100000 in
set_option maxHeartbeats 2000000 in
theorem specNeedless_yes (S : Nat) (f : Int) (L : List Qd) (A : Option Addr) (cp : Nat) (w : World) (hL : RQ w w.heap.size A L) (hc : L.length ≤ cp) (h : pzB (S : Int) f L = true) : Calls Try.prog 37 #[.agg #[.int .i64 (S : Int), .int .i64 f, .slice A L.length cp]] w (IntsBack w (needL S f S L L.length, true)) := by
  have hl := hL.1
  have hl6 := (pzB_parts h).2.2.1
  obtain ⟨S0, hS0, hSb, hf, hq⟩ := pz_yes h
  obtain rfl : S0 = S := by omega
  obtain ⟨i0, hi, hz0, hz1, hz2⟩ := info_parts infoInt1
  have hal := keepL_len S0 f L hSb.2
  obtain ⟨al, hae⟩ : ∃ al, al = (keepL (oversL (S0 : Int) f S0 3) L).length := ⟨_, rfl⟩
  rw [← hae] at hal
  have HAE := Lib.hid hae
  have HQ := Lib.hid hq; have H := Lib.hid h
  clear h hS0 hq hae
  go_enter Try.func37, Try.ntmps37
  go_wp2_with fail
  refine (pzGood_any (S0 : Int) f A cp L _ (hL.go (below1 _ _))).mono ?_
  rintro e w2 ⟨rfl, hx⟩
  rw [H.out]
  have hb1 := box_on (Below.refl _ _) hx (by simp)
  have qq := boxcells hb1
  have hb : Below w.heap.size w w2 := (below1 _ _).trans (hb1.mono (by omega))
  clear hx
  go_wp2_with fail
  refine (pzAll_any S0 f A A L.length cp cp L _ hSb hf (hL.go hb) HQ.out).mono ?_
  rintro e w3 ⟨v, rfl, hO, hx3⟩
  obtain ⟨A3, c3, rfl, _⟩ := hO.slice
  rw [← HAE.out]
  have hs12 : w.heap.size + 1 ≤ w2.heap.size := by have := hb1.size; simpa using this
  replace hb1 := box_on hb1 hx3 hs12
  have qq := boxcells hb1
  clear hO hx3 hb
  go_wp2
  clear qq
  go_loopw [4, 18] (fun v i wr => ∃ n : Nat, n ≤ L.length ∧ i = .int .i64 n ∧ Below (w.heap.size + 1) (w.alloc (.cells #[.int .i64 (S0 : Int), .int .i64 f, .slice A L.length cp] 34)) wr ∧ wr.ownsRow (w.heap.size + 1) 3 1 v (needL S0 f S0 L n).length ((needL S0 f S0 L n).map (Value.int .i64))) (fun _ i _ => L.length - (intOf i).toNat)
  case atStart => exact ⟨0, Nat.zero_le _, rfl, hb1, World.ownsRow_nil _ _ _ _⟩
  case round =>
    clear hb1
    obtain ⟨n, hn, rfl, hb1, hown⟩ := hrel
    have hbw : Below w.heap.size w wr := (below1 _ _).trans (hb1.mono (by omega))
    have hsz : (w.heap.size + 1) ≤ wr.heap.size := by have := hb1.size; simpa using this
    have kp : wr.heap[w.heap.size]? = some (.cells #[.int .i64 (S0 : Int), .int .i64 f, .slice A L.length cp] 34 (0, 0)) := (hb1.block _ (by omega)).trans (heap_alloc_at _ _ _ rfl)
    have qp := fun i => cell_of_row wr w.heap.size i _ _ _ kp
    by_cases hlt : n < L.length
    · have h0 : (n : Int) < (L.length : Int) := by omega
      obtain ⟨b, off, rfl, _, _⟩ := hL.at_ (Below.refl _ _) hlt
      have hDq : ∀ q ∈ dropQ L n, clQ (S0 : Int) f q = true := dropQ_all HQ.out
      have hkl := keepL_len S0 f (dropQ L n) hSb.2
      have hNl := needL_len (S0 : Int) f S0 L n
      have hLS : needL S0 f S0 L (n + 1) = needL S0 f S0 L n ++ (if (keepL (oversL S0 f S0 3) (dropQ L n)).length = (keepL (oversL S0 f S0 3) L).length then [(n : Int)] else []) := rfl
      rw [← HAE.out] at hLS
      obtain ⟨K, hK⟩ : ∃ K, K = (keepL (oversL (S0 : Int) f S0 3) (dropQ L n)).length := ⟨_, rfl⟩
      rw [← hK] at hkl hLS
      obtain ⟨M, hM⟩ : ∃ M, M = needL (S0 : Int) f S0 L n := ⟨_, rfl⟩
      rw [← hM] at hLS hown hNl
      have HK := Lib.hid hK; have HDQ := Lib.hid hDq; have HLS := Lib.hid hLS
      clear hK hDq hLS hM
      go_wp2
      refine wp_region_held_drew (S := (fun w' => w'.heap[w.heap.size]? = some (.cells #[.int .i64 (S0 : Int), .int .i64 f, .slice (some ⟨b, off, none⟩) L.length cp] 34 (0, 0)) ∧ ∀ i, w'.cell? ⟨w.heap.size, i, none⟩ = #[.int .i64 (S0 : Int), .int .i64 f, .slice (some ⟨b, off, none⟩) L.length cp][i]?)) (by kernel_rfl) ⟨kp, qp⟩ (fun hS => ?_)
      refine wpAnyH_take (i := 0) (oi := ⟨some 21, _, _, _, _, _⟩) rfl (by kernel_rfl) (by kernel_rfl) (by kernel_rfl) (fun _ _ _ h => h) (yields_load_row rfl 34 (.tmp 1) rfl w.heap.size rfl _ _ _ _ (fun _ h => h.1) Try.underlying34 rfl sizePzZ) hS ?_
      try simp only [Act.put, List.setIfInBounds_toArray, List.set_cons_zero, List.set_cons_succ]
      refine wpAnyH_take (i := 1) (oi := ⟨some 22, _, _, _, _, _⟩) (v := ?vza1) rfl (by kernel_rfl) (by kernel_rfl) (by kernel_rfl) (fun _ _ _ h => h) (Or.inl ⟨by rfl, ?hza1⟩) hS ?rza1
      case hza1 => (intro w' hSw; (try dsimp only at hSw); go_simp; (try with_reducible rfl))
      try simp only [Act.put, List.setIfInBounds_toArray, List.set_cons_zero, List.set_cons_succ]
      refine wpAnyH_take (i := 2) (oi := ⟨some 23, _, _, _, _, _⟩) (v := ?vza2) rfl (by kernel_rfl) (by kernel_rfl) (by kernel_rfl) (fun _ _ _ h => h) (Or.inl ⟨by rfl, ?hza2⟩) hS ?rza2
      case hza2 => (intro w' hSw; (try dsimp only at hSw); go_simp; (try with_reducible rfl))
      try simp only [Act.put, List.setIfInBounds_toArray, List.set_cons_zero, List.set_cons_succ]
      refine wpAnyH_take (i := 3) (oi := ⟨some 24, _, _, _, _, _⟩) (v := ?vza3) rfl (by kernel_rfl) (by kernel_rfl) (by kernel_rfl) (fun _ _ _ h => h) (Or.inl ⟨by rfl, ?hza3⟩) hS ?rza3
      case hza3 => (intro w' hSw; (try dsimp only at hSw); go_simp; (try with_reducible rfl))
      try simp only [Act.put, List.setIfInBounds_toArray, List.set_cons_zero, List.set_cons_succ]
      refine wpAnyH_take (i := 7) (oi := ⟨some 28, _, _, _, _, _⟩) (v := ?vza4) rfl (by kernel_rfl) (by kernel_rfl) (by kernel_rfl) (fun _ _ _ h => h) (Or.inl ⟨by rfl, ?hza4⟩) hS ?rza4
      case hza4 => (intro w' hSw; (try dsimp only at hSw); go_simp; (try with_reducible rfl))
      try simp only [Act.put, List.setIfInBounds_toArray, List.set_cons_zero, List.set_cons_succ]
      refine wpAnyH_ready (rs := [4]) (by kernel_rfl) (by simp) ?_
      refine AllReadyH.cons (o := ⟨some 25, _, _, _, _, _⟩) rfl (fun K' hK' => ?_) AllReadyH.nil
      go_simp
      go_at_call 73
      refine (pzWithout_any b off cp n L wr.drew (hL.go hbw.drew) hlt hc).mono ?_
      rintro e w5 ⟨A5, c5, rfl, hO5, hx5, _⟩
      replace hx5 : Below wr.heap.size wr w5 := (Below.refl _ wr).drew.trans (hx5.mono (Nat.le_refl _))
      have hQ5 : RQ w5 w5.heap.size A5 (dropQ L n) := hO5.rq (by have := dropQ_len hlt; omega)
      have kp5 := (hx5.block _ (heap_lt kp)).trans kp
      refine hK'.out _ _ ⟨kp5, fun i => cell_of_row w5 w.heap.size i _ _ _ kp5⟩ (fun _ => ?_)
      clear hK' K'
      try simp only [Act.put, List.setIfInBounds_toArray, List.set_cons_zero, List.set_cons_succ]
      refine wpAnyH_ready (rs := [5]) (by kernel_rfl) (by simp) ?_
      refine AllReadyH.cons (o := ⟨some 26, _, _, _, _, _⟩) rfl (fun K' hK' => ?_) AllReadyH.nil
      go_simp
      go_at_call 62
      refine (pzAll_any S0 f (some ⟨b, off, none⟩) A5 L.length cp c5 (dropQ L n) w5 hSb hf hQ5 HDQ.out).mono ?_
      rintro e w6 ⟨v6, rfl, hO6, hx6⟩
      obtain ⟨A6, c6, rfl, _⟩ := hO6.slice
      rw [← HK.out]
      replace hx6 : Below wr.heap.size wr w6 := hx5.trans (hx6.mono hx5.size)
      have kp6 := (hx6.block _ (heap_lt kp)).trans kp
      clear hO6
      refine hK'.out _ _ ⟨kp6, fun i => cell_of_row w6 w.heap.size i _ _ _ kp6⟩ (fun _ => ?_)
      clear hK' K'
      try simp only [Act.put, List.setIfInBounds_toArray, List.set_cons_zero, List.set_cons_succ]
      refine wpAnyH_take (i := 6) (oi := ⟨some 27, _, _, _, _, _⟩) (v := ?vza5) rfl (by kernel_rfl) (by kernel_rfl) (by kernel_rfl) (fun _ _ _ h => h) (Or.inl ⟨by rfl, ?hza5⟩) ⟨kp6, fun i => cell_of_row w6 w.heap.size i _ _ _ kp6⟩ ?rza5
      case hza5 => (intro w' hSw; (try dsimp only at hSw); go_simp; (try with_reducible rfl))
      try simp only [Act.put, List.setIfInBounds_toArray, List.set_cons_zero, List.set_cons_succ]
      refine wpAnyH_take (i := 8) (oi := ⟨some 29, _, _, _, _, _⟩) (v := ?vza6) rfl (by kernel_rfl) (by kernel_rfl) (by kernel_rfl) (fun _ _ _ h => h) (Or.inl ⟨by rfl, ?hza6⟩) ⟨kp6, fun i => cell_of_row w6 w.heap.size i _ _ _ kp6⟩ ?rza6
      case hza6 => (intro w' hSw; (try dsimp only at hSw); go_simp; (try with_reducible rfl))
      try simp only [Act.put, List.setIfInBounds_toArray, List.set_cons_zero, List.set_cons_succ]
      refine wpAnyH_done (by kernel_rfl) ?_ _
      have hb6 := box_on hb1 hx6 hsz
      have own6 := own_below hown hx6
      have hs6 : (w.heap.size + 1) ≤ w6.heap.size := Nat.le_trans hsz hx6.size
      clear hx6 hx5 hb1 hown kp qp hO5 hQ5 kp5 kp6
      by_cases he : K = al
      · have hei : ((K : Int) == (al : Int)) = true := by simp [he]
        have hl1 := HLS.out
        rw [if_pos he] at hl1
        have HL1 := Lib.hid hl1
        clear he hl1
        go_wp2_with (at_builtin; go_loud (refine wpList_append_own _ rfl _ _ 51 rfl ((w.heap.size + 1)) 3 i0 (.int .i64 0) 1 8 Try.underlying51 hi hz0 hz1 hz2 rfl (by decide) _ _ _ rfl (own6.alloc _) ⟨w6.heap.size, 0, none⟩ 1 1 [.int .i64 (n : Int)] rfl rfl (cell_new1' _ _ _ rfl) (one_int _) (by unfold maxLen; omega) (by omega) (by simp; omega) ?_; intro v1 w8 hown8 hg8 _))
        go_roundw
        case rel =>
          refine ⟨n + 1, by omega, by go_num, (hb6.alloc hs6 _).grown hg8 (by simp; omega) (fun i h => own_from own6 i h), ?_⟩
          rw [HL1.out, List.map_append, List.length_append]
          exact hown8
        case measure => simp [intOf]; omega
      · have hei : ((K : Int) == (al : Int)) = false := beq_eq_false_iff_ne.2 (by omega)
        have hl1 := HLS.out
        rw [if_neg he, List.append_nil] at hl1
        have HL1 := Lib.hid hl1
        clear he hl1
        go_wp2
        go_roundw
        case rel => exact ⟨n + 1, by omega, by go_num, hb6, by rw [HL1.out]; exact own6⟩
        case measure => simp [intOf]; omega
    · obtain rfl : n = L.length := by omega
      have h1 : ¬ (L.length : Int) < (L.length : Int) := by omega
      obtain ⟨R, hR⟩ : ∃ R, R = needL (S0 : Int) f S0 L L.length := ⟨_, rfl⟩
      rw [← hR] at hown
      have hIB := ints_back (own_baseI hown (by omega)) hbw
      rw [hR] at hIB
      have HIB := Lib.hid hIB
      clear hR hown hIB
      go_wp2
      go_ret2
      exact HIB.out

set_option maxRecDepth 100000 in
set_option maxHeartbeats 1000000 in
theorem implNeedless_no (q f : Int) (L : List Qd) (A : Option Addr) (cp : Nat) (w : World) (hL : RQ w w.heap.size A L) (h : pzB q f L = false) : Calls Try.prog 38 #[.agg #[.int .i64 q, .int .i64 f, .slice A L.length cp]] w (IntsBack w ([], false)) := by
  have hl := hL.1
  have H := Lib.hid h
  clear h
  go_enter Try.func38, Try.ntmps38
  go_wp2_with fail
  refine (hiddenOf_no q f A cp L _ (hL.go (below1 _ _)) H.out).mono ?_
  rintro e w2 ⟨rfl, hx⟩
  have hb := (below1 w _).trans (hx.mono (by simp))
  go_wp2
  go_ret2
  exact ⟨none, 0, rfl, .inl rfl, hb.alloc hb.size _⟩

set_option maxRecDepth 100000 in
set_option maxHeartbeats 2000000 in
theorem implNeedless_yes (S : Nat) (f : Int) (L : List Qd) (A : Option Addr) (cp : Nat) (w : World) (hL : RQ w w.heap.size A L) (hc : L.length ≤ cp) (h : pzB (S : Int) f L = true) : Calls Try.prog 38 #[.agg #[.int .i64 (S : Int), .int .i64 f, .slice A L.length cp]] w (IntsBack w (needL S f S L L.length, true)) := by
  have hl := hL.1
  have hl6 := (pzB_parts h).2.2.1
  obtain ⟨S0, hS0, hSb, hf, hq⟩ := pz_yes h
  obtain rfl : S0 = S := by omega
  obtain ⟨i0, hi, hz0, hz1, hz2⟩ := info_parts infoInt1
  have hal := keepL_len S0 f L hSb.2
  obtain ⟨al, hae⟩ : ∃ al, al = (keepL (oversL (S0 : Int) f S0 3) L).length := ⟨_, rfl⟩
  rw [← hae] at hal
  have HAE := Lib.hid hae
  have HQ := Lib.hid hq; have H := Lib.hid h
  clear h hS0 hq hae
  go_enter Try.func38, Try.ntmps38
  go_wp2_with fail
  refine (hiddenOf_yes (S0 : Int) f A cp L _ (hL.go (below1 _ _)) H.out).mono ?_
  rintro e w2 ⟨rfl, hx⟩
  have hb := (below1 w _).trans (hx.mono (by simp))
  have hs2 : w.heap.size < w2.heap.size := by have := hx.size; simp at this; omega
  have k1 := (hx.block w.heap.size (by simp)).trans (heap_alloc_at w (.cells #[.int .i64 (S0 : Int), .int .i64 f, .slice A L.length cp] 34) _ rfl)
  obtain ⟨w3, hw3⟩ : ∃ w3, w3 = w2.alloc (.cells #[.int .i64 (S0 : Int), .int .i64 f] 79) := ⟨_, rfl⟩
  have kp : w3.heap[w.heap.size]? = some (.cells #[.int .i64 (S0 : Int), .int .i64 f, .slice A L.length cp] 34 (0, 0)) := by rw [hw3]; exact (Below.heap_alloc _ _ _ hs2).trans k1
  have kh : w3.heap[w2.heap.size]? = some (.cells #[.int .i64 (S0 : Int), .int .i64 f] 79 (0, 0)) := by rw [hw3]; exact heap_alloc_at w2 (.cells #[.int .i64 (S0 : Int), .int .i64 f] 79) _ rfl
  have hb3 : Below w.heap.size w w3 := by rw [hw3]; exact hb.alloc hb.size _
  have hs3 : w3.heap.size = w2.heap.size + 1 := by rw [hw3]; simp
  have q2 := fun i => cell_of_row w2 w.heap.size i _ _ _ k1
  clear k1 hx
  go_wp2_with fail
  rw [← hw3]
  clear hw3
  refine (count_any S0 f A cp L w3 hSb hf (hL.go hb3) HQ.out).mono ?_
  rintro e w4 ⟨rfl, hx4⟩
  rw [← HAE.out]
  have hs4 := hx4.size
  have kp4 := (hx4.block _ (heap_lt kp)).trans kp
  have kh4 := (hx4.block _ (heap_lt kh)).trans kh
  have q4 := fun i => cell_of_row w4 w.heap.size i _ _ _ kp4
  have hb4 : Below w.heap.size w w4 := hb3.trans (hx4.mono hb3.size)
  have HKP := Lib.hid kp4; have HKH := Lib.hid kh4
  clear kp kh kp4 kh4 q2 hx4
  go_wp2
  clear q4
  go_loopw [6, 23] (fun v i wr => ∃ n : Nat, n ≤ L.length ∧ i = .int .i64 n ∧ Below w4.heap.size w4 wr ∧ wr.ownsRow w4.heap.size 3 1 v (needL S0 f S0 L n).length ((needL S0 f S0 L n).map (Value.int .i64))) (fun _ i _ => L.length - (intOf i).toNat)
  case atStart => exact ⟨0, Nat.zero_le _, rfl, Below.refl _ _, World.ownsRow_nil _ _ _ _⟩
  case round =>
    skip
    obtain ⟨n, hn, rfl, hb1, hown⟩ := hrel
    have hbw : Below w.heap.size w wr := hb4.trans (hb1.mono hb4.size)
    have hsz : w4.heap.size ≤ wr.heap.size := by have := hb1.size; simpa using this
    have kp := (hb1.block w.heap.size (by omega)).trans HKP.out
    have kh := (hb1.block w2.heap.size (by omega)).trans HKH.out
    have qp := fun i => cell_of_row wr w.heap.size i _ _ _ kp
    by_cases hlt : n < L.length
    · have h0 : (n : Int) < (L.length : Int) := by omega
      obtain ⟨b, off, rfl, _, _⟩ := hL.at_ (Below.refl _ _) hlt
      have hDq : ∀ q ∈ dropQ L n, clQ (S0 : Int) f q = true := dropQ_all HQ.out
      have hkl := keepL_len S0 f (dropQ L n) hSb.2
      have hNl := needL_len (S0 : Int) f S0 L n
      have hLS : needL S0 f S0 L (n + 1) = needL S0 f S0 L n ++ (if (keepL (oversL S0 f S0 3) (dropQ L n)).length = (keepL (oversL S0 f S0 3) L).length then [(n : Int)] else []) := rfl
      rw [← HAE.out] at hLS
      obtain ⟨K, hK⟩ : ∃ K, K = (keepL (oversL (S0 : Int) f S0 3) (dropQ L n)).length := ⟨_, rfl⟩
      rw [← hK] at hkl hLS
      obtain ⟨M, hM⟩ : ∃ M, M = needL (S0 : Int) f S0 L n := ⟨_, rfl⟩
      rw [← hM] at hLS hown hNl
      have HK := Lib.hid hK; have HDQ := Lib.hid hDq; have HLS := Lib.hid hLS
      clear hK hDq hLS hM
      go_wp2
      refine wp_region_held_drew (S := (fun w' => w'.heap[w2.heap.size]? = some (.cells #[.int .i64 (S0 : Int), .int .i64 f] 79 (0, 0)) ∧ ∀ i, w'.cell? ⟨w.heap.size, i, none⟩ = #[.int .i64 (S0 : Int), .int .i64 f, .slice (some ⟨b, off, none⟩) L.length cp][i]?)) (by kernel_rfl) ⟨kh, qp⟩ (fun hS => ?_)
      refine wpAnyH_take (i := 0) (oi := ⟨some 26, _, _, _, _, _⟩) rfl (by kernel_rfl) (by kernel_rfl) (by kernel_rfl) (fun _ _ _ h => h) (yields_load_row rfl 79 (.tmp 4) rfl w2.heap.size rfl _ _ _ _ (fun _ h => h.1) Try.underlying79 rfl sizeHdZ) hS ?_
      try simp only [Act.put, List.setIfInBounds_toArray, List.set_cons_zero, List.set_cons_succ]
      refine wpAnyH_take (i := 1) (oi := ⟨some 27, _, _, _, _, _⟩) (v := ?vzb1) rfl (by kernel_rfl) (by kernel_rfl) (by kernel_rfl) (fun _ _ _ h => h) (Or.inl ⟨by rfl, ?hzb1⟩) hS ?rzb1
      case hzb1 => (intro w' hSw; (try dsimp only at hSw); go_simp; (try with_reducible rfl))
      try simp only [Act.put, List.setIfInBounds_toArray, List.set_cons_zero, List.set_cons_succ]
      refine wpAnyH_take (i := 2) (oi := ⟨some 28, _, _, _, _, _⟩) (v := ?vzb2) rfl (by kernel_rfl) (by kernel_rfl) (by kernel_rfl) (fun _ _ _ h => h) (Or.inl ⟨by rfl, ?hzb2⟩) hS ?rzb2
      case hzb2 => (intro w' hSw; (try dsimp only at hSw); go_simp; (try with_reducible rfl))
      try simp only [Act.put, List.setIfInBounds_toArray, List.set_cons_zero, List.set_cons_succ]
      refine wpAnyH_take (i := 3) (oi := ⟨some 29, _, _, _, _, _⟩) (v := ?vzb3) rfl (by kernel_rfl) (by kernel_rfl) (by kernel_rfl) (fun _ _ _ h => h) (Or.inl ⟨by rfl, ?hzb3⟩) hS ?rzb3
      case hzb3 => (intro w' hSw; (try dsimp only at hSw); go_simp; (try with_reducible rfl))
      try simp only [Act.put, List.setIfInBounds_toArray, List.set_cons_zero, List.set_cons_succ]
      refine wpAnyH_take (i := 6) (oi := ⟨some 32, _, _, _, _, _⟩) (v := ?vzb4) rfl (by kernel_rfl) (by kernel_rfl) (by kernel_rfl) (fun _ _ _ h => h) (Or.inl ⟨by rfl, ?hzb4⟩) hS ?rzb4
      case hzb4 => (intro w' hSw; (try dsimp only at hSw); go_simp; (try with_reducible rfl))
      try simp only [Act.put, List.setIfInBounds_toArray, List.set_cons_zero, List.set_cons_succ]
      refine wpAnyH_ready (rs := [4]) (by kernel_rfl) (by simp) ?_
      refine AllReadyH.cons (o := ⟨some 30, _, _, _, _, _⟩) rfl (fun K' hK' => ?_) AllReadyH.nil
      go_simp
      go_at_call 75
      refine (without_any b off cp n L wr.drew (hL.go hbw.drew) hlt hc).mono ?_
      rintro e w5 ⟨A5, c5, rfl, hQ5, hx5, _⟩
      replace hx5 : Below wr.heap.size wr w5 := (Below.refl _ wr).drew.trans (hx5.mono (Nat.le_refl _))
      have kp5 := (hx5.block _ (heap_lt kp)).trans kp
      have kh5 := (hx5.block _ (heap_lt kh)).trans kh
      refine hK'.out _ _ ⟨kh5, fun i => cell_of_row w5 w.heap.size i _ _ _ kp5⟩ (fun _ => ?_)
      clear hK' K'
      try simp only [Act.put, List.setIfInBounds_toArray, List.set_cons_zero, List.set_cons_succ]
      refine wpAnyH_ready (rs := [5]) (by kernel_rfl) (by simp) ?_
      refine AllReadyH.cons (o := ⟨some 31, _, _, _, _, _⟩) rfl (fun K' hK' => ?_) AllReadyH.nil
      go_simp
      go_at_call 74
      refine (count_any S0 f A5 c5 (dropQ L n) w5 hSb hf hQ5 HDQ.out).mono ?_
      rintro e w6 ⟨rfl, hx6⟩
      rw [← HK.out]
      replace hx6 : Below wr.heap.size wr w6 := hx5.trans (hx6.mono hx5.size)
      have kp6 := (hx6.block _ (heap_lt kp)).trans kp
      have kh6 := (hx6.block _ (heap_lt kh)).trans kh
      refine hK'.out _ _ ⟨kh6, fun i => cell_of_row w6 w.heap.size i _ _ _ kp6⟩ (fun _ => ?_)
      clear hK' K'
      try simp only [Act.put, List.setIfInBounds_toArray, List.set_cons_zero, List.set_cons_succ]
      refine wpAnyH_take (i := 7) (oi := ⟨some 33, _, _, _, _, _⟩) (v := ?vzb5) rfl (by kernel_rfl) (by kernel_rfl) (by kernel_rfl) (fun _ _ _ h => h) (Or.inl ⟨by rfl, ?hzb5⟩) ⟨kh6, fun i => cell_of_row w6 w.heap.size i _ _ _ kp6⟩ ?rzb5
      case hzb5 => (intro w' hSw; (try dsimp only at hSw); go_simp; (try with_reducible rfl))
      try simp only [Act.put, List.setIfInBounds_toArray, List.set_cons_zero, List.set_cons_succ]
      refine wpAnyH_done (by kernel_rfl) ?_ _
      have hb6 := hb1.trans (hx6.mono hsz)
      have own6 := own_below hown hx6
      have hs6 : w4.heap.size ≤ w6.heap.size := Nat.le_trans hsz hx6.size
      clear hx6 hx5 hb1 hown kp qp kh hQ5 kp5 kp6 kh5 kh6
      by_cases he : K = al
      · have hei : ((K : Int) == (al : Int)) = true := by simp [he]
        have hl1 := HLS.out
        rw [if_pos he] at hl1
        have HL1 := Lib.hid hl1
        clear he hl1
        go_wp2_with (at_builtin; go_loud (refine wpList_append_own _ rfl _ _ 51 rfl (w4.heap.size) 3 i0 (.int .i64 0) 1 8 Try.underlying51 hi hz0 hz1 hz2 rfl (by decide) _ _ _ rfl (own6.alloc _) ⟨w6.heap.size, 0, none⟩ 1 1 [.int .i64 (n : Int)] rfl rfl (cell_new1' _ _ _ rfl) (one_int _) (by unfold maxLen; omega) (by omega) (by simp; omega) ?_; intro v1 w8 hown8 hg8 _))
        go_roundw
        case rel =>
          refine ⟨n + 1, by omega, by go_num, (hb6.alloc hs6 _).grown hg8 (by simp; omega) (fun i h => own_from own6 i h), ?_⟩
          rw [HL1.out, List.map_append, List.length_append]
          exact hown8
        case measure => simp [intOf]; omega
      · have hei : ((K : Int) == (al : Int)) = false := beq_eq_false_iff_ne.2 (by omega)
        have hl1 := HLS.out
        rw [if_neg he, List.append_nil] at hl1
        have HL1 := Lib.hid hl1
        clear he hl1
        go_wp2
        go_roundw
        case rel => exact ⟨n + 1, by omega, by go_num, hb6, by rw [HL1.out]; exact own6⟩
        case measure => simp [intOf]; omega
    · obtain rfl : n = L.length := by omega
      have h1 : ¬ (L.length : Int) < (L.length : Int) := by omega
      obtain ⟨R, hR⟩ : ∃ R, R = needL (S0 : Int) f S0 L L.length := ⟨_, rfl⟩
      rw [← hR] at hown
      have hIB := ints_back (own_baseI hown (by omega)) hbw
      rw [hR] at hIB
      have HIB := Lib.hid hIB
      clear hR hown hIB
      go_wp2
      go_ret2
      exact HIB.out

theorem needless_both (q f : Int) (L : List Qd) : ∃ (xs : List Int) (ok : Bool), xs.length ≤ 1048576 ∧
    (∀ (A : Option Addr) (c : Nat) (w : World), RQ w w.heap.size A L → L.length ≤ c → Calls Try.prog 37 #[.agg #[.int .i64 q, .int .i64 f, .slice A L.length c]] w (IntsBack w (xs, ok))) ∧
    (∀ (A : Option Addr) (c : Nat) (w : World), RQ w w.heap.size A L → L.length ≤ c → Calls Try.prog 38 #[.agg #[.int .i64 q, .int .i64 f, .slice A L.length c]] w (IntsBack w (xs, ok))) := by
  cases h : pzB q f L
  · exact ⟨[], false, by simp, fun A c w hL _ => specNeedless_no q f L A c w hL h, fun A c w hL _ => implNeedless_no q f L A c w hL h⟩
  · obtain ⟨S, rfl, hS, _, _⟩ := pz_yes h
    have hl6 := (pzB_parts h).2.2.1
    exact ⟨needL S f S L L.length, true, Nat.le_trans (needL_len _ _ _ _ _) (by omega), fun A c w hL hc => specNeedless_yes S f L A c w hL hc h, fun A c w hL hc => implNeedless_yes S f L A c w hL hc h⟩
end Go.Proofs.Ytjngiinfpoappaa

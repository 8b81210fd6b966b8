/-
  Puzzles: LeftByClues on both sides.
-/
import Derived.Test.YtjngiinfpoappaaC9u
import Derived.Test.YtjngiinfpoappaaC1k
import Derived.Test.YtjngiinfpoappaaWReg
namespace Go.Proofs.Ytjngiinfpoappaa
open Go.RowKit

theorem pzAll_n (S : Nat) (f : Int) (A0 A : Option Addr) (n0 c0 cp n : Nat) (cs : List Qd) (w : World) (hn : cs.length = n) (hS : 1 ≤ S ∧ S ≤ 10) (hf : 1 ≤ f ∧ f ≤ 8) (hL : RQ w w.heap.size A cs) (hq : ∀ q ∈ cs, clQ (S : Int) f q = true) :
    Calls Try.prog 62 #[.agg #[.int .i64 (S : Int), .int .i64 f, .slice A0 n0 c0], .slice A n cp] w fun e w' => ∃ v, e = .returned v ∧ OwnB w' w.heap.size w.heap.size 44 101 v (keepL (oversL S f S 3) cs) ∧ Below w.heap.size w w' := by
  subst hn; exact pzAll_any S f A0 A n0 c0 cp cs w hS hf hL hq
theorem count_n (S : Nat) (f : Int) (A : Option Addr) (cp n : Nat) (cs : List Qd) (w : World) (hn : cs.length = n) (hS : 1 ≤ S ∧ S ≤ 10) (hf : 1 ≤ f ∧ f ≤ 8) (hL : RQ w w.heap.size A cs) (hq : ∀ q ∈ cs, clQ (S : Int) f q = true) :
    Calls Try.prog 74 #[.agg #[.int .i64 (S : Int), .int .i64 f], .slice A n cp] w fun e w' => e = .returned (.int .i64 ((keepL (oversL S f S 3) cs).length : Nat)) ∧ Below w.heap.size w w' := by
  subst hn; exact count_any S f A cp cs w hS hf hL hq
theorem sizePzZ : (Try.prog.info? 34).map (·.size) = some 3 := by kernel_rfl
theorem sizeHdZ : (Try.prog.info? 79).map (·.size) = some 2 := by kernel_rfl
theorem own_baseI {w : World} {base b0 e size n : Nat} {v : Value} {xs : List Value} (h : w.ownsRow base e size v n xs) (hb : b0 ≤ base) : w.ownsRow b0 e size v n xs := by
  obtain ⟨h0, h | ⟨g, cap, cs, e1, hg, r⟩⟩ := h
  · exact ⟨h0, .inl h⟩
  · exact ⟨h0, .inr ⟨g, cap, cs, e1, Nat.le_trans hb hg, r⟩⟩
theorem ints_back {w w' : World} {v : Value} {xs : List Int} (h : w'.ownsRow w.heap.size 3 1 v xs.length (xs.map (Value.int .i64))) (hb : Below w.heap.size w w') : IntsBack w (xs, true) (.returned (.tuple #[v, .bool true])) w' := by
  obtain ⟨A, c, rfl, hO⟩ := own_oi h rfl
  exact ⟨A, c, rfl, hO, hb⟩

set_option maxRecDepth 100000 in
set_option maxHeartbeats 1000000 in
theorem specLeftBy_no (q f : Int) (L : List Qd) (A : Option Addr) (cp : Nat) (w : World) (hL : RQ w w.heap.size A L) (h : pzB q f L = false) : Calls Try.prog 42 #[.agg #[.int .i64 q, .int .i64 f, .slice A L.length cp]] w (IntsBack w ([], false)) := by
  have hl := hL.1
  have H := Lib.hid h
  clear h
  go_enter Try.func42, Try.ntmps42
  go_wp2_with fail
  refine (pzGood_any q f A cp L _ (hL.go (below1 _ _))).mono ?_
  rintro e w2 ⟨rfl, hx⟩
  rw [H.out]
  go_wp2
  go_ret2
  exact ⟨none, 0, rfl, .inl rfl, (below1 w _).trans (hx.mono (by simp))⟩

set_option maxRecDepth 100000 in
set_option maxHeartbeats 1000000 in
theorem specLeftBy_yes (S : Nat) (f : Int) (L : List Qd) (b off cp : Nat) (w : World) (hL : RQ w w.heap.size (some ⟨b, off, none⟩) L) (hc : L.length ≤ cp) (h : pzB (S : Int) f L = true) : Calls Try.prog 42 #[.agg #[.int .i64 (S : Int), .int .i64 f, .slice (some ⟨b, off, none⟩) L.length cp]] w (IntsBack w (leftL S f S L (L.length + 1), true)) := by
  have hl := hL.1
  have hl6 := (pzB_parts h).2.2.1
  obtain ⟨S0, hS0, hSb, hf, hq⟩ := pz_yes h
  obtain rfl : S0 = S := by omega
  obtain ⟨i0, hi, hz0, hz1, hz2⟩ := info_parts infoInt1
  have HQ := Lib.hid hq; have H := Lib.hid h
  clear h hS0 hq
  go_enter Try.func42, Try.ntmps42
  go_wp2_with fail
  refine (pzGood_any (S0 : Int) f (some ⟨b, off, none⟩) cp L _ (hL.go (below1 _ _))).mono ?_
  rintro e w2 ⟨rfl, hx⟩
  rw [H.out]
  have hb1 := box_on (Below.refl _ _) hx (by simp)
  clear hx
  go_wp2
  go_loopw [4, 5] (fun v i wr => ∃ n : Nat, n ≤ L.length + 1 ∧ i = .int .i64 n ∧ Below (w.heap.size + 1) (w.alloc (.cells #[.int .i64 (S0 : Int), .int .i64 f, .slice (some ⟨b, off, none⟩) L.length cp] 34)) wr ∧ wr.ownsRow (w.heap.size + 1) 3 1 v n ((leftL S0 f S0 L n).map (Value.int .i64))) (fun _ i _ => L.length + 1 - (intOf i).toNat)
  case atStart => exact ⟨0, Nat.zero_le _, rfl, hb1, World.ownsRow_nil _ _ _ _⟩
  case round =>
    clear hb1
    obtain ⟨n, hn, rfl, hb1, hown⟩ := hrel
    have hbw : Below w.heap.size w wr := (below1 _ _).trans (hb1.mono (by omega))
    have kp : wr.heap[w.heap.size]? = some (.cells #[.int .i64 (S0 : Int), .int .i64 f, .slice (some ⟨b, off, none⟩) L.length cp] 34 (0, 0)) := (hb1.block _ (by omega)).trans (heap_alloc_at _ _ _ rfl)
    have qq := fun i => cell_of_row wr w.heap.size i _ _ _ kp
    have hsz : w.heap.size + 1 ≤ wr.heap.size := by have := hb1.size; simpa using this
    by_cases hlt : n < L.length + 1
    · have h1 : (n : Int) ≤ (L.length : Int) := by omega
      have h2 : (n : Int) ≤ (cp : Int) := by omega
      have h3 : n ≤ cp := by omega
      have hT : RQ w w.heap.size (some ⟨b, off, none⟩) (L.take n) := by simpa using hL.part rfl 0 n (by omega)
      have hTl : (L.take n).length = n := by simp; omega
      have hTq : ∀ q ∈ L.take n, clQ (S0 : Int) f q = true := fun q hq => HQ.out q (List.mem_of_mem_take hq)
      have hkl := keepL_len S0 f (L.take n) hSb.2
      have hLS : leftL S0 f S0 L (n + 1) = leftL S0 f S0 L n ++ [((keepL (oversL S0 f S0 3) (L.take n)).length : Int)] := rfl
      obtain ⟨K, hK⟩ : ∃ K, K = keepL (oversL (S0 : Int) f S0 3) (L.take n) := ⟨_, rfl⟩
      rw [← hK] at hkl hLS
      have HK := Lib.hid hK; have HTQ := Lib.hid hTq; have HTL := Lib.hid hTl; have HLS := Lib.hid hLS; have HT := Lib.hid hT
      clear hK hTq hTl hLS hT
      go_wp2
      refine wp_region_held_drew (S := (fun w' => w'.heap[w.heap.size]? = some (.cells #[.int .i64 (S0 : Int), .int .i64 f, .slice (some ⟨b, off, none⟩) L.length cp] 34 (0, 0)) ∧ ∀ i, w'.cell? ⟨w.heap.size, i, none⟩ = #[.int .i64 (S0 : Int), .int .i64 f, .slice (some ⟨b, off, none⟩) L.length cp][i]?)) (by kernel_rfl) ⟨kp, qq⟩ (fun hS => ?_)
      refine wpAnyH_take (i := 1) (oi := ⟨some 17, _, _, _, _, _⟩) rfl (by kernel_rfl) (by kernel_rfl) (by kernel_rfl) (fun _ _ _ h => h) (yields_load_row rfl 34 (.tmp 1) rfl w.heap.size rfl _ _ _ _ (fun _ h => h.1) Try.underlying34 rfl sizePzZ) hS ?_
      try simp only [Act.put, List.setIfInBounds_toArray, List.set_cons_zero, List.set_cons_succ]
      refine wpAnyH_take (i := 0) (oi := ⟨some 16, _, _, _, _, _⟩) (v := ?vya1) rfl (by kernel_rfl) (by kernel_rfl) (by kernel_rfl) (fun _ _ _ h => h) (Or.inl ⟨by rfl, ?hya1⟩) hS ?rya1
      case hya1 => (intro w' hSw; (try dsimp only at hSw); go_simp; (try with_reducible rfl))
      try simp only [Act.put, List.setIfInBounds_toArray, List.set_cons_zero, List.set_cons_succ]
      refine wpAnyH_take (i := 2) (oi := ⟨some 18, _, _, _, _, _⟩) (v := ?vya2) rfl (by kernel_rfl) (by kernel_rfl) (by kernel_rfl) (fun _ _ _ h => h) (Or.inl ⟨by rfl, ?hya2⟩) hS ?rya2
      case hya2 => (intro w' hSw; (try dsimp only at hSw); go_simp; (try with_reducible rfl))
      try simp only [Act.put, List.setIfInBounds_toArray, List.set_cons_zero, List.set_cons_succ]
      refine wpAnyH_take (i := 3) (oi := ⟨some 19, _, _, _, _, _⟩) (v := ?vya3) rfl (by kernel_rfl) (by kernel_rfl) (by kernel_rfl) (fun _ _ _ h => h) (Or.inl ⟨by rfl, ?hya3⟩) hS ?rya3
      case hya3 => (intro w' hSw; (try dsimp only at hSw); go_simp; (try with_reducible rfl))
      try simp only [Act.put, List.setIfInBounds_toArray, List.set_cons_zero, List.set_cons_succ]
      refine wpAnyH_take (i := 4) (oi := ⟨some 20, _, _, _, _, _⟩) (v := ?vya4) rfl (by kernel_rfl) (by kernel_rfl) (by kernel_rfl) (fun _ _ _ h => h) (Or.inl ⟨by rfl, ?hya4⟩) hS ?rya4
      case hya4 => (intro w' hSw; (try dsimp only at hSw); go_simp; (try with_reducible rfl))
      try simp only [Act.put, List.setIfInBounds_toArray, List.set_cons_zero, List.set_cons_succ]
      refine wpAnyH_take (i := 5) (oi := ⟨some 21, _, _, _, _, _⟩) (v := ?vya5) rfl (by kernel_rfl) (by kernel_rfl) (by kernel_rfl) (fun _ _ _ h => h) (Or.inl ⟨by rfl, ?hya5⟩) hS ?rya5
      case hya5 => (intro w' hSw; (try dsimp only at hSw); go_simp; (try with_reducible rfl))
      try simp only [Act.put, List.setIfInBounds_toArray, List.set_cons_zero, List.set_cons_succ]
      refine wpAnyH_ready (rs := [6]) (by kernel_rfl) (by simp) ?_
      refine AllReadyH.cons (o := ⟨some 22, _, _, _, _, _⟩) rfl (fun K' hK' => ?_) AllReadyH.nil
      go_simp
      go_at_call 62
      refine (pzAll_n S0 f (some ⟨b, off, none⟩) (some ⟨b, off, none⟩) L.length cp cp n (L.take n) wr.drew HTL.out hSb hf (HT.out.go hbw.drew) HTQ.out).mono ?_
      rintro e w5 ⟨v5, rfl, hO5, hx5⟩
      rw [← HK.out] at hO5
      obtain ⟨A5, c5, rfl, _⟩ := hO5.slice
      replace hx5 : Below wr.heap.size wr w5 := (Below.refl _ wr).drew.trans (hx5.mono (Nat.le_refl _))
      have kp5 := (hx5.block _ (heap_lt kp)).trans kp
      have hb5 := box_on hb1 hx5 hsz
      have own5 := own_below hown hx5
      have hs5 : w.heap.size + 1 ≤ w5.heap.size := Nat.le_trans hsz hx5.size
      clear hO5
      refine hK'.out _ _ ⟨kp5, fun i => cell_of_row w5 w.heap.size i _ _ _ kp5⟩ (fun _ => ?_)
      clear hK' K'
      try simp only [Act.put, List.setIfInBounds_toArray, List.set_cons_zero, List.set_cons_succ]
      refine wpAnyH_take (i := 7) (oi := ⟨some 23, _, _, _, _, _⟩) (v := ?vya6) rfl (by kernel_rfl) (by kernel_rfl) (by kernel_rfl) (fun _ _ _ h => h) (Or.inl ⟨by rfl, ?hya6⟩) ⟨kp5, fun i => cell_of_row w5 w.heap.size i _ _ _ kp5⟩ ?rya6
      case hya6 => (intro w' hSw; (try dsimp only at hSw); go_simp; (try with_reducible rfl))
      try simp only [Act.put, List.setIfInBounds_toArray, List.set_cons_zero, List.set_cons_succ]
      refine wpAnyH_ready (rs := [8]) (by kernel_rfl) (by simp) ?_
      refine AllReadyH.cons (o := ⟨some 24, _, _, _, _, _⟩) rfl (fun K' hK' => ?_) AllReadyH.nil
      go_simp
      have kp6 := (Below.heap_alloc w5 (.cells #[.int .i64 (K.length : Int)] 3) _ (by omega)).trans kp5
      refine hK'.out _ _ ⟨kp6, fun i => cell_of_row _ w.heap.size i _ _ _ kp6⟩ (fun _ => ?_)
      clear hK' K'
      try simp only [Act.put, List.setIfInBounds_toArray, List.set_cons_zero, List.set_cons_succ]
      refine wpAnyH_ready (rs := [9]) (by kernel_rfl) (by simp) ?_
      refine AllReadyH.cons (o := ⟨some 25, _, _, _, _, _⟩) rfl (fun K' hK' => ?_) AllReadyH.nil
      rw [if_pos (wanted_plain rfl)]
      refine wp_append_own _ _ _ 51 rfl (w.heap.size + 1) 3 i0 (.int .i64 0) 1 8 Try.underlying51 hi hz0 hz1 hz2 rfl (by decide) _ _ _ rfl (own5.alloc _) ⟨w5.heap.size, 0, none⟩ 1 1 [.int .i64 (K.length : Int)] rfl rfl (cell_new1' _ _ _ rfl) (one_int _) (by unfold maxLen; omega) (by omega) (by simp; omega) ?_
      intro v1 w8 hown8 hg8 _
      have kp7 := (hg8.block w.heap.size (by simp; omega) (fun e => by have := own_from own5 _ e.symm; omega)).trans kp6
      refine hK'.out _ _ ⟨kp7, fun i => cell_of_row _ w.heap.size i _ _ _ kp7⟩ (fun _ => ?_)
      clear hK' K'
      try simp only [Act.put, List.setIfInBounds_toArray, List.set_cons_zero, List.set_cons_succ]
      refine wpAnyH_ready (rs := [10]) (by kernel_rfl) (by simp) ?_
      refine AllReadyH.cons (o := ⟨some 4, _, _, _, _, _⟩) rfl (fun K' hK' => ?_) AllReadyH.nil
      go_simp
      refine hK'.out _ _ ⟨kp7, fun i => cell_of_row _ w.heap.size i _ _ _ kp7⟩ (fun _ => ?_)
      clear hK' K'
      try simp only [Act.put, List.setIfInBounds_toArray, List.set_cons_zero, List.set_cons_succ]
      refine wpAnyH_done (by kernel_rfl) ?_ _
      go_wp2
      go_roundw
      case rel =>
        refine ⟨n + 1, by omega, by go_num, (hb5.alloc hs5 _).grown hg8 (by simp; omega) (fun i h => own_from own5 i h), ?_⟩
        rw [HLS.out, List.map_append]
        exact hown8
      case measure => simp [intOf]; omega
    · obtain rfl : n = L.length + 1 := by omega
      have h1 : ¬ ((L.length + 1 : Nat) : Int) ≤ (L.length : Int) := by omega
      have hlen := leftL_len (S0 : Int) f S0 L (L.length + 1)
      obtain ⟨R, hR⟩ : ∃ R, R = leftL (S0 : Int) f S0 L (L.length + 1) := ⟨_, rfl⟩
      rw [← hR] at hown hlen ⊢
      rw [← hlen] at hown
      have hIB := ints_back (own_baseI hown (by omega)) hbw
      rw [hR] at hIB
      have HIB := Lib.hid hIB
      clear hR hlen hown hIB
      go_wp2
      go_ret2
      exact HIB.out

set_option maxRecDepth 100000 in
set_option maxHeartbeats 1000000 in
theorem implLeftBy_no (q f : Int) (L : List Qd) (A : Option Addr) (cp : Nat) (w : World) (hL : RQ w w.heap.size A L) (h : pzB q f L = false) : Calls Try.prog 43 #[.agg #[.int .i64 q, .int .i64 f, .slice A L.length cp]] w (IntsBack w ([], false)) := by
  have hl := hL.1
  have H := Lib.hid h
  clear h
  go_enter Try.func43, Try.ntmps43
  go_wp2_with fail
  refine (hiddenOf_no q f A cp L _ (hL.go (below1 _ _)) H.out).mono ?_
  rintro e w2 ⟨rfl, hx⟩
  have hb := (below1 w _).trans (hx.mono (by simp))
  go_wp2
  go_ret2
  exact ⟨none, 0, rfl, .inl rfl, hb.alloc hb.size _⟩

set_option maxRecDepth 100000 in
set_option maxHeartbeats 1000000 in
theorem implLeftBy_yes (S : Nat) (f : Int) (L : List Qd) (b off cp : Nat) (w : World) (hL : RQ w w.heap.size (some ⟨b, off, none⟩) L) (hc : L.length ≤ cp) (h : pzB (S : Int) f L = true) : Calls Try.prog 43 #[.agg #[.int .i64 (S : Int), .int .i64 f, .slice (some ⟨b, off, none⟩) L.length cp]] w (IntsBack w (leftL S f S L (L.length + 1), true)) := by
  have hl := hL.1
  have hl6 := (pzB_parts h).2.2.1
  obtain ⟨S0, hS0, hSb, hf, hq⟩ := pz_yes h
  obtain rfl : S0 = S := by omega
  obtain ⟨i0, hi, hz0, hz1, hz2⟩ := info_parts infoInt1
  have HQ := Lib.hid hq; have H := Lib.hid h
  clear h hS0 hq
  go_enter Try.func43, Try.ntmps43
  go_wp2_with fail
  refine (hiddenOf_yes (S0 : Int) f (some ⟨b, off, none⟩) cp L _ (hL.go (below1 _ _)) H.out).mono ?_
  rintro e w2 ⟨rfl, hx⟩
  have hb := (below1 w _).trans (hx.mono (by simp))
  have hs2 : w.heap.size < w2.heap.size := by have := hx.size; simp at this; omega
  have k1 := (hx.block w.heap.size (by simp)).trans (heap_alloc_at w (.cells #[.int .i64 (S0 : Int), .int .i64 f, .slice (some ⟨b, off, none⟩) L.length cp] 34) _ rfl)
  obtain ⟨w3, hw3⟩ : ∃ w3, w3 = w2.alloc (.cells #[.int .i64 (S0 : Int), .int .i64 f] 79) := ⟨_, rfl⟩
  have kp : w3.heap[w.heap.size]? = some (.cells #[.int .i64 (S0 : Int), .int .i64 f, .slice (some ⟨b, off, none⟩) L.length cp] 34 (0, 0)) := by rw [hw3]; exact (Below.heap_alloc _ _ _ hs2).trans k1
  have kh : w3.heap[w2.heap.size]? = some (.cells #[.int .i64 (S0 : Int), .int .i64 f] 79 (0, 0)) := by rw [hw3]; exact heap_alloc_at w2 (.cells #[.int .i64 (S0 : Int), .int .i64 f] 79) _ rfl
  have hb3 : Below w.heap.size w w3 := by rw [hw3]; exact hb.alloc hb.size _
  have hs3 : w3.heap.size = w2.heap.size + 1 := by rw [hw3]; simp
  have q2 := fun i => cell_of_row w2 w.heap.size i _ _ _ k1
  have hN : L.length + 1 ≤ 7 := by omega
  clear k1 hx
  go_wp2
  rw [← hw3]
  have HKP := Lib.hid kp; have HKH := Lib.hid kh
  clear kp kh hw3 q2
  go_loopw [6, 19] (fun v i wr => ∃ n : Nat, n ≤ L.length + 1 ∧ i = .int .i64 n ∧ Below w3.heap.size w3 wr ∧ wr.ownsRow w3.heap.size 3 1 v n ((leftL S0 f S0 L n).map (Value.int .i64))) (fun _ i _ => L.length + 1 - (intOf i).toNat)
  case atStart => exact ⟨0, Nat.zero_le _, rfl, Below.refl _ _, World.ownsRow_nil _ _ _ _⟩
  case round =>
    obtain ⟨n, hn, rfl, hb1, hown⟩ := hrel
    have hbw : Below w.heap.size w wr := hb3.trans (hb1.mono hb3.size)
    have hsz := hb1.size
    have kp := (hb1.block w.heap.size (by omega)).trans HKP.out
    have kh := (hb1.block w2.heap.size (by omega)).trans HKH.out
    have qp := fun i => cell_of_row wr w.heap.size i _ _ _ kp
    by_cases hlt : n < L.length + 1
    · have h0 : (n : Int) < (L.length : Int) + 1 := by omega
      have h1 : (n : Int) ≤ (L.length : Int) := by omega
      have h2 : (n : Int) ≤ (cp : Int) := by omega
      have h3 : n ≤ cp := by omega
      have hT : RQ w w.heap.size (some ⟨b, off, none⟩) (L.take n) := by simpa using hL.part rfl 0 n (by omega)
      have hTl : (L.take n).length = n := by simp; omega
      have hTq : ∀ q ∈ L.take n, clQ (S0 : Int) f q = true := fun q hq => HQ.out q (List.mem_of_mem_take hq)
      have hkl := keepL_len S0 f (L.take n) hSb.2
      have hLS : leftL S0 f S0 L (n + 1) = leftL S0 f S0 L n ++ [((keepL (oversL S0 f S0 3) (L.take n)).length : Int)] := rfl
      obtain ⟨K, hK⟩ : ∃ K, K = (keepL (oversL (S0 : Int) f S0 3) (L.take n)).length := ⟨_, rfl⟩
      rw [← hK] at hkl hLS
      have HK := Lib.hid hK; have HTQ := Lib.hid hTq; have HTL := Lib.hid hTl; have HLS := Lib.hid hLS; have HT := Lib.hid hT
      clear hK hTq hTl hLS hT
      go_wp2
      refine wp_region_held_drew (S := (fun w' => w'.heap[w2.heap.size]? = some (.cells #[.int .i64 (S0 : Int), .int .i64 f] 79 (0, 0)) ∧ ∀ i, w'.cell? ⟨w.heap.size, i, none⟩ = #[.int .i64 (S0 : Int), .int .i64 f, .slice (some ⟨b, off, none⟩) L.length cp][i]?)) (by kernel_rfl) ⟨kh, qp⟩ (fun hS => ?_)
      refine wpAnyH_take (i := 1) (oi := ⟨some 23, _, _, _, _, _⟩) rfl (by kernel_rfl) (by kernel_rfl) (by kernel_rfl) (fun _ _ _ h => h) (yields_load_row rfl 79 (.tmp 4) rfl w2.heap.size rfl _ _ _ _ (fun _ h => h.1) Try.underlying79 rfl sizeHdZ) hS ?_
      try simp only [Act.put, List.setIfInBounds_toArray, List.set_cons_zero, List.set_cons_succ]
      refine wpAnyH_take (i := 0) (oi := ⟨some 22, _, _, _, _, _⟩) (v := ?vyb1) rfl (by kernel_rfl) (by kernel_rfl) (by kernel_rfl) (fun _ _ _ h => h) (Or.inl ⟨by rfl, ?hyb1⟩) hS ?ryb1
      case hyb1 => (intro w' hSw; (try dsimp only at hSw); go_simp; (try with_reducible rfl))
      try simp only [Act.put, List.setIfInBounds_toArray, List.set_cons_zero, List.set_cons_succ]
      refine wpAnyH_take (i := 2) (oi := ⟨some 24, _, _, _, _, _⟩) (v := ?vyb2) rfl (by kernel_rfl) (by kernel_rfl) (by kernel_rfl) (fun _ _ _ h => h) (Or.inl ⟨by rfl, ?hyb2⟩) hS ?ryb2
      case hyb2 => (intro w' hSw; (try dsimp only at hSw); go_simp; (try with_reducible rfl))
      try simp only [Act.put, List.setIfInBounds_toArray, List.set_cons_zero, List.set_cons_succ]
      refine wpAnyH_take (i := 3) (oi := ⟨some 25, _, _, _, _, _⟩) (v := ?vyb3) rfl (by kernel_rfl) (by kernel_rfl) (by kernel_rfl) (fun _ _ _ h => h) (Or.inl ⟨by rfl, ?hyb3⟩) hS ?ryb3
      case hyb3 => (intro w' hSw; (try dsimp only at hSw); go_simp; (try with_reducible rfl))
      try simp only [Act.put, List.setIfInBounds_toArray, List.set_cons_zero, List.set_cons_succ]
      refine wpAnyH_take (i := 4) (oi := ⟨some 26, _, _, _, _, _⟩) (v := ?vyb4) rfl (by kernel_rfl) (by kernel_rfl) (by kernel_rfl) (fun _ _ _ h => h) (Or.inl ⟨by rfl, ?hyb4⟩) hS ?ryb4
      case hyb4 => (intro w' hSw; (try dsimp only at hSw); go_simp; (try with_reducible rfl))
      try simp only [Act.put, List.setIfInBounds_toArray, List.set_cons_zero, List.set_cons_succ]
      refine wpAnyH_take (i := 5) (oi := ⟨some 27, _, _, _, _, _⟩) (v := ?vyb5) rfl (by kernel_rfl) (by kernel_rfl) (by kernel_rfl) (fun _ _ _ h => h) (Or.inl ⟨by rfl, ?hyb5⟩) hS ?ryb5
      case hyb5 => (intro w' hSw; (try dsimp only at hSw); go_simp; (try with_reducible rfl))
      try simp only [Act.put, List.setIfInBounds_toArray, List.set_cons_zero, List.set_cons_succ]
      refine wpAnyH_take (i := 6) (oi := ⟨some 28, _, _, _, _, _⟩) (v := ?vyb6) rfl (by kernel_rfl) (by kernel_rfl) (by kernel_rfl) (fun _ _ _ h => h) (Or.inl ⟨by rfl, ?hyb6⟩) hS ?ryb6
      case hyb6 => (intro w' hSw; (try dsimp only at hSw); go_simp; (try with_reducible rfl))
      try simp only [Act.put, List.setIfInBounds_toArray, List.set_cons_zero, List.set_cons_succ]
      refine wpAnyH_ready (rs := [7]) (by kernel_rfl) (by simp) ?_
      refine AllReadyH.cons (o := ⟨some 29, _, _, _, _, _⟩) rfl (fun K' hK' => ?_) AllReadyH.nil
      go_simp
      go_at_call 74
      refine (count_n S0 f (some ⟨b, off, none⟩) n n (L.take n) wr.drew HTL.out hSb hf (HT.out.go hbw.drew) HTQ.out).mono ?_
      rintro e w5 ⟨rfl, hx5⟩
      rw [← HK.out]
      replace hx5 : Below wr.heap.size wr w5 := (Below.refl _ wr).drew.trans (hx5.mono (Nat.le_refl _))
      have kp5 := (hx5.block _ (heap_lt kp)).trans kp
      have kh5 := (hx5.block _ (heap_lt kh)).trans kh
      have hb5 := hb1.trans (hx5.mono hsz)
      have own5 := own_below hown hx5
      have hs5 : w3.heap.size ≤ w5.heap.size := hb5.size
      refine hK'.out _ _ ⟨kh5, fun i => cell_of_row w5 w.heap.size i _ _ _ kp5⟩ (fun _ => ?_)
      clear hK' K'
      try simp only [Act.put, List.setIfInBounds_toArray, List.set_cons_zero, List.set_cons_succ]
      refine wpAnyH_ready (rs := [8]) (by kernel_rfl) (by simp) ?_
      refine AllReadyH.cons (o := ⟨some 30, _, _, _, _, _⟩) rfl (fun K' hK' => ?_) AllReadyH.nil
      go_simp
      have kp6 := (Below.heap_alloc w5 (.cells #[.int .i64 (K : Int)] 3) _ (by omega)).trans kp5
      have kh6 := (Below.heap_alloc w5 (.cells #[.int .i64 (K : Int)] 3) _ (by omega)).trans kh5
      refine hK'.out _ _ ⟨kh6, fun i => cell_of_row _ w.heap.size i _ _ _ kp6⟩ (fun _ => ?_)
      clear hK' K'
      try simp only [Act.put, List.setIfInBounds_toArray, List.set_cons_zero, List.set_cons_succ]
      refine wpAnyH_ready (rs := [9]) (by kernel_rfl) (by simp) ?_
      refine AllReadyH.cons (o := ⟨some 31, _, _, _, _, _⟩) rfl (fun K' hK' => ?_) AllReadyH.nil
      rw [if_pos (wanted_plain rfl)]
      refine wp_append_own _ _ _ 51 rfl w3.heap.size 3 i0 (.int .i64 0) 1 8 Try.underlying51 hi hz0 hz1 hz2 rfl (by decide) _ _ _ rfl (own5.alloc _) ⟨w5.heap.size, 0, none⟩ 1 1 [.int .i64 (K : Int)] rfl rfl (cell_new1' _ _ _ rfl) (one_int _) (by unfold maxLen; omega) (by omega) (by simp; omega) ?_
      intro v1 w8 hown8 hg8 _
      have kp7 := (hg8.block w.heap.size (by simp; omega) (fun e => by have := own_from own5 _ e.symm; omega)).trans kp6
      have kh7 := (hg8.block w2.heap.size (by simp; omega) (fun e => by have := own_from own5 _ e.symm; omega)).trans kh6
      refine hK'.out _ _ ⟨kh7, fun i => cell_of_row _ w.heap.size i _ _ _ kp7⟩ (fun _ => ?_)
      clear hK' K'
      try simp only [Act.put, List.setIfInBounds_toArray, List.set_cons_zero, List.set_cons_succ]
      refine wpAnyH_ready (rs := [10]) (by kernel_rfl) (by simp) ?_
      refine AllReadyH.cons (o := ⟨some 6, _, _, _, _, _⟩) rfl (fun K' hK' => ?_) AllReadyH.nil
      go_simp
      refine hK'.out _ _ ⟨kh7, fun i => cell_of_row _ w.heap.size i _ _ _ kp7⟩ (fun _ => ?_)
      clear hK' K'
      try simp only [Act.put, List.setIfInBounds_toArray, List.set_cons_zero, List.set_cons_succ]
      refine wpAnyH_done (by kernel_rfl) ?_ _
      go_wp2
      go_roundw
      case rel =>
        refine ⟨n + 1, by omega, by go_num, (hb5.alloc hs5 _).grown hg8 (by simp; omega) (fun i h => own_from own5 i h), ?_⟩
        rw [HLS.out, List.map_append]
        exact hown8
      case measure => simp [intOf]; omega
    · obtain rfl : n = L.length + 1 := by omega
      have h1 : ¬ ((L.length + 1 : Nat) : Int) < (L.length : Int) + 1 := by omega
      have hlen := leftL_len (S0 : Int) f S0 L (L.length + 1)
      obtain ⟨R, hR⟩ : ∃ R, R = leftL (S0 : Int) f S0 L (L.length + 1) := ⟨_, rfl⟩
      rw [← hR] at hown hlen ⊢
      rw [← hlen] at hown
      have hIB := ints_back (own_baseI hown hb3.size) hbw
      rw [hR] at hIB
      have HIB := Lib.hid hIB
      clear hR hlen hown hIB
      go_wp2
      go_ret2
      exact HIB.out
theorem leftBy_both (q f : Int) (L : List Qd) : ∃ (xs : List Int) (ok : Bool), xs.length ≤ 1048576 ∧
    (∀ (A : Option Addr) (c : Nat) (w : World), RQ w w.heap.size A L → L.length ≤ c → (∃ b off, A = some ⟨b, off, none⟩) → Calls Try.prog 42 #[.agg #[.int .i64 q, .int .i64 f, .slice A L.length c]] w (IntsBack w (xs, ok))) ∧
    (∀ (A : Option Addr) (c : Nat) (w : World), RQ w w.heap.size A L → L.length ≤ c → (∃ b off, A = some ⟨b, off, none⟩) → Calls Try.prog 43 #[.agg #[.int .i64 q, .int .i64 f, .slice A L.length c]] w (IntsBack w (xs, ok))) := by
  cases h : pzB q f L
  · exact ⟨[], false, by simp, fun A c w hL _ _ => specLeftBy_no q f L A c w hL h, fun A c w hL _ _ => implLeftBy_no q f L A c w hL h⟩
  · obtain ⟨S, rfl, hS, _, _⟩ := pz_yes h
    have hl6 := (pzB_parts h).2.2.1
    refine ⟨leftL S f S L (L.length + 1), true, by rw [leftL_len]; omega, fun A c w hL hc hA => ?_, fun A c w hL hc hA => ?_⟩
    · obtain ⟨b, off, rfl⟩ := hA
      exact specLeftBy_yes S f L b off c w hL hc h
    · obtain ⟨b, off, rfl⟩ := hA
      exact implLeftBy_yes S f L b off c w hL hc h
end Go.Proofs.Ytjngiinfpoappaa

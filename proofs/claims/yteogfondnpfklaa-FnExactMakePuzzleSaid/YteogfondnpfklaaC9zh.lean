/-
  Puzzles: MakePuzzle on both sides.
-/
import Derived.Test.YteogfondnpfklaaC9zg
import Derived.Test.YteogfondnpfklaaC9h
namespace Go.Proofs.Yteogfondnpfklaa
open Go.RowKit

/-- What both sides make of a board, a kind and a number. -/
def MadeIs (x : ((Int × Int × Int) × List (Int × Int))) (k y : Nat) (q : Qd) : Prop :=
  (∀ (A : Option Addr) (c : Nat) (w : World), RJ w w.heap.size A x.2 → Calls Try.prog 52 #[.int .i64 (k : Int), .int .i64 (y : Int), .agg #[.int .i64 x.1.1, .int .i64 x.1.2.1, .int .i64 x.1.2.2, .slice A x.2.length c]] w fun e w' => e = .returned (.agg #[.int .i64 q.1, .int .i64 q.2.1, .int .i64 q.2.2.1, .int .i64 q.2.2.2]) ∧ Below w.heap.size w w') ∧
  (∀ (A : Option Addr) (c : Nat) (w : World), RJ w w.heap.size A x.2 → Calls Try.prog 57 #[.agg #[.int .i64 x.1.1, .int .i64 x.1.2.1, .int .i64 x.1.2.2, .slice A x.2.length c], .int .i64 (k : Int), .int .i64 (y : Int)] w fun e w' => e = .returned (.agg #[.int .i64 q.1, .int .i64 q.2.1, .int .i64 q.2.2.1, .int .i64 q.2.2.2]) ∧ Below w.heap.size w w')
theorem clB_mk {q f k a b d : Int} (hk : 0 ≤ k ∧ k ≤ 5) (ha : 0 ≤ a ∧ a ≤ moA q k) (hb : leB k ≤ b ∧ b ≤ moB f k) (hd : 0 ≤ d ∧ d ≤ moC q k) : clB q f k a b d = true := by
  rw [clB_eq hk.1 hk.2, inB_iff.2 ha, inB_iff.2 hb, inB_iff.2 hd]; rfl
theorem made_ex {s f o : Int} {js : List (Int × Int)} (hh : hidB s f o js = true) {k y : Nat} (hk : k ≤ 5) (hy : y ≤ 10006) : ∃ q, MadeIs ((s, f, o), js) k y q := by
  have hp := hidB_parts hh
  have hz := good_sizes hp.1
  obtain ⟨S0, hS0⟩ := Int.eq_ofNat_of_zero_le (show 0 ≤ s by omega)
  obtain ⟨F0, hF0⟩ := Int.eq_ofNat_of_zero_le (show 0 ≤ f by omega)
  subst hS0 hF0
  have hS : 1 ≤ S0 ∧ S0 ≤ 10 := ⟨by omega, by omega⟩
  have hF : 1 ≤ F0 ∧ F0 ≤ 8 := ⟨by omega, by omega⟩
  obtain ⟨R, hR⟩ : ∃ R, FewR (S0 : Int) (F0 : Int) o js 0 R := by
    rcases Classical.em (∃ t, Way (eB (S0 : Int) (F0 : Int) o js) 0 t (S0 : Int).toNat) with ⟨t, ht⟩ | hn
    · obtain ⟨t, ht⟩ := least_ex (W := fun t => Way (eB (S0 : Int) (F0 : Int) o js) 0 t (S0 : Int).toNat) ht
      exact ⟨(t, true), .inl ⟨rfl, t, rfl, ht⟩⟩
    · exact ⟨(0, false), .inr ⟨rfl, rfl, fun t ht => hn ⟨t, ht⟩⟩⟩
  obtain ⟨P, hP⟩ : ∃ P, HopeIs (S0 : Int) (F0 : Int) o js P := ⟨fun i => @decide _ (Classical.propDecidable (onSq (S0 : Int) js i = true ∧ ∀ t, ¬ Way (eB (S0 : Int) (F0 : Int) o js) i t (S0 : Int).toNat)), fun i => by simp⟩
  obtain ⟨V, hV⟩ : ∃ V : Int → Int → Int → Int × Bool, V = fun k a b => toldV (S0 : Int) o js R.1 (selL P ((S0 : Int).toNat + 1)).length k a b := ⟨_, rfl⟩
  have hs : ∀ K a b, clB (S0 : Int) (F0 : Int) K a b 0 = true → (V K a b).2 = true → ∀ (A : Option Addr) (c : Nat) (w : World), RJ w w.heap.size A js → Calls Try.prog 87 #[.int .i64 K, .int .i64 a, .int .i64 b, .agg #[.int .i64 (S0 : Int), .int .i64 (F0 : Int), .int .i64 o, .slice A js.length c]] w fun e w' => e = .returned (.int .i64 (V K a b).1) ∧ Below w.heap.size w w' := fun K a b hc ht A c w hj => by
    have h := pzValue_any (S0 : Int) (F0 : Int) o A c js K a b 0 R P w hj hp.1 hp.2.2 hR hP hc
    have e : mdV (toldV (S0 : Int) o js R.1 (selL P ((S0 : Int).toNat + 1)).length K a b) = (V K a b).1 := by rw [hV] at ht ⊢; dsimp only at ht ⊢; rw [mdV, ht]; rfl
    rwa [e] at h
  have hi : ∀ K a b, clB (S0 : Int) (F0 : Int) K a b 0 = true → ∀ (A : Option Addr) (c : Nat) (w : World), RJ w w.heap.size A js → Calls Try.prog 91 #[.agg #[.int .i64 (S0 : Int), .int .i64 (F0 : Int), .int .i64 o, .slice A js.length c], .agg #[.int .i64 K, .int .i64 a, .int .i64 b, .int .i64 0]] w fun e w' => e = .returned (.tuple #[.int .i64 (V K a b).1, .bool (V K a b).2]) ∧ Below w.heap.size w w' := fun K a b hc A c w hj =>
    toldBy_any (S0 : Int) (F0 : Int) o A c js K a b 0 R P (V K a b) w hj hp.1 hR hP hc (by rw [hV])
  have b1 := Nat.mod_lt y (show 0 < S0 by omega)
  have b2 := Nat.mod_lt y (show 0 < F0 by omega)
  have b3 := Nat.mod_lt y (show 0 < 8 by omega)
  have hplain : ∀ K : Int, (K = 0 ∨ K = 2 ∨ K = 3) → (k : Int) = K → ∃ q, MadeIs (((S0 : Int), (F0 : Int), o), js) k y q := fun K hK e => by
    have hc : clB (S0 : Int) (F0 : Int) K 0 0 0 = true := clB_mk (by omega) (by rcases hK with rfl | rfl | rfl <;> simp [moA]) (by rcases hK with rfl | rfl | rfl <;> simp [leB, moB]) (by rcases hK with rfl | rfl | rfl <;> simp [moC])
    have ht : (V K 0 0).2 = true := by rw [hV]; rcases hK with rfl | rfl | rfl <;> simp [toldV]
    refine ⟨(K, 0, 0, (V K 0 0).1), fun A c w hj => ?_, fun A c w hj => ?_⟩
    · rw [e]; exact pzOf_plain S0 F0 y o A c js _ K w hj hS hF hy (by omega) (by omega) (by omega) (fun w hj => hs K 0 0 hc ht A c w hj)
    · rw [e]; exact madeClue_plain S0 F0 y o A c js _ _ K w hj hS hF hy (by omega) (by omega) (by omega) (fun w hj => hi K 0 0 hc A c w hj)
  rcases (show k = 0 ∨ k = 1 ∨ k = 2 ∨ k = 3 ∨ k = 4 ∨ k = 5 by omega) with rfl | rfl | rfl | rfl | rfl | rfl
  · exact hplain 0 (.inl rfl) rfl
  · have hj0 := jcnt_on hp.1 (a := ((y % S0 : Nat) : Int)) (by omega) (by omega)
    cases ho : onSq (S0 : Int) js ((y % S0 : Nat) : Int)
    · have hpos : (0 : Int) < jcnt js ((y % S0 : Nat) : Int) := by rw [ho] at hj0; simpa using hj0.symm
      have hc : clB (S0 : Int) (F0 : Int) 4 ((y % S0 : Nat) : Int) 0 0 = true := clB_mk (by omega) (by simp [moA]; omega) (by simp [leB, moB]) (by simp [moC])
      have ht : (V 4 ((y % S0 : Nat) : Int) 0).2 = true := by rw [hV]; simp [toldV]
      exact ⟨(4, ((y % S0 : Nat) : Int), 0, (V 4 ((y % S0 : Nat) : Int) 0).1), fun A c w hj => pzOf_1j S0 F0 y o A c js _ w hj hS hF hy ho (fun w hj => hs _ _ _ hc ht A c w hj), fun A c w hj => madeClue_1j S0 F0 y o A c js _ _ w hj hS hF hy hpos (fun w hj => hi _ _ _ hc A c w hj)⟩
    · have hpos : ¬ (0 : Int) < jcnt js ((y % S0 : Nat) : Int) := by rw [ho] at hj0; simpa using hj0.symm
      have hc : clB (S0 : Int) (F0 : Int) 1 ((y % S0 : Nat) : Int) (((y % F0 : Nat) : Int) + 1) 0 = true := clB_mk (by omega) (by simp [moA]; omega) (by simp [leB, moB]; omega) (by simp [moC])
      have ht : (V 1 ((y % S0 : Nat) : Int) (((y % F0 : Nat) : Int) + 1)).2 = true := by rw [hV]; show (toldV _ _ _ _ _ _ _ _).2 = true; rw [toldV, if_neg (by decide), if_pos rfl, if_pos ho]
      exact ⟨(1, ((y % S0 : Nat) : Int), ((y % F0 : Nat) : Int) + 1, (V 1 ((y % S0 : Nat) : Int) (((y % F0 : Nat) : Int) + 1)).1), fun A c w hj => pzOf_1 S0 F0 y o A c js _ w hj hS hF hy ho (fun w hj => hs _ _ _ hc ht A c w hj), fun A c w hj => madeClue_1 S0 F0 y o A c js _ _ w hj hS hF hy hpos (fun w hj => hi _ _ _ hc A c w hj)⟩
  · exact hplain 2 (.inr (.inl rfl)) rfl
  · exact hplain 3 (.inr (.inr rfl)) rfl
  · have hc : clB (S0 : Int) (F0 : Int) 4 ((y % S0 : Nat) : Int) 0 0 = true := clB_mk (by omega) (by simp [moA]; omega) (by simp [leB, moB]) (by simp [moC])
    have ht : (V 4 ((y % S0 : Nat) : Int) 0).2 = true := by rw [hV]; simp [toldV]
    refine ⟨(4, ((y % S0 : Nat) : Int), 0, (V 4 ((y % S0 : Nat) : Int) 0).1), fun A c w hj => ?_, fun A c w hj => madeClue_4 S0 F0 y o A c js _ _ w hj hS hF hy (fun w hj => hi _ _ _ hc A c w hj)⟩
    cases ho : onSq (S0 : Int) js ((y % S0 : Nat) : Int)
    · exact pzOf_4j S0 F0 y o A c js _ w hj hS hF hy ho (fun w hj => hs _ _ _ hc ht A c w hj)
    · exact pzOf_4 S0 F0 y o A c js _ w hj hS hF hy ho (fun w hj => hs _ _ _ hc ht A c w hj)
  · have hc : clB (S0 : Int) (F0 : Int) 5 ((y % 8 : Nat) : Int) (((y % F0 : Nat) : Int) + 1) 0 = true := clB_mk (by omega) (by simp [moA]; omega) (by simp [leB, moB]; omega) (by simp [moC])
    have ht : (V 5 ((y % 8 : Nat) : Int) (((y % F0 : Nat) : Int) + 1)).2 = true := by rw [hV]; simp [toldV]
    exact ⟨(5, ((y % 8 : Nat) : Int), ((y % F0 : Nat) : Int) + 1, (V 5 ((y % 8 : Nat) : Int) (((y % F0 : Nat) : Int) + 1)).1), fun A c w hj => pzOf_5 S0 F0 y o A c js _ w hj hS hF hy (fun w hj => hs _ _ _ hc ht A c w hj), fun A c w hj => madeClue_5 S0 F0 y o A c js _ _ w hj hS hF hy (fun w hj => hi _ _ _ hc A c w hj)⟩
open Classical in
/-- The clue that is made. -/
noncomputable def mkC (x : ((Int × Int × Int) × List (Int × Int))) (k y : Nat) : Qd := if h : ∃ q, MadeIs x k y q then Classical.choose h else zeroQ
theorem mkC_is {s f o : Int} {js : List (Int × Int)} (hh : hidB s f o js = true) {k y : Nat} (hk : k ≤ 5) (hy : y ≤ 10006) : MadeIs ((s, f, o), js) k y (mkC ((s, f, o), js) k y) := by
  have h := made_ex hh hk hy
  rw [mkC, dif_pos h]
  exact Classical.choose_spec h
/-- The clues that are made from a number on. -/
noncomputable def madeL (x : ((Int × Int × Int) × List (Int × Int))) : Nat → Nat → List Qd
  | 0, _ => []
  | n + 1, z => mkC x (nxZ z % 6) (nxZ (nxZ z)) :: madeL x n (nxZ (nxZ z))
theorem madeL_len (x : ((Int × Int × Int) × List (Int × Int))) : ∀ n z, (madeL x n z).length = n
  | 0, _ => rfl
  | n + 1, z => by rw [madeL, List.length_cons, madeL_len x n]
noncomputable def makeR (s f o : Int) (js : List (Int × Int)) (n z : Int) : (Int × Int × List Qd) × Bool := if hidB s f o js && inB n 0 6 && inB z 0 9999 then ((s, f, madeL ((s, f, o), js) n.toNat z.toNat), true) else noPz
theorem makeR_len {s f o : Int} {js : List (Int × Int)} {n z : Int} : (makeR s f o js n z).1.2.2.length ≤ 1048576 := by
  unfold makeR
  split
  · rename_i h
    rw [Bool.and_eq_true, Bool.and_eq_true, inB_iff] at h
    rw [madeL_len]; omega
  · simp [noPz]

theorem cells4_new (w : World) (t : TypeId) (q : Qd) (g : Nat) (hg : g = w.heap.size) : ∀ (j : Nat) u, (cells4 q)[j]? = some u → (w.alloc (.cells #[.int .i64 q.1, .int .i64 q.2.1, .int .i64 q.2.2.1, .int .i64 q.2.2.2] t)).cell? ((⟨g, 0, none⟩ : Addr).add j) = some u := by
  intro j u hu
  rw [Addr.add_lit, Nat.zero_add, cell_of_row _ g j _ _ _ (heap_alloc_at w _ g hg)]
  simpa [cells4] using hu
theorem cells4_one (q : Qd) : ∀ u ∈ cells4 q, u.oneCell' = true := by
  intro u hu
  simp only [cells4, List.mem_cons, List.not_mem_nil, or_false] at hu
  rcases hu with rfl | rfl | rfl | rfl <;> rfl
theorem own_setP {w : World} {base e size n : Nat} {v : Value} {xs : List Value} (h : w.ownsRow base e size v n xs) (p : Addr) (u : Value) (hne : ∀ g, v.ownBlock = some g → g ≠ p.block) : (w.setCell p u).ownsRow base e size v n xs := by
  obtain ⟨h0, h | ⟨g, cap, cs, rfl, hg, hh, r⟩⟩ := h
  · exact ⟨h0, .inl h⟩
  · exact ⟨h0, .inr ⟨g, cap, cs, rfl, hg, (Below.heap_setCell _ _ _ _ (hne g rfl)).trans hh, r⟩⟩
theorem flatQ_snoc (C : List Qd) (q : Qd) : flatQ (C ++ [q]) = flatQ C ++ cells4 q := by simp [flatQ]

set_option maxRecDepth 100000 in
set_option maxHeartbeats 1000000 in
theorem specMake_no (s f o n z : Int) (A : Option Addr) (c : Nat) (js : List (Int × Int)) (w : World) (hj : RJ w w.heap.size A js) (h : (hidB s f o js && inB n 0 6 && inB z 0 9999) = false) : Calls Try.prog 12 #[.agg #[.int .i64 s, .int .i64 f, .int .i64 o, .slice A js.length c], .int .i64 n, .int .i64 z] w (PzBack w.heap.size w noPz) := by
  have hl := hj.1
  obtain ⟨h1, hh1⟩ : ∃ h1, h1 = hidB s f o js := ⟨_, rfl⟩
  obtain ⟨h2, hh2⟩ : ∃ h2, h2 = inB n 0 6 := ⟨_, rfl⟩
  obtain ⟨h3, hh3⟩ : ∃ h3, h3 = inB z 0 9999 := ⟨_, rfl⟩
  rw [← hh1, ← hh2, ← hh3] at h
  have H1 := Lib.hid hh1; have H2 := Lib.hid hh2; have H3 := Lib.hid hh3
  clear hh1 hh2 hh3
  go_enter Try.func12, Try.ntmps12
  go_wp2_with fail
  refine (pzHidden_any s f o A c js _ (hj.go (below2 w _ _))).mono ?_
  rintro e w2 ⟨rfl, hx⟩
  simp only [World.size_alloc] at hx
  have k2 := (hx.block (w.heap.size + 1) (by omega)).trans (heap_alloc_at _ (.cells #[.int .i64 0, .int .i64 0, .slice none 0 0] 28) _ (by simp))
  have q2 := fun i => cell_of_row w2 (w.heap.size + 1) i _ _ _ k2
  have z2 := fun i => frozen_row (i := i) k2
  have hb2 : Below w.heap.size w w2 := (below2 w _ _).trans (hx.mono (by omega))
  rw [← H1.out]
  cases h1
  · go_wp2
    exact bodyPost_ret (v := .tuple #[.agg #[.int .i64 0, .int .i64 0, .slice none 0 0], .bool false]) (by simp [results, Try.results12, go_sem, q2]) rfl (noPz_back w _ (((hb2.setCell (by simp) _).setCell (by simp) _).setCell (by simp) _))
  · go_wp2_with fail
    refine (l1In9_any _ _ _ _).mono ?_
    rintro e w3 ⟨rfl, rfl⟩
    rw [← H2.out]
    cases h2
    · go_wp2
      exact bodyPost_ret (v := .tuple #[.agg #[.int .i64 0, .int .i64 0, .slice none 0 0], .bool false]) (by simp [results, Try.results12, go_sem, q2]) rfl (noPz_back w _ (((hb2.setCell (by simp) _).setCell (by simp) _).setCell (by simp) _))
    · obtain rfl : h3 = false := by simpa using h
      go_wp2_with fail
      refine (l1In9_any _ _ _ _).mono ?_
      rintro e w3 ⟨rfl, rfl⟩
      rw [← H3.out]
      go_wp2
      exact bodyPost_ret (v := .tuple #[.agg #[.int .i64 0, .int .i64 0, .slice none 0 0], .bool false]) (by simp [results, Try.results12, go_sem, q2]) rfl (noPz_back w _ (((hb2.setCell (by simp) _).setCell (by simp) _).setCell (by simp) _))

set_option maxRecDepth 100000 in
set_option maxHeartbeats 2000000 in
theorem specMake_yes (s f o : Int) (n z0 : Nat) (A : Option Addr) (c : Nat) (js : List (Int × Int)) (T : List Qd) (w : World) (hj : RJ w w.heap.size A js) (hh : hidB s f o js = true) (hn : n ≤ 6) (hz : z0 ≤ 9999) (hT : T = madeL ((s, f, o), js) n z0) : Calls Try.prog 12 #[.agg #[.int .i64 s, .int .i64 f, .int .i64 o, .slice A js.length c], .int .i64 (n : Int), .int .i64 (z0 : Int)] w (PzBack w.heap.size w ((s, f, T), true)) := by
  have hl := hj.1
  obtain ⟨i0, hi, hz0, hz1, hz2⟩ := info_parts infoClueW
  have h2 : inB (n : Int) 0 6 = true := inB_iff.2 ⟨by omega, by omega⟩
  have h3 : inB (z0 : Int) 0 9999 = true := inB_iff.2 ⟨by omega, by omega⟩
  have H1 := Lib.hid hh; have H2 := Lib.hid h2; have H3 := Lib.hid h3; have HT := Lib.hid hT
  clear hh h2 h3 hT
  go_enter Try.func12, Try.ntmps12
  go_wp2_with fail
  refine (pzHidden_any s f o A c js _ (hj.go (below2 w _ _))).mono ?_
  rintro e w2 ⟨rfl, hx⟩
  simp only [World.size_alloc] at hx
  have k1 := (hx.block w.heap.size (by omega)).trans ((Below.heap_alloc _ _ _ (by simp)).trans (heap_alloc_at w (.cells #[.int .i64 s, .int .i64 f, .int .i64 o, .slice A js.length c] 33) _ rfl))
  have k2 := (hx.block (w.heap.size + 1) (by omega)).trans (heap_alloc_at _ (.cells #[.int .i64 0, .int .i64 0, .slice none 0 0] 28) _ (by simp))
  have q1 := fun i => cell_of_row w2 w.heap.size i _ _ _ k1
  have hb2 : Below w.heap.size w w2 := (below2 w _ _).trans (hx.mono (by omega))
  have hs2 : w.heap.size + 1 < w2.heap.size := heap_lt k2
  rw [H1.out]
  go_wp2_with fail
  refine (l1In9_any _ _ _ _).mono ?_
  rintro e w3 ⟨rfl, rfl⟩
  rw [H2.out]
  go_wp2_with fail
  refine (l1In9_any _ _ _ _).mono ?_
  rintro e w3 ⟨rfl, rfl⟩
  rw [H3.out]
  go_wp2
  obtain ⟨pb, hpb⟩ : ∃ pb, pb = w2.heap.size := ⟨_, rfl⟩
  obtain ⟨w4, hw4⟩ : ∃ w4, w4 = w2.alloc (.cells #[.int .i64 s, .int .i64 f, .slice none 0 0] 28) := ⟨_, rfl⟩
  have kp4 : w4.heap[pb]? = some (.cells #[.int .i64 s, .int .i64 f, .slice none 0 0] 28 (0, 0)) := by rw [hw4]; exact heap_alloc_at w2 _ _ hpb
  have hb4 : Below pb w2 w4 := by rw [hw4, hpb]; exact below1 w2 _
  have hs4 : w4.heap.size = pb + 1 := by rw [hw4, hpb]; simp
  rw [← hw4, ← hpb]
  have HPB := Lib.hid hpb; have HK1 := Lib.hid k1; have HK2 := Lib.hid k2
  rw [← hpb] at hs2
  have hb2p : w.heap.size ≤ pb := by omega
  clear hw4 hpb k1 k2 q1 hx
  go_loopw [1, 9] (fun a b wr => ∃ (r z : Nat) (C : List Qd) (v : Value), a = .int .i64 (r : Int) ∧ b = .int .i64 (z : Int) ∧ z ≤ 10006 ∧ C.length + r ≤ 6 ∧ Below pb w2 wr ∧ pb < wr.heap.size ∧ wr.heap[pb]? = some (.cells #[.int .i64 s, .int .i64 f, v] 28 (0, 0)) ∧ wr.ownsRow (pb + 1) 44 4 v C.length (flatQ C) ∧ Hid (C ++ madeL ((s, f, o), js) r z = T)) (fun a _ _ => (intOf a).toNat)
  case atStart => exact ⟨n, z0, [], _, rfl, rfl, by omega, by simpa using hn, hb4, by omega, kp4, World.ownsRow_nil _ _ _ _, Lib.hid HT.out.symm⟩
  case round =>
    clear kp4 hb4 hs4
    obtain ⟨r, z, C, v, rfl, rfl, hz6, hCr, hb, hsr, kp, hown, hH⟩ := hrel
    have kb := (hb.block w.heap.size (by omega)).trans HK1.out
    have hbw : Below w.heap.size w wr := hb2.trans (hb.mono hb2p)
    have hne : ∀ g, v.ownBlock = some g → pb + 1 ≤ g := own_from hown
    have qp := fun i => cell_of_row wr pb i _ _ _ kp
    by_cases hlt : 0 < r
    · have hc1 : (0 : Int) < (r : Int) := by omega
      obtain ⟨r', rfl⟩ : ∃ r', r = r' + 1 := ⟨r - 1, by omega⟩
      have hst := hH.out
      rw [madeL] at hst
      have n1 := nxZ_lt z
      have n2 := nxZ_lt (nxZ z)
      have m6 : ((nxZ z : Nat) : Int).tmod 6 = ((nxZ z % 6 : Nat) : Int) := Int.ofNat_tmod (nxZ z) 6
      have hMk := mkC_is H1.out (show nxZ z % 6 ≤ 5 by omega) (show nxZ (nxZ z) ≤ 10006 by omega)
      obtain ⟨q, hq⟩ : ∃ q, q = mkC ((s, f, o), js) (nxZ z % 6) (nxZ (nxZ z)) := ⟨_, rfl⟩
      rw [← hq] at hst hMk
      obtain ⟨k6, hk6⟩ : ∃ k6, k6 = nxZ z % 6 := ⟨_, rfl⟩
      obtain ⟨zz, hzz⟩ : ∃ zz, zz = nxZ (nxZ z) := ⟨_, rfl⟩
      rw [← hk6] at m6 hMk
      rw [← hzz] at hMk hst n2
      have HST := Lib.hid hst; have HMK := Lib.hid hMk; have HZZ := Lib.hid hzz
      clear hst hMk hq hk6 hzz
      go_wp2_with fail
      refine (pzNext_any z hz6 _).mono ?_
      rintro e w3 ⟨rfl, rfl⟩
      go_wp2_with fail
      refine (pzNext_any (nxZ z) (by omega) _).mono ?_
      rintro e w3 ⟨rfl, rfl⟩
      rw [← HZZ.out]
      go_wp2
      refine wp_region_held_drew (S := (fun w' => w'.heap[w.heap.size]? = some (.cells #[.int .i64 s, .int .i64 f, .int .i64 o, .slice A js.length c] 33 (0, 0)))) (by kernel_rfl) kb (fun hS => ?_)
      refine wpAnyH_take (i := 4) (oi := ⟨some 45, _, _, _, _, _⟩) rfl (by kernel_rfl) (by kernel_rfl) (by kernel_rfl) (fun _ _ _ h => h) (yields_load_row rfl 33 (.tmp 3) rfl w.heap.size rfl _ _ _ _ (fun _ h => h) Try.underlying33 rfl sizeBoard9) hS ?_
      try simp only [Act.put, List.setIfInBounds_toArray, List.set_cons_zero, List.set_cons_succ]
      refine wpAnyH_take (i := 0) (oi := ⟨some 41, _, _, _, _, _⟩) (v := ?vma1) rfl (by kernel_rfl) (by kernel_rfl) (by kernel_rfl) (fun _ _ _ h => h) (Or.inl ⟨by rfl, ?hma1⟩) hS ?rma1
      case hma1 => (intro w' hSw; (try dsimp only at hSw); go_simp; (try with_reducible rfl))
      try simp only [Act.put, List.setIfInBounds_toArray, List.set_cons_zero, List.set_cons_succ]
      refine wpAnyH_take (i := 2) (oi := ⟨some 43, _, _, _, _, _⟩) (v := ?vma2) rfl (by kernel_rfl) (by kernel_rfl) (by kernel_rfl) (fun _ _ _ h => h) (Or.inl ⟨by rfl, ?hma2⟩) hS ?rma2
      case hma2 => (intro w' hSw; (try dsimp only at hSw); go_simp; (try with_reducible rfl))
      try simp only [Act.put, List.setIfInBounds_toArray, List.set_cons_zero, List.set_cons_succ]
      refine wpAnyH_take (i := 3) (oi := ⟨some 44, _, _, _, _, _⟩) (v := ?vma3) rfl (by kernel_rfl) (by kernel_rfl) (by kernel_rfl) (fun _ _ _ h => h) (Or.inl ⟨by rfl, ?hma3⟩) hS ?rma3
      case hma3 => (intro w' hSw; (try dsimp only at hSw); go_simp; (try with_reducible rfl))
      try simp only [Act.put, List.setIfInBounds_toArray, List.set_cons_zero, List.set_cons_succ]
      refine wpAnyH_ready (rs := [1, 5]) (by kernel_rfl) (by simp) ?_
      refine AllReadyH.cons (o := ⟨some 42, _, _, _, _, _⟩) rfl (fun K' hK' => ?_) (AllReadyH.cons (o := ⟨some 46, _, _, _, _, _⟩) rfl (fun K' hK' => ?_) AllReadyH.nil)
      focus
        go_simp
        refine hK'.out _ _ hS (fun _ => ?_)
        clear hK' K'
        try simp only [Act.put, List.setIfInBounds_toArray, List.set_cons_zero, List.set_cons_succ]
        refine wpAnyH_ready (rs := [5]) (by kernel_rfl) (by simp) ?_
        refine AllReadyH.cons (o := ⟨some 46, _, _, _, _, _⟩) rfl (fun K' hK' => ?_) AllReadyH.nil
        go_simp
        go_at_call 52
        refine (HMK.out.1 A c wr.drew (hj.go hbw.drew)).mono ?_
        rintro e w5 ⟨rfl, hx5⟩
        replace hx5 : Below wr.heap.size wr w5 := (Below.refl _ wr).drew.trans (hx5.mono (Nat.le_refl _))
        have kb5 := (hx5.block _ (heap_lt kb)).trans kb
        have kp5 := (hx5.block _ (heap_lt kp)).trans kp
        have qp5 := fun i => cell_of_row w5 pb i _ _ _ kp5
        have hpb5 : pb < w5.heap.size := heap_lt kp5
        have own5 := own_below hown hx5
        refine hK'.out _ _ kb5 (fun _ => ?_)
        clear hK' K'
        try simp only [Act.put, List.setIfInBounds_toArray, List.set_cons_zero, List.set_cons_succ]
        refine wpAnyH_ready (rs := [6]) (by kernel_rfl) (by simp) ?_
        refine AllReadyH.cons (o := ⟨some 47, _, _, _, _, _⟩) rfl (fun K' hK' => ?_) AllReadyH.nil
        go_simp
        have kb6 := (Below.heap_alloc w5 (.cells (cells4 q).toArray 44) _ (heap_lt kb5)).trans kb5
        refine hK'.out _ _ kb6 (fun _ => ?_)
        clear hK' K'
        try simp only [Act.put, List.setIfInBounds_toArray, List.set_cons_zero, List.set_cons_succ]
        refine wpAnyH_ready (rs := [7]) (by kernel_rfl) (by simp) ?_
        refine AllReadyH.cons (o := ⟨some 48, _, _, _, _, _⟩) rfl (fun K' hK' => ?_) AllReadyH.nil
        rw [if_pos (wanted_plain rfl)]
        refine wp_append_own _ _ _ 26 rfl (pb + 1) 44 i0 (.agg #[.int .i64 0, .int .i64 0, .int .i64 0, .int .i64 0]) 4 32 Try.underlying26 hi hz0 hz1 hz2 rfl (by decide) _ _ _ rfl (own5.alloc _) ⟨w5.heap.size, 0, none⟩ 1 1 (cells4 q) rfl rfl (cells4_new w5 44 q _ rfl) (cells4_one q) (by unfold maxLen; omega) (by omega) (by simp; omega) ?_
        intro v1 w8 hown8 hg8 _
        obtain ⟨A1, c1, rfl, _⟩ := own_sliceQ hown8
        have hnp : some pb ≠ v.ownBlock := fun e => by have := hne pb e.symm; omega
        have hnb : some w.heap.size ≠ v.ownBlock := fun e => by have := hne w.heap.size e.symm; omega
        have kb8 := (hg8.block w.heap.size (by have := heap_lt kb6; simpa using this) hnb).trans kb6
        have kp8 := (hg8.block pb (by simp; omega) hnp).trans ((Below.heap_alloc w5 (.cells (cells4 q).toArray 44) _ hpb5).trans kp5)
        have qp8 := fun i => cell_of_row w8 pb i _ _ _ kp8
        have zp8 := fun i => frozen_row (i := i) kp8
        have hb8 : Below pb w2 w8 := ((hb.trans (hx5.mono (by omega))).alloc (by omega) _).grown hg8 (by simp; omega) (fun g hg => by have := hne g hg; omega)
        have hs8 := hg8.size
        refine hK'.out _ _ kb8 (fun _ => ?_)
        clear hK' K'
        try simp only [Act.put, List.setIfInBounds_toArray, List.set_cons_zero, List.set_cons_succ]
        refine wpAnyH_take (i := 8) (oi := ⟨some 49, _, _, _, _, _⟩) (v := ?vma4) rfl (by kernel_rfl) (by kernel_rfl) (by kernel_rfl) (fun _ _ _ h => h) (Or.inl ⟨by rfl, ?hma4⟩) kb8 ?rma4
        case hma4 => (intro w' hSw; (try dsimp only at hSw); go_simp; (try with_reducible rfl))
        try simp only [Act.put, List.setIfInBounds_toArray, List.set_cons_zero, List.set_cons_succ]
        refine wpAnyH_ready (rs := [9]) (by kernel_rfl) (by simp) ?_
        refine AllReadyH.cons (o := ⟨none, _, _, _, _, _⟩) rfl (fun K' hK' => ?_) AllReadyH.nil
        go_simp
        refine hK'.out _ _ ((Below.heap_setCell w8 ⟨pb, 2, none⟩ (.slice A1 (C.length + 1) c1) _ (by dsimp only; omega)).trans kb8) (fun _ => ?_)
        clear hK' K'
        try simp only [Act.put, List.setIfInBounds_toArray, List.set_cons_zero, List.set_cons_succ]
        refine wpAnyH_done (by kernel_rfl) ?_ _
      rotate_left 1
      focus
        go_simp
        go_at_call 52
        refine (HMK.out.1 A c wr.drew (hj.go hbw.drew)).mono ?_
        rintro e w5 ⟨rfl, hx5⟩
        replace hx5 : Below wr.heap.size wr w5 := (Below.refl _ wr).drew.trans (hx5.mono (Nat.le_refl _))
        have kb5 := (hx5.block _ (heap_lt kb)).trans kb
        have kp5 := (hx5.block _ (heap_lt kp)).trans kp
        have qp5 := fun i => cell_of_row w5 pb i _ _ _ kp5
        have hpb5 : pb < w5.heap.size := heap_lt kp5
        have own5 := own_below hown hx5
        refine hK'.out _ _ kb5 (fun _ => ?_)
        clear hK' K'
        try simp only [Act.put, List.setIfInBounds_toArray, List.set_cons_zero, List.set_cons_succ]
        refine wpAnyH_ready (rs := [1, 6]) (by kernel_rfl) (by simp) ?_
        refine AllReadyH.cons (o := ⟨some 42, _, _, _, _, _⟩) rfl (fun K' hK' => ?_) (AllReadyH.cons (o := ⟨some 47, _, _, _, _, _⟩) rfl (fun K' hK' => ?_) AllReadyH.nil)
        focus
          go_simp
          refine hK'.out _ _ kb5 (fun _ => ?_)
          clear hK' K'
          try simp only [Act.put, List.setIfInBounds_toArray, List.set_cons_zero, List.set_cons_succ]
          refine wpAnyH_ready (rs := [6]) (by kernel_rfl) (by simp) ?_
          refine AllReadyH.cons (o := ⟨some 47, _, _, _, _, _⟩) rfl (fun K' hK' => ?_) AllReadyH.nil
          go_simp
          have kb6 := (Below.heap_alloc w5 (.cells (cells4 q).toArray 44) _ (heap_lt kb5)).trans kb5
          refine hK'.out _ _ kb6 (fun _ => ?_)
          clear hK' K'
          try simp only [Act.put, List.setIfInBounds_toArray, List.set_cons_zero, List.set_cons_succ]
          refine wpAnyH_ready (rs := [7]) (by kernel_rfl) (by simp) ?_
          refine AllReadyH.cons (o := ⟨some 48, _, _, _, _, _⟩) rfl (fun K' hK' => ?_) AllReadyH.nil
          rw [if_pos (wanted_plain rfl)]
          refine wp_append_own _ _ _ 26 rfl (pb + 1) 44 i0 (.agg #[.int .i64 0, .int .i64 0, .int .i64 0, .int .i64 0]) 4 32 Try.underlying26 hi hz0 hz1 hz2 rfl (by decide) _ _ _ rfl (own5.alloc _) ⟨w5.heap.size, 0, none⟩ 1 1 (cells4 q) rfl rfl (cells4_new w5 44 q _ rfl) (cells4_one q) (by unfold maxLen; omega) (by omega) (by simp; omega) ?_
          intro v1 w8 hown8 hg8 _
          obtain ⟨A1, c1, rfl, _⟩ := own_sliceQ hown8
          have hnp : some pb ≠ v.ownBlock := fun e => by have := hne pb e.symm; omega
          have hnb : some w.heap.size ≠ v.ownBlock := fun e => by have := hne w.heap.size e.symm; omega
          have kb8 := (hg8.block w.heap.size (by have := heap_lt kb6; simpa using this) hnb).trans kb6
          have kp8 := (hg8.block pb (by simp; omega) hnp).trans ((Below.heap_alloc w5 (.cells (cells4 q).toArray 44) _ hpb5).trans kp5)
          have qp8 := fun i => cell_of_row w8 pb i _ _ _ kp8
          have zp8 := fun i => frozen_row (i := i) kp8
          have hb8 : Below pb w2 w8 := ((hb.trans (hx5.mono (by omega))).alloc (by omega) _).grown hg8 (by simp; omega) (fun g hg => by have := hne g hg; omega)
          have hs8 := hg8.size
          refine hK'.out _ _ kb8 (fun _ => ?_)
          clear hK' K'
          try simp only [Act.put, List.setIfInBounds_toArray, List.set_cons_zero, List.set_cons_succ]
          refine wpAnyH_take (i := 8) (oi := ⟨some 49, _, _, _, _, _⟩) (v := ?vma5) rfl (by kernel_rfl) (by kernel_rfl) (by kernel_rfl) (fun _ _ _ h => h) (Or.inl ⟨by rfl, ?hma5⟩) kb8 ?rma5
          case hma5 => (intro w' hSw; (try dsimp only at hSw); go_simp; (try with_reducible rfl))
          try simp only [Act.put, List.setIfInBounds_toArray, List.set_cons_zero, List.set_cons_succ]
          refine wpAnyH_ready (rs := [9]) (by kernel_rfl) (by simp) ?_
          refine AllReadyH.cons (o := ⟨none, _, _, _, _, _⟩) rfl (fun K' hK' => ?_) AllReadyH.nil
          go_simp
          refine hK'.out _ _ ((Below.heap_setCell w8 ⟨pb, 2, none⟩ (.slice A1 (C.length + 1) c1) _ (by dsimp only; omega)).trans kb8) (fun _ => ?_)
          clear hK' K'
          try simp only [Act.put, List.setIfInBounds_toArray, List.set_cons_zero, List.set_cons_succ]
          refine wpAnyH_done (by kernel_rfl) ?_ _
        rotate_left 1
        focus
          go_simp
          have kb6 := (Below.heap_alloc w5 (.cells (cells4 q).toArray 44) _ (heap_lt kb5)).trans kb5
          refine hK'.out _ _ kb6 (fun _ => ?_)
          clear hK' K'
          try simp only [Act.put, List.setIfInBounds_toArray, List.set_cons_zero, List.set_cons_succ]
          refine wpAnyH_ready (rs := [1]) (by kernel_rfl) (by simp) ?_
          refine AllReadyH.cons (o := ⟨some 42, _, _, _, _, _⟩) rfl (fun K' hK' => ?_) AllReadyH.nil
          go_simp
          refine hK'.out _ _ kb6 (fun _ => ?_)
          clear hK' K'
          try simp only [Act.put, List.setIfInBounds_toArray, List.set_cons_zero, List.set_cons_succ]
          refine wpAnyH_ready (rs := [7]) (by kernel_rfl) (by simp) ?_
          refine AllReadyH.cons (o := ⟨some 48, _, _, _, _, _⟩) rfl (fun K' hK' => ?_) AllReadyH.nil
          rw [if_pos (wanted_plain rfl)]
          refine wp_append_own _ _ _ 26 rfl (pb + 1) 44 i0 (.agg #[.int .i64 0, .int .i64 0, .int .i64 0, .int .i64 0]) 4 32 Try.underlying26 hi hz0 hz1 hz2 rfl (by decide) _ _ _ rfl (own5.alloc _) ⟨w5.heap.size, 0, none⟩ 1 1 (cells4 q) rfl rfl (cells4_new w5 44 q _ rfl) (cells4_one q) (by unfold maxLen; omega) (by omega) (by simp; omega) ?_
          intro v1 w8 hown8 hg8 _
          obtain ⟨A1, c1, rfl, _⟩ := own_sliceQ hown8
          have hnp : some pb ≠ v.ownBlock := fun e => by have := hne pb e.symm; omega
          have hnb : some w.heap.size ≠ v.ownBlock := fun e => by have := hne w.heap.size e.symm; omega
          have kb8 := (hg8.block w.heap.size (by have := heap_lt kb6; simpa using this) hnb).trans kb6
          have kp8 := (hg8.block pb (by simp; omega) hnp).trans ((Below.heap_alloc w5 (.cells (cells4 q).toArray 44) _ hpb5).trans kp5)
          have qp8 := fun i => cell_of_row w8 pb i _ _ _ kp8
          have zp8 := fun i => frozen_row (i := i) kp8
          have hb8 : Below pb w2 w8 := ((hb.trans (hx5.mono (by omega))).alloc (by omega) _).grown hg8 (by simp; omega) (fun g hg => by have := hne g hg; omega)
          have hs8 := hg8.size
          refine hK'.out _ _ kb8 (fun _ => ?_)
          clear hK' K'
          try simp only [Act.put, List.setIfInBounds_toArray, List.set_cons_zero, List.set_cons_succ]
          refine wpAnyH_take (i := 8) (oi := ⟨some 49, _, _, _, _, _⟩) (v := ?vma6) rfl (by kernel_rfl) (by kernel_rfl) (by kernel_rfl) (fun _ _ _ h => h) (Or.inl ⟨by rfl, ?hma6⟩) kb8 ?rma6
          case hma6 => (intro w' hSw; (try dsimp only at hSw); go_simp; (try with_reducible rfl))
          try simp only [Act.put, List.setIfInBounds_toArray, List.set_cons_zero, List.set_cons_succ]
          refine wpAnyH_ready (rs := [9]) (by kernel_rfl) (by simp) ?_
          refine AllReadyH.cons (o := ⟨none, _, _, _, _, _⟩) rfl (fun K' hK' => ?_) AllReadyH.nil
          go_simp
          refine hK'.out _ _ ((Below.heap_setCell w8 ⟨pb, 2, none⟩ (.slice A1 (C.length + 1) c1) _ (by dsimp only; omega)).trans kb8) (fun _ => ?_)
          clear hK' K'
          try simp only [Act.put, List.setIfInBounds_toArray, List.set_cons_zero, List.set_cons_succ]
          refine wpAnyH_done (by kernel_rfl) ?_ _
        rotate_left 1
      rotate_left 2
      all_goals
        have kp9 := heap_set w8 pb 2 _ _ (.slice A1 (C.length + 1) c1) kp8
        simp only [List.setIfInBounds_toArray, List.set_cons_zero, List.set_cons_succ] at kp9
        have hne8 : ∀ g, Value.ownBlock (.slice A1 (C.length + 1) c1) = some g → g ≠ pb := fun g hg => by have := own_from hown8 g hg; omega
        have hown9 := own_setP hown8 ⟨pb, 2, none⟩ (.slice A1 (C.length + 1) c1) hne8
        have hb9 := hb8.setCell (p := ⟨pb, 2, none⟩) (by dsimp only; omega) (.slice A1 (C.length + 1) c1)
        go_wp2
        go_roundw
        case rel => exact ⟨r', zz, C ++ [q], _, by go_num, rfl, by omega, by simp; omega, hb9, by have := heap_lt kp8; simpa using this, kp9, by rw [flatQ_snoc, List.length_append]; exact hown9, Lib.hid (by rw [List.append_assoc]; exact HST.out)⟩
        case measure => first | (simp [intOf]; done) | (simp [intOf]; omega)
    · have hc1 : ¬ (0 : Int) < (r : Int) := by omega
      obtain rfl : r = 0 := by omega
      have hCT : C = T := by have := hH.out; rwa [madeL, List.append_nil] at this
      subst hCT
      obtain ⟨A', c', rfl, hO⟩ := own_oq hown rfl
      have kr := (hb.block (w.heap.size + 1) (by omega)).trans HK2.out
      have qr := fun i => cell_of_row wr (w.heap.size + 1) i _ _ _ kr
      have zr := fun i => frozen_row (i := i) kr
      have hsw : w.heap.size + 1 < wr.heap.size := heap_lt kr
      have hpw : pb < wr.heap.size := heap_lt kp
      have HO := Lib.hid hO
      clear hO hown hne
      go_wp2
      exact bodyPost_ret (v := .tuple #[.agg #[.int .i64 s, .int .i64 f, .slice A' C.length c'], .bool true]) (by simp [results, Try.results12, go_sem, qr]) rfl
        ⟨A', c', rfl, (((HO.out.set (by dsimp only; omega) _).set (by dsimp only; omega) _).set (by dsimp only; omega) _).from_ (by omega), ((hbw.setCell (by simp) _).setCell (by simp) _).setCell (by simp) _⟩

set_option maxRecDepth 100000 in
set_option maxHeartbeats 1000000 in
theorem implMake_no (s f o n z : Int) (A : Option Addr) (c : Nat) (js : List (Int × Int)) (w : World) (hj : RJ w w.heap.size A js) (h : (hidB s f o js && inB n 0 6 && inB z 0 9999) = false) : Calls Try.prog 14 #[.agg #[.int .i64 s, .int .i64 f, .int .i64 o, .slice A js.length c], .int .i64 n, .int .i64 z] w (PzBack w.heap.size w noPz) := by
  have hl := hj.1
  obtain ⟨h1, hh1⟩ : ∃ h1, h1 = hidB s f o js := ⟨_, rfl⟩
  obtain ⟨h2, hh2⟩ : ∃ h2, h2 = inB n 0 6 := ⟨_, rfl⟩
  obtain ⟨h3, hh3⟩ : ∃ h3, h3 = inB z 0 9999 := ⟨_, rfl⟩
  rw [← hh1, ← hh2, ← hh3] at h
  have H1 := Lib.hid hh1; have H2 := Lib.hid hh2; have H3 := Lib.hid hh3
  clear hh1 hh2 hh3
  go_enter Try.func14, Try.ntmps14
  go_wp2_with fail
  refine (isHidden_any s f o A c js _ (hj.go (below2 w _ _))).mono ?_
  rintro e w2 ⟨rfl, hx⟩
  simp only [World.size_alloc] at hx
  have k2 := (hx.block (w.heap.size + 1) (by omega)).trans (heap_alloc_at _ (.cells #[.int .i64 0, .int .i64 0, .slice none 0 0] 28) _ (by simp))
  have q2 := fun i => cell_of_row w2 (w.heap.size + 1) i _ _ _ k2
  have z2 := fun i => frozen_row (i := i) k2
  have hb2 : Below w.heap.size w w2 := (below2 w _ _).trans (hx.mono (by omega))
  rw [← H1.out]
  cases h1
  · go_wp2
    exact bodyPost_ret (v := .tuple #[.agg #[.int .i64 0, .int .i64 0, .slice none 0 0], .bool false]) (by simp [results, Try.results14, go_sem, q2]) rfl (noPz_back w _ (((hb2.setCell (by simp) _).setCell (by simp) _).setCell (by simp) _))
  · go_wp2_with fail
    refine (isWithin9_any _ _ _ _).mono ?_
    rintro e w3 ⟨rfl, rfl⟩
    rw [← H2.out]
    cases h2
    · go_wp2
      exact bodyPost_ret (v := .tuple #[.agg #[.int .i64 0, .int .i64 0, .slice none 0 0], .bool false]) (by simp [results, Try.results14, go_sem, q2]) rfl (noPz_back w _ (((hb2.setCell (by simp) _).setCell (by simp) _).setCell (by simp) _))
    · obtain rfl : h3 = false := by simpa using h
      go_wp2_with fail
      refine (isWithin9_any _ _ _ _).mono ?_
      rintro e w3 ⟨rfl, rfl⟩
      rw [← H3.out]
      go_wp2
      exact bodyPost_ret (v := .tuple #[.agg #[.int .i64 0, .int .i64 0, .slice none 0 0], .bool false]) (by simp [results, Try.results14, go_sem, q2]) rfl (noPz_back w _ (((hb2.setCell (by simp) _).setCell (by simp) _).setCell (by simp) _))

set_option maxRecDepth 100000 in
set_option maxHeartbeats 2000000 in
theorem implMake_yes (s f o : Int) (n z0 : Nat) (A : Option Addr) (c : Nat) (js : List (Int × Int)) (T : List Qd) (w : World) (hj : RJ w w.heap.size A js) (hh : hidB s f o js = true) (hn : n ≤ 6) (hz : z0 ≤ 9999) (hT : T = madeL ((s, f, o), js) n z0) : Calls Try.prog 14 #[.agg #[.int .i64 s, .int .i64 f, .int .i64 o, .slice A js.length c], .int .i64 (n : Int), .int .i64 (z0 : Int)] w (PzBack w.heap.size w ((s, f, T), true)) := by
  have hl := hj.1
  obtain ⟨i0, hi, hz0, hz1, hz2⟩ := info_parts infoClueW
  have h2 : inB (n : Int) 0 6 = true := inB_iff.2 ⟨by omega, by omega⟩
  have h3 : inB (z0 : Int) 0 9999 = true := inB_iff.2 ⟨by omega, by omega⟩
  have H1 := Lib.hid hh; have H2 := Lib.hid h2; have H3 := Lib.hid h3; have HT := Lib.hid hT
  clear hh h2 h3 hT
  go_enter Try.func14, Try.ntmps14
  go_wp2_with fail
  refine (isHidden_any s f o A c js _ (hj.go (below2 w _ _))).mono ?_
  rintro e w2 ⟨rfl, hx⟩
  simp only [World.size_alloc] at hx
  have k1 := (hx.block w.heap.size (by omega)).trans ((Below.heap_alloc _ _ _ (by simp)).trans (heap_alloc_at w (.cells #[.int .i64 s, .int .i64 f, .int .i64 o, .slice A js.length c] 33) _ rfl))
  have k2 := (hx.block (w.heap.size + 1) (by omega)).trans (heap_alloc_at _ (.cells #[.int .i64 0, .int .i64 0, .slice none 0 0] 28) _ (by simp))
  have q1 := fun i => cell_of_row w2 w.heap.size i _ _ _ k1
  have hb2 : Below w.heap.size w w2 := (below2 w _ _).trans (hx.mono (by omega))
  have hs2 : w.heap.size + 1 < w2.heap.size := heap_lt k2
  rw [H1.out]
  go_wp2_with fail
  refine (isWithin9_any _ _ _ _).mono ?_
  rintro e w3 ⟨rfl, rfl⟩
  rw [H2.out]
  go_wp2_with fail
  refine (isWithin9_any _ _ _ _).mono ?_
  rintro e w3 ⟨rfl, rfl⟩
  rw [H3.out]
  go_wp2
  obtain ⟨pb, hpb⟩ : ∃ pb, pb = w2.heap.size := ⟨_, rfl⟩
  obtain ⟨w4, hw4⟩ : ∃ w4, w4 = w2.alloc (.cells #[.int .i64 s, .int .i64 f, .slice none 0 0] 28) := ⟨_, rfl⟩
  have kp4 : w4.heap[pb]? = some (.cells #[.int .i64 s, .int .i64 f, .slice none 0 0] 28 (0, 0)) := by rw [hw4]; exact heap_alloc_at w2 _ _ hpb
  have hb4 : Below pb w2 w4 := by rw [hw4, hpb]; exact below1 w2 _
  have hs4 : w4.heap.size = pb + 1 := by rw [hw4, hpb]; simp
  rw [← hw4, ← hpb]
  have HPB := Lib.hid hpb; have HK1 := Lib.hid k1; have HK2 := Lib.hid k2
  rw [← hpb] at hs2
  have hb2p : w.heap.size ≤ pb := by omega
  clear hw4 hpb k1 k2 q1 hx
  go_loopw [9, 32] (fun b a wr => ∃ (r z : Nat) (C : List Qd) (v : Value), (∃ i : Nat, a = .int .i64 (i : Int) ∧ i + r = n) ∧ b = .int .i64 (z : Int) ∧ z ≤ 10006 ∧ C.length + r ≤ 6 ∧ Below pb w2 wr ∧ pb < wr.heap.size ∧ wr.heap[pb]? = some (.cells #[.int .i64 s, .int .i64 f, v] 28 (0, 0)) ∧ wr.ownsRow (pb + 1) 44 4 v C.length (flatQ C) ∧ Hid (C ++ madeL ((s, f, o), js) r z = T)) (fun _ a _ => n - (intOf a).toNat)
  case atStart => exact ⟨n, z0, [], _, ⟨0, rfl, by omega⟩, rfl, by omega, by simpa using hn, hb4, by omega, kp4, World.ownsRow_nil _ _ _ _, Lib.hid HT.out.symm⟩
  case round =>
    clear kp4 hb4 hs4
    obtain ⟨r, z, C, v, ⟨i, rfl, hir⟩, rfl, hz6, hCr, hb, hsr, kp, hown, hH⟩ := hrel
    have kb := (hb.block w.heap.size (by omega)).trans HK1.out
    have hbw : Below w.heap.size w wr := hb2.trans (hb.mono hb2p)
    have hne : ∀ g, v.ownBlock = some g → pb + 1 ≤ g := own_from hown
    have qp := fun i => cell_of_row wr pb i _ _ _ kp
    by_cases hlt : i < n
    · have hc1 : (i : Int) < (n : Int) := by omega
      obtain ⟨r', rfl⟩ : ∃ r', r = r' + 1 := ⟨r - 1, by omega⟩
      have hst := hH.out
      rw [madeL] at hst
      have n1 := nxZ_lt z
      have n2 := nxZ_lt (nxZ z)
      have m6 : ((nxZ z : Nat) : Int).tmod 6 = ((nxZ z % 6 : Nat) : Int) := Int.ofNat_tmod (nxZ z) 6
      have hMk := mkC_is H1.out (show nxZ z % 6 ≤ 5 by omega) (show nxZ (nxZ z) ≤ 10006 by omega)
      obtain ⟨q, hq⟩ : ∃ q, q = mkC ((s, f, o), js) (nxZ z % 6) (nxZ (nxZ z)) := ⟨_, rfl⟩
      rw [← hq] at hst hMk
      obtain ⟨k6, hk6⟩ : ∃ k6, k6 = nxZ z % 6 := ⟨_, rfl⟩
      obtain ⟨zz, hzz⟩ : ∃ zz, zz = nxZ (nxZ z) := ⟨_, rfl⟩
      rw [← hk6] at m6 hMk
      rw [← hzz] at hMk hst n2
      have HST := Lib.hid hst; have HMK := Lib.hid hMk; have HZZ := Lib.hid hzz
      clear hst hMk hq hk6 hzz
      go_wp2_with fail
      refine (numberBehind_any z hz6 _).mono ?_
      rintro e w3 ⟨rfl, rfl⟩
      go_wp2_with fail
      refine (numberBehind_any (nxZ z) (by omega) _).mono ?_
      rintro e w3 ⟨rfl, rfl⟩
      rw [← HZZ.out]
      go_wp2
      refine wp_region_held_drew (S := (fun w' => w'.heap[w.heap.size]? = some (.cells #[.int .i64 s, .int .i64 f, .int .i64 o, .slice A js.length c] 33 (0, 0)))) (by kernel_rfl) kb (fun hS => ?_)
      refine wpAnyH_take (i := 2) (oi := ⟨some 42, _, _, _, _, _⟩) rfl (by kernel_rfl) (by kernel_rfl) (by kernel_rfl) (fun _ _ _ h => h) (yields_load_row rfl 33 (.tmp 3) rfl w.heap.size rfl _ _ _ _ (fun _ h => h) Try.underlying33 rfl sizeBoard9) hS ?_
      try simp only [Act.put, List.setIfInBounds_toArray, List.set_cons_zero, List.set_cons_succ]
      refine wpAnyH_take (i := 0) (oi := ⟨some 40, _, _, _, _, _⟩) (v := ?vmb1) rfl (by kernel_rfl) (by kernel_rfl) (by kernel_rfl) (fun _ _ _ h => h) (Or.inl ⟨by rfl, ?hmb1⟩) hS ?rmb1
      case hmb1 => (intro w' hSw; (try dsimp only at hSw); go_simp; (try with_reducible rfl))
      try simp only [Act.put, List.setIfInBounds_toArray, List.set_cons_zero, List.set_cons_succ]
      refine wpAnyH_take (i := 3) (oi := ⟨some 43, _, _, _, _, _⟩) (v := ?vmb2) rfl (by kernel_rfl) (by kernel_rfl) (by kernel_rfl) (fun _ _ _ h => h) (Or.inl ⟨by rfl, ?hmb2⟩) hS ?rmb2
      case hmb2 => (intro w' hSw; (try dsimp only at hSw); go_simp; (try with_reducible rfl))
      try simp only [Act.put, List.setIfInBounds_toArray, List.set_cons_zero, List.set_cons_succ]
      refine wpAnyH_take (i := 4) (oi := ⟨some 44, _, _, _, _, _⟩) (v := ?vmb3) rfl (by kernel_rfl) (by kernel_rfl) (by kernel_rfl) (fun _ _ _ h => h) (Or.inl ⟨by rfl, ?hmb3⟩) hS ?rmb3
      case hmb3 => (intro w' hSw; (try dsimp only at hSw); go_simp; (try with_reducible rfl))
      try simp only [Act.put, List.setIfInBounds_toArray, List.set_cons_zero, List.set_cons_succ]
      refine wpAnyH_ready (rs := [1, 5]) (by kernel_rfl) (by simp) ?_
      refine AllReadyH.cons (o := ⟨some 41, _, _, _, _, _⟩) rfl (fun K' hK' => ?_) (AllReadyH.cons (o := ⟨some 45, _, _, _, _, _⟩) rfl (fun K' hK' => ?_) AllReadyH.nil)
      focus
        go_simp
        refine hK'.out _ _ hS (fun _ => ?_)
        clear hK' K'
        try simp only [Act.put, List.setIfInBounds_toArray, List.set_cons_zero, List.set_cons_succ]
        refine wpAnyH_ready (rs := [5]) (by kernel_rfl) (by simp) ?_
        refine AllReadyH.cons (o := ⟨some 45, _, _, _, _, _⟩) rfl (fun K' hK' => ?_) AllReadyH.nil
        go_simp
        go_at_call 57
        refine (HMK.out.2 A c wr.drew (hj.go hbw.drew)).mono ?_
        rintro e w5 ⟨rfl, hx5⟩
        replace hx5 : Below wr.heap.size wr w5 := (Below.refl _ wr).drew.trans (hx5.mono (Nat.le_refl _))
        have kb5 := (hx5.block _ (heap_lt kb)).trans kb
        have kp5 := (hx5.block _ (heap_lt kp)).trans kp
        have qp5 := fun i => cell_of_row w5 pb i _ _ _ kp5
        have hpb5 : pb < w5.heap.size := heap_lt kp5
        have own5 := own_below hown hx5
        refine hK'.out _ _ kb5 (fun _ => ?_)
        clear hK' K'
        try simp only [Act.put, List.setIfInBounds_toArray, List.set_cons_zero, List.set_cons_succ]
        refine wpAnyH_ready (rs := [6]) (by kernel_rfl) (by simp) ?_
        refine AllReadyH.cons (o := ⟨some 46, _, _, _, _, _⟩) rfl (fun K' hK' => ?_) AllReadyH.nil
        go_simp
        have kb6 := (Below.heap_alloc w5 (.cells (cells4 q).toArray 44) _ (heap_lt kb5)).trans kb5
        refine hK'.out _ _ kb6 (fun _ => ?_)
        clear hK' K'
        try simp only [Act.put, List.setIfInBounds_toArray, List.set_cons_zero, List.set_cons_succ]
        refine wpAnyH_ready (rs := [7]) (by kernel_rfl) (by simp) ?_
        refine AllReadyH.cons (o := ⟨some 47, _, _, _, _, _⟩) rfl (fun K' hK' => ?_) AllReadyH.nil
        rw [if_pos (wanted_plain rfl)]
        refine wp_append_own _ _ _ 26 rfl (pb + 1) 44 i0 (.agg #[.int .i64 0, .int .i64 0, .int .i64 0, .int .i64 0]) 4 32 Try.underlying26 hi hz0 hz1 hz2 rfl (by decide) _ _ _ rfl (own5.alloc _) ⟨w5.heap.size, 0, none⟩ 1 1 (cells4 q) rfl rfl (cells4_new w5 44 q _ rfl) (cells4_one q) (by unfold maxLen; omega) (by omega) (by simp; omega) ?_
        intro v1 w8 hown8 hg8 _
        obtain ⟨A1, c1, rfl, _⟩ := own_sliceQ hown8
        have hnp : some pb ≠ v.ownBlock := fun e => by have := hne pb e.symm; omega
        have hnb : some w.heap.size ≠ v.ownBlock := fun e => by have := hne w.heap.size e.symm; omega
        have kb8 := (hg8.block w.heap.size (by have := heap_lt kb6; simpa using this) hnb).trans kb6
        have kp8 := (hg8.block pb (by simp; omega) hnp).trans ((Below.heap_alloc w5 (.cells (cells4 q).toArray 44) _ hpb5).trans kp5)
        have qp8 := fun i => cell_of_row w8 pb i _ _ _ kp8
        have zp8 := fun i => frozen_row (i := i) kp8
        have hb8 : Below pb w2 w8 := ((hb.trans (hx5.mono (by omega))).alloc (by omega) _).grown hg8 (by simp; omega) (fun g hg => by have := hne g hg; omega)
        have hs8 := hg8.size
        refine hK'.out _ _ kb8 (fun _ => ?_)
        clear hK' K'
        try simp only [Act.put, List.setIfInBounds_toArray, List.set_cons_zero, List.set_cons_succ]
        refine wpAnyH_take (i := 8) (oi := ⟨some 48, _, _, _, _, _⟩) (v := ?vmb4) rfl (by kernel_rfl) (by kernel_rfl) (by kernel_rfl) (fun _ _ _ h => h) (Or.inl ⟨by rfl, ?hmb4⟩) kb8 ?rmb4
        case hmb4 => (intro w' hSw; (try dsimp only at hSw); go_simp; (try with_reducible rfl))
        try simp only [Act.put, List.setIfInBounds_toArray, List.set_cons_zero, List.set_cons_succ]
        refine wpAnyH_ready (rs := [9]) (by kernel_rfl) (by simp) ?_
        refine AllReadyH.cons (o := ⟨none, _, _, _, _, _⟩) rfl (fun K' hK' => ?_) AllReadyH.nil
        go_simp
        refine hK'.out _ _ ((Below.heap_setCell w8 ⟨pb, 2, none⟩ (.slice A1 (C.length + 1) c1) _ (by dsimp only; omega)).trans kb8) (fun _ => ?_)
        clear hK' K'
        try simp only [Act.put, List.setIfInBounds_toArray, List.set_cons_zero, List.set_cons_succ]
        refine wpAnyH_done (by kernel_rfl) ?_ _
      rotate_left 1
      focus
        go_simp
        go_at_call 57
        refine (HMK.out.2 A c wr.drew (hj.go hbw.drew)).mono ?_
        rintro e w5 ⟨rfl, hx5⟩
        replace hx5 : Below wr.heap.size wr w5 := (Below.refl _ wr).drew.trans (hx5.mono (Nat.le_refl _))
        have kb5 := (hx5.block _ (heap_lt kb)).trans kb
        have kp5 := (hx5.block _ (heap_lt kp)).trans kp
        have qp5 := fun i => cell_of_row w5 pb i _ _ _ kp5
        have hpb5 : pb < w5.heap.size := heap_lt kp5
        have own5 := own_below hown hx5
        refine hK'.out _ _ kb5 (fun _ => ?_)
        clear hK' K'
        try simp only [Act.put, List.setIfInBounds_toArray, List.set_cons_zero, List.set_cons_succ]
        refine wpAnyH_ready (rs := [1, 6]) (by kernel_rfl) (by simp) ?_
        refine AllReadyH.cons (o := ⟨some 41, _, _, _, _, _⟩) rfl (fun K' hK' => ?_) (AllReadyH.cons (o := ⟨some 46, _, _, _, _, _⟩) rfl (fun K' hK' => ?_) AllReadyH.nil)
        focus
          go_simp
          refine hK'.out _ _ kb5 (fun _ => ?_)
          clear hK' K'
          try simp only [Act.put, List.setIfInBounds_toArray, List.set_cons_zero, List.set_cons_succ]
          refine wpAnyH_ready (rs := [6]) (by kernel_rfl) (by simp) ?_
          refine AllReadyH.cons (o := ⟨some 46, _, _, _, _, _⟩) rfl (fun K' hK' => ?_) AllReadyH.nil
          go_simp
          have kb6 := (Below.heap_alloc w5 (.cells (cells4 q).toArray 44) _ (heap_lt kb5)).trans kb5
          refine hK'.out _ _ kb6 (fun _ => ?_)
          clear hK' K'
          try simp only [Act.put, List.setIfInBounds_toArray, List.set_cons_zero, List.set_cons_succ]
          refine wpAnyH_ready (rs := [7]) (by kernel_rfl) (by simp) ?_
          refine AllReadyH.cons (o := ⟨some 47, _, _, _, _, _⟩) rfl (fun K' hK' => ?_) AllReadyH.nil
          rw [if_pos (wanted_plain rfl)]
          refine wp_append_own _ _ _ 26 rfl (pb + 1) 44 i0 (.agg #[.int .i64 0, .int .i64 0, .int .i64 0, .int .i64 0]) 4 32 Try.underlying26 hi hz0 hz1 hz2 rfl (by decide) _ _ _ rfl (own5.alloc _) ⟨w5.heap.size, 0, none⟩ 1 1 (cells4 q) rfl rfl (cells4_new w5 44 q _ rfl) (cells4_one q) (by unfold maxLen; omega) (by omega) (by simp; omega) ?_
          intro v1 w8 hown8 hg8 _
          obtain ⟨A1, c1, rfl, _⟩ := own_sliceQ hown8
          have hnp : some pb ≠ v.ownBlock := fun e => by have := hne pb e.symm; omega
          have hnb : some w.heap.size ≠ v.ownBlock := fun e => by have := hne w.heap.size e.symm; omega
          have kb8 := (hg8.block w.heap.size (by have := heap_lt kb6; simpa using this) hnb).trans kb6
          have kp8 := (hg8.block pb (by simp; omega) hnp).trans ((Below.heap_alloc w5 (.cells (cells4 q).toArray 44) _ hpb5).trans kp5)
          have qp8 := fun i => cell_of_row w8 pb i _ _ _ kp8
          have zp8 := fun i => frozen_row (i := i) kp8
          have hb8 : Below pb w2 w8 := ((hb.trans (hx5.mono (by omega))).alloc (by omega) _).grown hg8 (by simp; omega) (fun g hg => by have := hne g hg; omega)
          have hs8 := hg8.size
          refine hK'.out _ _ kb8 (fun _ => ?_)
          clear hK' K'
          try simp only [Act.put, List.setIfInBounds_toArray, List.set_cons_zero, List.set_cons_succ]
          refine wpAnyH_take (i := 8) (oi := ⟨some 48, _, _, _, _, _⟩) (v := ?vmb5) rfl (by kernel_rfl) (by kernel_rfl) (by kernel_rfl) (fun _ _ _ h => h) (Or.inl ⟨by rfl, ?hmb5⟩) kb8 ?rmb5
          case hmb5 => (intro w' hSw; (try dsimp only at hSw); go_simp; (try with_reducible rfl))
          try simp only [Act.put, List.setIfInBounds_toArray, List.set_cons_zero, List.set_cons_succ]
          refine wpAnyH_ready (rs := [9]) (by kernel_rfl) (by simp) ?_
          refine AllReadyH.cons (o := ⟨none, _, _, _, _, _⟩) rfl (fun K' hK' => ?_) AllReadyH.nil
          go_simp
          refine hK'.out _ _ ((Below.heap_setCell w8 ⟨pb, 2, none⟩ (.slice A1 (C.length + 1) c1) _ (by dsimp only; omega)).trans kb8) (fun _ => ?_)
          clear hK' K'
          try simp only [Act.put, List.setIfInBounds_toArray, List.set_cons_zero, List.set_cons_succ]
          refine wpAnyH_done (by kernel_rfl) ?_ _
        rotate_left 1
        focus
          go_simp
          have kb6 := (Below.heap_alloc w5 (.cells (cells4 q).toArray 44) _ (heap_lt kb5)).trans kb5
          refine hK'.out _ _ kb6 (fun _ => ?_)
          clear hK' K'
          try simp only [Act.put, List.setIfInBounds_toArray, List.set_cons_zero, List.set_cons_succ]
          refine wpAnyH_ready (rs := [1]) (by kernel_rfl) (by simp) ?_
          refine AllReadyH.cons (o := ⟨some 41, _, _, _, _, _⟩) rfl (fun K' hK' => ?_) AllReadyH.nil
          go_simp
          refine hK'.out _ _ kb6 (fun _ => ?_)
          clear hK' K'
          try simp only [Act.put, List.setIfInBounds_toArray, List.set_cons_zero, List.set_cons_succ]
          refine wpAnyH_ready (rs := [7]) (by kernel_rfl) (by simp) ?_
          refine AllReadyH.cons (o := ⟨some 47, _, _, _, _, _⟩) rfl (fun K' hK' => ?_) AllReadyH.nil
          rw [if_pos (wanted_plain rfl)]
          refine wp_append_own _ _ _ 26 rfl (pb + 1) 44 i0 (.agg #[.int .i64 0, .int .i64 0, .int .i64 0, .int .i64 0]) 4 32 Try.underlying26 hi hz0 hz1 hz2 rfl (by decide) _ _ _ rfl (own5.alloc _) ⟨w5.heap.size, 0, none⟩ 1 1 (cells4 q) rfl rfl (cells4_new w5 44 q _ rfl) (cells4_one q) (by unfold maxLen; omega) (by omega) (by simp; omega) ?_
          intro v1 w8 hown8 hg8 _
          obtain ⟨A1, c1, rfl, _⟩ := own_sliceQ hown8
          have hnp : some pb ≠ v.ownBlock := fun e => by have := hne pb e.symm; omega
          have hnb : some w.heap.size ≠ v.ownBlock := fun e => by have := hne w.heap.size e.symm; omega
          have kb8 := (hg8.block w.heap.size (by have := heap_lt kb6; simpa using this) hnb).trans kb6
          have kp8 := (hg8.block pb (by simp; omega) hnp).trans ((Below.heap_alloc w5 (.cells (cells4 q).toArray 44) _ hpb5).trans kp5)
          have qp8 := fun i => cell_of_row w8 pb i _ _ _ kp8
          have zp8 := fun i => frozen_row (i := i) kp8
          have hb8 : Below pb w2 w8 := ((hb.trans (hx5.mono (by omega))).alloc (by omega) _).grown hg8 (by simp; omega) (fun g hg => by have := hne g hg; omega)
          have hs8 := hg8.size
          refine hK'.out _ _ kb8 (fun _ => ?_)
          clear hK' K'
          try simp only [Act.put, List.setIfInBounds_toArray, List.set_cons_zero, List.set_cons_succ]
          refine wpAnyH_take (i := 8) (oi := ⟨some 48, _, _, _, _, _⟩) (v := ?vmb6) rfl (by kernel_rfl) (by kernel_rfl) (by kernel_rfl) (fun _ _ _ h => h) (Or.inl ⟨by rfl, ?hmb6⟩) kb8 ?rmb6
          case hmb6 => (intro w' hSw; (try dsimp only at hSw); go_simp; (try with_reducible rfl))
          try simp only [Act.put, List.setIfInBounds_toArray, List.set_cons_zero, List.set_cons_succ]
          refine wpAnyH_ready (rs := [9]) (by kernel_rfl) (by simp) ?_
          refine AllReadyH.cons (o := ⟨none, _, _, _, _, _⟩) rfl (fun K' hK' => ?_) AllReadyH.nil
          go_simp
          refine hK'.out _ _ ((Below.heap_setCell w8 ⟨pb, 2, none⟩ (.slice A1 (C.length + 1) c1) _ (by dsimp only; omega)).trans kb8) (fun _ => ?_)
          clear hK' K'
          try simp only [Act.put, List.setIfInBounds_toArray, List.set_cons_zero, List.set_cons_succ]
          refine wpAnyH_done (by kernel_rfl) ?_ _
        rotate_left 1
      rotate_left 2
      all_goals
        have kp9 := heap_set w8 pb 2 _ _ (.slice A1 (C.length + 1) c1) kp8
        simp only [List.setIfInBounds_toArray, List.set_cons_zero, List.set_cons_succ] at kp9
        have hne8 : ∀ g, Value.ownBlock (.slice A1 (C.length + 1) c1) = some g → g ≠ pb := fun g hg => by have := own_from hown8 g hg; omega
        have hown9 := own_setP hown8 ⟨pb, 2, none⟩ (.slice A1 (C.length + 1) c1) hne8
        have hb9 := hb8.setCell (p := ⟨pb, 2, none⟩) (by dsimp only; omega) (.slice A1 (C.length + 1) c1)
        go_wp2
        go_roundw
        case rel => exact ⟨r', zz, C ++ [q], _, ⟨i + 1, by go_num, by omega⟩, rfl, by omega, by simp; omega, hb9, by have := heap_lt kp8; simpa using this, kp9, by rw [flatQ_snoc, List.length_append]; exact hown9, Lib.hid (by rw [List.append_assoc]; exact HST.out)⟩
        case measure => first | (simp [intOf]; done) | (simp [intOf]; omega)
    · have hc1 : ¬ (i : Int) < (n : Int) := by omega
      obtain rfl : r = 0 := by omega
      have hCT : C = T := by have := hH.out; rwa [madeL, List.append_nil] at this
      subst hCT
      obtain ⟨A', c', rfl, hO⟩ := own_oq hown rfl
      have kr := (hb.block (w.heap.size + 1) (by omega)).trans HK2.out
      have qr := fun i => cell_of_row wr (w.heap.size + 1) i _ _ _ kr
      have zr := fun i => frozen_row (i := i) kr
      have hsw : w.heap.size + 1 < wr.heap.size := heap_lt kr
      have hpw : pb < wr.heap.size := heap_lt kp
      have HO := Lib.hid hO
      clear hO hown hne
      go_wp2
      exact bodyPost_ret (v := .tuple #[.agg #[.int .i64 s, .int .i64 f, .slice A' C.length c'], .bool true]) (by simp [results, Try.results14, go_sem, qr]) rfl
        ⟨A', c', rfl, (((HO.out.set (by dsimp only; omega) _).set (by dsimp only; omega) _).set (by dsimp only; omega) _).from_ (by omega), ((hbw.setCell (by simp) _).setCell (by simp) _).setCell (by simp) _⟩

theorem makePuzzle_both (s f o : Int) (js : List (Int × Int)) (n z : Int) :
    (∀ (A : Option Addr) (c : Nat) (w : World), RJ w w.heap.size A js → Calls Try.prog 12 #[.agg #[.int .i64 s, .int .i64 f, .int .i64 o, .slice A js.length c], .int .i64 n, .int .i64 z] w (PzBack w.heap.size w (makeR s f o js n z))) ∧
    (∀ (A : Option Addr) (c : Nat) (w : World), RJ w w.heap.size A js → Calls Try.prog 14 #[.agg #[.int .i64 s, .int .i64 f, .int .i64 o, .slice A js.length c], .int .i64 n, .int .i64 z] w (PzBack w.heap.size w (makeR s f o js n z))) := by
  cases h : (hidB s f o js && inB n 0 6 && inB z 0 9999)
  · have e : makeR s f o js n z = noPz := by rw [makeR, h]; rfl
    rw [e]
    exact ⟨fun A c w hj => specMake_no s f o n z A c js w hj h, fun A c w hj => implMake_no s f o n z A c js w hj h⟩
  · have e : makeR s f o js n z = ((s, f, madeL ((s, f, o), js) n.toNat z.toNat), true) := by rw [makeR, h]; rfl
    rw [e]
    rw [Bool.and_eq_true, Bool.and_eq_true, inB_iff, inB_iff] at h
    obtain ⟨N, rfl⟩ := Int.eq_ofNat_of_zero_le h.1.2.1
    obtain ⟨Z, rfl⟩ := Int.eq_ofNat_of_zero_le h.2.1
    rw [Int.toNat_natCast, Int.toNat_natCast]
    exact ⟨fun A c w hj => specMake_yes s f o N Z A c js _ w hj h.1.1 (by omega) (by omega) rfl, fun A c w hj => implMake_yes s f o N Z A c js _ w hj h.1.1 (by omega) (by omega) rfl⟩
end Go.Proofs.Yteogfondnpfklaa

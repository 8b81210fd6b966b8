/-
  Dice: LikeliestSums on both sides.
-/
import Derived.Test.YtblpfjjnlfjloabC6h
import Derived.Test.YtblpfjjnlfjloabC6k
import Derived.Test.YtblpfjjnlfjloabM51
import Derived.Test.YtblpfjjnlfjloabWNum
import Derived.WalkLawsBesides
namespace Go.Proofs.Ytblpfjjnlfjloab
open Go.RowKit

def natV (l : List Nat) : List Value := (l.map (fun i : Nat => (i : Int))).map (Value.int .i64)
theorem natV_snoc (l : List Nat) (k : Nat) : natV (l ++ [k]) = natV l ++ [.int .i64 (k : Int)] := by simp [natV]

set_option maxRecDepth 100000 in
theorem max_any (gr n : Nat) (K : Nat → Nat) (w : World) (h : TallyAt w gr n K) (hn1 : 1 ≤ n) (hn : n ≤ 97) :
    Calls Try.prog 37 #[.slice (some ⟨gr, 0, none⟩) n n] w fun e w' => e = .returned (.int .i64 (mxN K n : Nat)) ∧ w = w' := by
  have c0 : w.cell? ⟨gr, 0, none⟩ = some (.int .i64 (K 0 : Nat)) := RowI.cell h hn1
  have h1 : ¬ (n : Int) < 1 := by omega
  have hnp : 0 < n := by omega
  go_enter Try.func37, Try.ntmps37
  go_wp2
  go_loop [3, 4] (fun v i => ∃ k V : Nat, 1 ≤ k ∧ k ≤ n ∧ i = .int .i64 k ∧ v = .int .i64 V ∧ V = mxN K k) (fun _ i => n - (intOf i).toNat)
  case atStart => exact ⟨1, K 0, Nat.le_refl _, hn1, rfl, rfl, by show _ = max 0 (K 0); omega⟩
  case round =>
    obtain ⟨k, V, hk1, hk, rfl, rfl, hV⟩ := hrel
    by_cases hlt : k < n
    · have c1 : w.cell? ⟨gr, k, none⟩ = some (.int .i64 (K k : Nat)) := RowI.cell h hlt
      have hst : mxN K (k + 1) = max V (K k) := by rw [hV]; rfl
      obtain ⟨a, ha⟩ : ∃ a, a = K k := ⟨_, rfl⟩
      rw [← ha] at c1 hst
      have HST := Lib.hid hst
      clear hV hst ha c0
      go_wp2
      go_round
      case rel => exact ⟨k + 1, max V a, by omega, by omega, by go_num, by
        by_cases h : V < a
        · rw [if_pos h, Nat.max_eq_right (by omega)]
        · rw [if_neg h, Nat.max_eq_left (by omega)], HST.out.symm⟩
      case measure => simp [intOf]; omega
    · obtain rfl : k = n := by omega
      have HV := Lib.hid hV
      clear hV c0
      go_wp2
      go_ret
      exact ⟨ret_int (by rw [HV.out]), rfl⟩

/-- The likeliest sums. -/
def likL (d f : Nat) : List Nat := stI (cv d f) (mxN (cv d f) (d * f + 1)) (d * f + 1)

set_option maxRecDepth 100000 in
set_option maxHeartbeats 1000000 in
theorem implLikeliest_yes (d f : Nat) (w : World) (hd1 : 1 ≤ d) (hd : d ≤ 8) (hf1 : 1 ≤ f) (hf : f ≤ 12) :
    Calls Try.prog 20 #[.int .i64 d, .int .i64 f] w (IntsBack w ((likL d f).map (fun i : Nat => (i : Int)), true)) := by
  obtain ⟨i0, hi, hz0, hz1, hz2⟩ := info_parts infoInt1
  have hn97 := kf97 hf hd
  have hlik : likL d f = stI (cv d f) (mxN (cv d f) (d * f + 1)) (d * f + 1) := rfl
  obtain ⟨n, hn⟩ : ∃ n, n = d * f + 1 := ⟨_, rfl⟩
  have hn1 : 1 ≤ n := by omega
  obtain ⟨M, hM⟩ : ∃ M, M = mxN (cv d f) n := ⟨_, rfl⟩
  rw [← hn] at hn97 hlik
  rw [← hM] at hlik
  have hmx := fun gr w h => max_any gr n (cv d f) w h hn1 hn97
  rw [← hM] at hmx
  have HN := Lib.hid hn; have HL := Lib.hid hlik; have HMX := Lib.hid hmx
  clear hn hlik hM hmx
  go_enter Try.func20, Try.ntmps20
  go_wp2_with fail
  refine (sumsOf_yes d f _ hd1 hd hf1 hf).mono ?_
  rintro e w1 ⟨gr, rfl, hgr, hr, hx1⟩
  have hr2 : TallyAt w1 gr (d * f + 1) (cv d f) := by
    have e : kq d f d = cv d f := by funext i; exact kq_cv d f i
    rw [← e]; exact hr
  rw [← HN.out] at hr2 ⊢
  have hgl : gr < w1.heap.size := RowI.lt hr
  clear hr
  go_wp2_with fail
  refine (HMX.out gr _ hr2).mono ?_
  rintro e w2 ⟨rfl, rfl⟩
  go_wp2_with fail
  go_loopw [8, 10, 11, 24] (fun v _ _ i wr => ∃ k L : Nat, k ≤ n ∧ i = .int .i64 k ∧ L = (stI (cv d f) M k).length ∧ wr.ownsRow w1.heap.size 3 1 v L (natV (stI (cv d f) M k)) ∧ TallyAt wr gr n (cv d f) ∧ Below w1.heap.size w1 wr) (fun _ _ _ i _ => n - (intOf i).toNat)
  case atStart => exact ⟨0, 0, Nat.zero_le _, rfl, rfl, World.ownsRow_nil _ _ _ _, hr2, Below.refl _ _⟩
  case round =>
    clear hr2
    obtain ⟨k, L, hk, rfl, hL, hown, hT, hB⟩ := hrel
    by_cases hlt : k < n
    · have c1 : wr.cell? ⟨gr, k, none⟩ = some (.int .i64 (cv d f k : Nat)) := RowI.cell hT hlt
      have hsn := stI_snoc (cv d f) M k
      have hll := stI_len (cv d f) M k
      rw [← hL] at hll
      obtain ⟨a, ha⟩ : ∃ a, a = cv d f k := ⟨_, rfl⟩
      rw [← ha] at c1 hsn
      obtain ⟨Av, cv', rfl⟩ := own_sliceN hown
      by_cases e : a = M
      · subst e
        rw [if_pos rfl] at hsn
        have HS := Lib.hid hsn; have HLL := Lib.hid hL
        clear hsn ha hL
        go_wp2_with (at_builtin; go_loud (refine wpList_append_own _ rfl _ _ 25 rfl w1.heap.size 3 i0 (.int .i64 0) 1 8 Try.underlying25 hi hz0 hz1 hz2 rfl (by decide) _ _ _ rfl (hown.alloc _) ⟨wr.heap.size, 0, none⟩ 1 1 [.int .i64 (k : Int)] rfl rfl (cell_new1 _ _ _) (one_int _) (by unfold maxLen; omega) (by omega) (by have := hB.size; simp; omega) ?_; intro v1 w4 hown4 hg4 _))
        go_roundw
        case rel =>
          have hsz := hB.size
          refine ⟨k + 1, L + 1, by omega, by go_num, by rw [HS.out, List.length_append, ← HLL.out]; rfl, by rw [HS.out, natV_snoc]; exact hown4, RowI.grown (RowI.alloc hT _) hg4 (fun e => by have := own_from hown gr e.symm; omega), (hB.alloc hsz _).grown hg4 (by simp; omega) (fun j h => own_from hown j h)⟩
        case measure => simp [intOf]; omega
      · rw [if_neg e] at hsn
        have hne : ((a : Int) == (M : Int)) = false := beq_eq_false_iff_ne.2 (by omega)
        have HS := Lib.hid hsn; have HLL := Lib.hid hL
        clear hsn ha hL e
        go_wp2
        go_roundw
        case rel => exact ⟨k + 1, L, by omega, by go_num, by rw [HS.out, ← HLL.out], by rw [HS.out]; exact hown, hT, hB⟩
        case measure => simp [intOf]; omega
    · obtain rfl : k = n := by omega
      obtain ⟨A', c', rfl, ho⟩ := own_oi hown (by rw [List.length_map, hL])
      have hz := hx1.size
      have hfin : IntsBack w ((likL d f).map (fun i : Nat => (i : Int)), true) (.returned (.tuple #[.slice A' ((stI (cv d f) M k).map (fun i : Nat => (i : Int))).length c', .bool true])) wr := by
        rw [HL.out]
        refine ⟨A', c', rfl, ?_, hx1.trans (hB.mono hz)⟩
        rcases ho with h0 | ⟨g, e1, hlo, hr⟩
        · exact .inl h0
        · exact .inr ⟨g, e1, by omega, hr⟩
      have HF := Lib.hid hfin
      clear hfin ho hown hL hz
      go_wp2
      go_ret2
      exact HF.out
theorem implLikeliest_no (d f : Int) (w : World) (h : cupB d f = false) :
    Calls Try.prog 20 #[.int .i64 d, .int .i64 f] w (IntsBack w ([], false)) := by
  go_enter Try.func20, Try.ntmps20
  go_wp2_with fail
  refine (sumsOf_no d f _ h).mono ?_
  rintro e w1 ⟨rfl, hx1⟩
  go_wp2
  go_ret2
  exact ⟨none, 0, rfl, .inl rfl, hx1⟩

theorem likL_pos {d f : Nat} (hf1 : 1 ≤ f) : 1 ≤ mxN (cv d f) (d * f + 1) := by
  have h := kq_all d f d (d * f + 1) (Nat.le_refl _) (by omega)
  have hp := Nat.pow_pos (n := d) hf1
  rcases Nat.eq_zero_or_pos (mxN (cv d f) (d * f + 1)) with h0 | h0
  · exfalso
    have : sumD (kq d f d) (d * f + 1) = 0 := sumD_none _ _ fun i hi => by
      have := mxN_ge (cv d f) (d * f + 1) i hi
      rw [kq_cv]; omega
    omega
  · exact h0
theorem likL_ou {d f : Nat} (hf1 : 1 ≤ f) : likL d f = ouI (cv d f) (d * f + 1) := by
  have := likL_pos (d := d) hf1
  unfold likL ouI
  rw [if_neg (by omega)]
theorem ouI_len (K : Nat → Nat) (k : Nat) : (ouI K k).length ≤ k := by
  unfold ouI
  split
  · simp
  · exact stI_len _ _ _

set_option maxRecDepth 100000 in
set_option maxHeartbeats 2000000 in
theorem specLikeliest_yes (d f : Nat) (w : World) (hd1 : 1 ≤ d) (hd : d ≤ 8) (hf1 : 1 ≤ f) (hf : f ≤ 12) :
    Calls Try.prog 19 #[.int .i64 d, .int .i64 f] w (IntsBack w ((likL d f).map (fun i : Nat => (i : Int)), true)) := by
  obtain ⟨i0, hi, hz0, hz1, hz2⟩ := info_parts infoInt1
  have hc : cupB (d : Int) (f : Int) = true := cupB_iff.2 (by omega)
  have hn97 := kf97 hf hd
  have hlik := likL_ou (d := d) hf1
  obtain ⟨n, hn⟩ : ∃ n, n = d * f + 1 := ⟨_, rfl⟩
  rw [← hn] at hn97 hlik
  have HN := Lib.hid hn; have HL := Lib.hid hlik; have HC := Lib.hid hc
  clear hn hlik hc
  go_enter Try.func19, Try.ntmps19
  go_wp2_with fail
  refine (diAsked_any _ _ _).mono ?_
  rintro e w0 ⟨rfl, rfl⟩
  rw [HC.out]
  go_wp2_with fail
  refine (diSums_any d f _ hd hf1 hf).mono ?_
  rintro e w1 ⟨gr, rfl, hgr, hr2, hx1⟩
  rw [← HN.out] at hr2 ⊢
  have hgl : gr < w1.heap.size := RowI.lt hr2
  go_wp2_with fail
  go_loopw [6, 7, 8, 9, 18] (fun u v _ _ i wr => ∃ k V L : Nat, k ≤ n ∧ i = .int .i64 k ∧ u = .int .i64 V ∧ V = mxN (cv d f) k ∧ L = (ouI (cv d f) k).length ∧ wr.ownsRow w1.heap.size 3 1 v L (natV (ouI (cv d f) k)) ∧ TallyAt wr gr n (cv d f) ∧ Below w1.heap.size w1 wr) (fun _ _ _ _ i _ => n - (intOf i).toNat)
  case atStart => exact ⟨0, 0, 0, Nat.zero_le _, rfl, rfl, rfl, rfl, World.ownsRow_nil _ _ _ _, hr2, Below.refl _ _⟩
  case round =>
    clear hr2
    obtain ⟨k, V, L, hk, rfl, rfl, hV, hL, hown, hT, hB⟩ := hrel
    by_cases hlt : k < n
    · have c1 : wr.cell? ⟨gr, k, none⟩ = some (.int .i64 (cv d f k : Nat)) := RowI.cell hT hlt
      have hmore := ouI_more (cv d f) k
      have hsame := ouI_same (cv d f) k
      have hless := ouI_less (cv d f) k
      have hll := ouI_len (cv d f) k
      have ha9 := cv_small hd hf k
      rw [← hL] at hll
      obtain ⟨a, ha⟩ : ∃ a, a = cv d f k := ⟨_, rfl⟩
      rw [← ha] at c1 hmore hsame hless ha9
      rw [← hV] at hmore hsame hless
      obtain ⟨Av, cv', rfl⟩ := own_sliceN hown
      have hsz := hB.size
      have HLL := Lib.hid hL
      by_cases e1 : V < a
      · obtain ⟨h1, h2⟩ := hmore e1
        have HO := Lib.hid h1; have HM := Lib.hid h2
        have hap : (0 : Int) < (a : Int) := by omega
        have hnil : wr.ownsRow w1.heap.size 3 1 (.slice none 0 0) 0 [] := World.ownsRow_nil _ _ _ _
        clear hmore hsame hless h1 h2 ha hL hV
        go_wp2_with (at_builtin; go_loud (refine wpList_append_own _ rfl _ _ 25 rfl w1.heap.size 3 i0 (.int .i64 0) 1 8 Try.underlying25 hi hz0 hz1 hz2 rfl (by decide) _ _ _ rfl (hnil.alloc _) ⟨wr.heap.size, 0, none⟩ 1 1 [.int .i64 (k : Int)] rfl rfl (cell_new1 _ _ _) (one_int _) (by unfold maxLen; omega) (by omega) (by have := hB.size; simp; omega) ?_; intro v1 w4 hown4 hg4 _))
        go_roundw
        case rel =>
          exact ⟨k + 1, a, 1, by omega, by go_num, rfl, HM.out.symm, by rw [HO.out]; rfl, by rw [HO.out]; exact hown4, RowI.grown (RowI.alloc hT _) hg4 (fun e => by have := own_from hnil gr e.symm; omega), (hB.alloc hsz _).grown hg4 (by simp; omega) (fun j h => own_from hnil j h)⟩
        case measure => simp [intOf]; omega
      · by_cases e2 : a = V ∧ 0 < a
        · obtain ⟨e2, e3⟩ := e2
          obtain ⟨h1, h2⟩ := hsame e2 e3
          subst e2
          have HO := Lib.hid h1; have HM := Lib.hid h2
          have hap : (0 : Int) < (a : Int) := by omega
          clear hmore hsame hless h1 h2 ha hL hV e1
          go_wp2_with (at_builtin; go_loud (refine wpList_append_own _ rfl _ _ 25 rfl w1.heap.size 3 i0 (.int .i64 0) 1 8 Try.underlying25 hi hz0 hz1 hz2 rfl (by decide) _ _ _ rfl (hown.alloc _) ⟨wr.heap.size, 0, none⟩ 1 1 [.int .i64 (k : Int)] rfl rfl (cell_new1 _ _ _) (one_int _) (by unfold maxLen; omega) (by omega) (by have := hB.size; simp; omega) ?_; intro v1 w4 hown4 hg4 _))
          go_roundw
          case rel =>
            exact ⟨k + 1, a, L + 1, by omega, by go_num, rfl, HM.out.symm, by rw [HO.out, List.length_append, ← HLL.out]; rfl, by rw [HO.out, natV_snoc]; exact hown4, RowI.grown (RowI.alloc hT _) hg4 (fun e => by have := own_from hown gr e.symm; omega), (hB.alloc hsz _).grown hg4 (by simp; omega) (fun j h => own_from hown j h)⟩
          case measure => simp [intOf]; omega
        · obtain ⟨h1, h2⟩ := hless (by omega) (by omega)
          have HO := Lib.hid h1; have HM := Lib.hid h2
          have hna : ¬ (V : Int) < (a : Int) := by omega
          by_cases e3 : a = V
          · obtain rfl : a = 0 := by omega
            subst e3
            clear hmore hsame hless h1 h2 ha hL hV e1 e2
            go_wp2
            go_roundw
            case rel => exact ⟨k + 1, 0, L, by omega, by go_num, rfl, HM.out.symm, by rw [HO.out, ← HLL.out], by rw [HO.out]; exact hown, hT, hB⟩
            case measure => simp [intOf]; omega
          · have hne : ((a : Int) == (V : Int)) = false := beq_eq_false_iff_ne.2 (by omega)
            clear hmore hsame hless h1 h2 ha hL hV e1 e2 e3
            go_wp2
            go_roundw
            case rel => exact ⟨k + 1, V, L, by omega, by go_num, rfl, HM.out.symm, by rw [HO.out, ← HLL.out], by rw [HO.out]; exact hown, hT, hB⟩
            case measure => simp [intOf]; omega
    · obtain rfl : k = n := by omega
      obtain ⟨A', c', rfl, ho⟩ := own_oi hown (by rw [List.length_map, hL])
      have hz := hx1.size
      have hfin : IntsBack w ((likL d f).map (fun i : Nat => (i : Int)), true) (.returned (.tuple #[.slice A' ((ouI (cv d f) k).map (fun i : Nat => (i : Int))).length c', .bool true])) wr := by
        rw [HL.out]
        refine ⟨A', c', rfl, ?_, hx1.trans (hB.mono hz)⟩
        rcases ho with h0 | ⟨g, e1, hlo, hr⟩
        · exact .inl h0
        · exact .inr ⟨g, e1, by omega, hr⟩
      have HF := Lib.hid hfin
      clear hfin ho hown hL hz hV
      go_wp2
      go_ret2
      exact HF.out
theorem specLikeliest_no (d f : Int) (w : World) (h : cupB d f = false) :
    Calls Try.prog 19 #[.int .i64 d, .int .i64 f] w (IntsBack w ([], false)) := by
  have HC := Lib.hid h
  clear h
  go_enter Try.func19, Try.ntmps19
  go_wp2_with fail
  refine (diAsked_any _ _ _).mono ?_
  rintro e w0 ⟨rfl, rfl⟩
  rw [HC.out]
  go_wp2
  go_ret2
  exact ⟨none, 0, rfl, .inl rfl, Below.refl _ _⟩
theorem likeliestSums_both (d f : Int) : ∃ R : List Int × Bool, R.1.length ≤ 1048576 ∧
    (∀ w, Calls Try.prog 19 #[.int .i64 d, .int .i64 f] w (IntsBack w R)) ∧
    (∀ w, Calls Try.prog 20 #[.int .i64 d, .int .i64 f] w (IntsBack w R)) := by
  cases hc : cupB d f
  · exact ⟨([], false), by simp, fun w => specLikeliest_no d f w hc, fun w => implLikeliest_no d f w hc⟩
  · obtain ⟨m, n, rfl, rfl, h1, h2, h3, h4⟩ := cupB_nat hc
    exact ⟨((likL m n).map (fun i : Nat => (i : Int)), true), by
      have := stI_len (cv m n) (mxN (cv m n) (m * n + 1)) (m * n + 1)
      have := kf97 h4 h2
      simp only [List.length_map]
      unfold likL
      omega, fun w => specLikeliest_yes m n w h1 h2 h3 h4, fun w => implLikeliest_yes m n w h1 h2 h3 h4⟩
end Go.Proofs.Ytblpfjjnlfjloab

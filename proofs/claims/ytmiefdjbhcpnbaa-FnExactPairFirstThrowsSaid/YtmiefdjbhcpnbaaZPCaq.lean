/- Several texts, one behind the other: C5zzd. -/
import Derived.Test.YtmiefdjbhcpnbaaZPCap
import Derived.Test.YtmiefdjbhcpnbaaZPCag

namespace Go.Proofs.Ytmiefdjbhcpnbaa
open Go.RowKit

/-- A slice that reads as the numbers, and a bool. -/
def ReadBack (w : World) (R : List Int × Bool) (e : Ending) (w' : World) : Prop :=
  ∃ A' c', e = .returned (.tuple #[.slice A' R.1.length c', .bool R.2]) ∧ RI w' w'.heap.size A' R.1 ∧ Below w.heap.size w w'
theorem RN.ri {w : World} {B c : Nat} {A : Option Addr} {l : List Nat} (h : RN w B A c l) : RI w B A (l.map fun n : Nat => (n : Int)) := by
  obtain ⟨h1, h2, h3⟩ := h
  refine ⟨by simpa using h2, ?_⟩
  rcases h3 with rfl | ⟨b, off, e, hB, hc⟩
  · exact .inl rfl
  · refine .inr ⟨b, off, e, hB, fun k hk => ?_⟩
    have hk' : k < l.length := by simpa using hk
    rw [List.getElem_map]
    exact hc k hk'
set_option maxRecDepth 100000 in
theorem specFirst_no (s f a b : Int) (w : World) (hp : pairOk s f a b = false) :
    Calls Try.prog 19 #[.int .i64 s, .int .i64 f, .int .i64 a, .int .i64 b] w (ReadBack w ([], false)) := by
  have HP := Lib.hid hp; clear hp
  go_enter Try.func19, Try.ntmps19
  go_wp2_with (go_at_call 22; refine (oiGood_any _ _ _ _ _).mono ?_; rintro e w' ⟨rfl, rfl⟩; rw [HP.out])
  go_ret2
  exact ⟨none, 0, rfl, ⟨by simp, .inl rfl⟩, Below.refl _ _⟩
set_option maxRecDepth 100000 in
set_option maxHeartbeats 1000000 in
theorem specFirst_yes (s f a b : Nat) (w : World) (hp : pairOk s f a b = true) (l : List Nat) (r : List (List Nat)) (hl : allP s f a b = l :: r) :
    Calls Try.prog 19 #[.int .i64 s, .int .i64 f, .int .i64 a, .int .i64 b] w (ReadBack w (l.map fun n : Nat => (n : Int), true)) := by
  have hh := pairOk_iff.1 hp
  obtain ⟨L, hL⟩ : ∃ L, L = allP s f a b := ⟨_, rfl⟩
  have HC := Lib.hid (oiAll_any s f a b w (by omega) (by omega) (by omega) (by omega) (by omega) L hL)
  have hLl : L = l :: r := by rw [hL]; exact hl
  have hpos : 0 < L.length := by rw [hLl]; simp
  have HP := Lib.hid hp
  have HLl := Lib.hid hLl
  clear hp hL hl hLl
  go_enter Try.func19, Try.ntmps19
  go_wp2_with fail
  refine (oiGood_any _ _ _ _ _).mono ?_
  rintro e w' ⟨rfl, rfl⟩
  rw [HP.out]
  go_wp2_with fail
  refine HC.out.mono ?_
  rintro e w2 ⟨A, c, rfl, ⟨g, rfl, hR⟩, hx⟩
  obtain ⟨A0, c0, e1, e2⟩ := hR 0 hpos
  have e3 : L[0] = l := by have := HLl.out; subst this; rfl
  rw [e3] at e1 e2
  obtain ⟨n, hn⟩ : ∃ n, n = l.length := ⟨_, rfl⟩
  rw [← hn] at e1
  have HN := Lib.hid hn
  have HE2 := Lib.hid e2
  clear hn e2 e3 hR
  go_wp2
  refine bodyPost_ret (v := .tuple #[.slice A0 n c0, .bool true]) (by simp [results, Try.results19]) rfl ⟨A0, c0, ?_, HE2.out.ri, hx⟩
  rw [HN.out, List.length_map]
theorem own_ne {w : World} {g e size n : Nat} {v : Value} {xs : List Value} (h : w.ownsRow (g + 1) e size v n xs) : some g ≠ v.ownBlock := fun e => by
  have := own_from h _ e.symm
  omega
theorem own_back {w : World} {base n : Nat} {v : Value} {l : List Nat} {t : TypeId} (h : w.ownsRow base t 1 v n (valsN l)) (hn : l.length = n) : ∃ A c, v = .slice A (l.map fun n : Nat => (n : Int)).length c ∧ OI w base t A (l.map fun n : Nat => (n : Int)).length (fun k => (l.map fun n : Nat => (n : Int)).getD k 0) := by
  have e : valsN l = (l.map fun n : Nat => (n : Int)).map (Value.int .i64) := by simp [valsN, List.map_map, Function.comp]
  rw [e] at h
  exact own_oi h (by simpa using hn)
set_option maxRecDepth 100000 in
theorem implFirst_no (s f a b : Int) (w : World) (hp : pairOk s f a b = false) :
    Calls Try.prog 20 #[.int .i64 s, .int .i64 f, .int .i64 a, .int .i64 b] w (IntsBack w ([], false)) := by
  have hst := storeCourse 0 0 0 (fun _ => 0)
  have HP := Lib.hid hp; clear hp
  go_enter Try.func20, Try.ntmps20
  go_wp2_with fail
  refine (courseOfPair_no _ _ _ _ _ HP.out).mono ?_
  rintro e w2 ⟨rfl, hx⟩
  go_wp2
  go_ret2
  exact ⟨none, 0, rfl, .inl rfl, hx.alloc hx.size _⟩
set_option maxRecDepth 100000 in
set_option maxHeartbeats 2000000 in
theorem implFirst_yes (s f a b : Nat) (w : World) (hp : pairOk s f a b = true) (l : List Nat) (hl : firstS s f (fewP s f a + fewP s f b) (oneS a b) = some l) (hll : l.length = fewP s f a + fewP s f b) :
    Calls Try.prog 20 #[.int .i64 s, .int .i64 f, .int .i64 a, .int .i64 b] w (IntsBack w (l.map fun n : Nat => (n : Int), true)) := by
  have hst := storeCourse s f 0 (fun i => jumpOf [] i)
  obtain ⟨i0, hi, hz0, hz1, hz2⟩ := info_parts infoIntK
  have hh := pairOk_iff.1 hp
  have hT : fewP s f a + fewP s f b ≤ 12 := few_le (by omega) (by omega)
  have hd1 := done_few (s := s) (f := f) (a := a) (b := b) (by omega) (by omega) (by omega) (by omega)
  have hd2 := fun t (ht : t < fewP s f a + fewP s f b) => done_less (s := s) (f := f) (a := a) (b := b) (t := t) (by omega) (by omega) (by omega) (by omega) ht
  obtain ⟨T, hTT⟩ : ∃ T, T = fewP s f a + fewP s f b := ⟨_, rfl⟩
  rw [← hTT] at hT hl hd1 hll
  simp only [← hTT] at hd2
  have hz := zeroSet
  have HP := Lib.hid hp; have HD1 := Lib.hid hd1; have HD2 := Lib.hid hd2; have HL := Lib.hid hl; have HLL := Lib.hid hll
  clear hp hTT hd1 hd2 hl hll
  have hf4 : f ≤ 4 := by omega
  have hs6 : s ≤ 6 := by omega
  have ha : a ≤ s := by omega
  have hb : b ≤ s := by omega
  go_enter Try.func20, Try.ntmps20
  go_wp2_with fail
  refine (courseOfPair_yes _ _ _ _ _ HP.out).mono ?_
  rintro e w2 ⟨rfl, hx⟩
  have hCn : CA (w2.alloc (.cells (crsCells s f 0 (fun i => jumpOf [] i)) 42)) w2.heap.size s f 0 (fun i => jumpOf [] i) := heap_alloc_at _ _ _ rfl
  have hB2 := hx.alloc hx.size (.cells (crsCells s f 0 (fun i => jumpOf [] i)) 42)
  go_wp2_with fail
  refine (setOf_any a b _ (by omega) (by omega)).mono ?_
  rintro e w3 ⟨rfl, hx3⟩
  have hC3 := hCn.cv.below hx3 (by simp)
  have hB3 := hB2.trans (hx3.mono hB2.size)
  have hgl := cell_lt hC3.sq
  have hSz := hB3.size
  have kz : (w3.alloc (.cells (setC (fun _ _ => false)) 49)).heap[w3.heap.size]? = some (.cells (setC (fun _ _ => false)) 49 (0, 0)) := heap_alloc_at _ _ _ rfl
  clear hCn hB2 hx3 hx
  go_wp2_with (first | (refine wpList_store_row rfl 49 (.tmp 12) (.tmp 29) rfl w3.heap.size rfl _ _ _ rfl kz ?_ ?_ (setC_one _) ?_; (rw [setC_size, setC_size]); (rw [setC_size]; exact sizeSet); intro w4 k4 g4 s4; have hB4 : Below w3.heap.size w3 w4 := (below1 w3 _).grown g4 (by simp) (fun k h => by cases h; exact Nat.le_refl _); have lt4 := heap_lt k4; clear s4 g4) | (refine wpList_load_row rfl 49 (.tmp 12) rfl w3.heap.size rfl _ _ _ _ k4 Try.underlying49 rfl ?_ ?_; (rw [setC_size]; exact sizeSet)))
  refine (fewestLists_any _ s f T 0 _ _ _ (hC3.below hB4 hgl) (oneS_in ha hb) hs6 hf4 hT HD1.out HD2.out).mono ?_
  rintro e w5 ⟨rfl, hx5⟩
  have kS5 : SA w5 w3.heap.size 49 (oneS a b) := SA.below k4 hx5 lt4
  have hB5 := hB4.trans (hx5.mono hB4.size)
  have lt5 := kS5.lt
  clear k4 hB4 lt4 hx5 kz hz hst
  go_wp2_with fail
  go_loopw [13, 15] (fun v u wr => ∃ (t : Nat) (S : Nat → Nat → Bool) (d m : List Nat), t ≤ T ∧ v = .int .i64 (t : Nat) ∧ Below w3.heap.size w3 wr ∧ Hid (SA wr w3.heap.size 49 S) ∧ Hid (wr.ownsRow (w3.heap.size + 1) 3 1 u d.length (valsN d)) ∧ Hid (inPS s S) ∧ Hid (firstS s f t S = some m) ∧ Hid (d ++ m = l) ∧ Hid (d.length ≤ 12 - t)) (fun v _ _ => (intOf v).toNat)
  case atStart => exact ⟨T, oneS a b, [], l, Nat.le_refl _, rfl, hB5, Lib.hid kS5, Lib.hid (World.ownsRow_nil _ _ _ _), Lib.hid (oneS_in ha hb), HL, Lib.hid rfl, Lib.hid (Nat.zero_le _)⟩
  case round =>
    clear kS5 hB5 lt5
    obtain ⟨t, S, d, m, ht, rfl, hB, HS, HO, HI, HF, HDM, HDL⟩ := hrel
    have hsz := hB.size
    cases t with
    | zero =>
      have e0 : ¬ (0 : Int) < ((0 : Nat) : Int) := by omega
      have hm := firstS_zero HF.out
      have hd : d = l := by have := HDM.out; rw [hm, List.append_nil] at this; exact this
      subst hd
      obtain ⟨A, c, rfl, hOI⟩ := own_back HO.out rfl
      have hOI2 := Lib.hid hOI
      clear hOI hm
      go_wp2
      refine bodyPost_ret (v := .tuple #[.slice A (d.map fun n : Nat => (n : Int)).length c, .bool true]) (by simp [results, Try.results20]) rfl ⟨A, c, rfl, ?_, hB3.trans (hB.mono hSz)⟩
      rcases hOI2.out with h | ⟨g, e, hg, hr⟩
      · exact .inl h
      · exact .inr ⟨g, e, by omega, hr⟩
    | succ t =>
      obtain ⟨T1, hT1⟩ : ∃ T1, T1 = t + 1 := ⟨_, rfl⟩
      have wT : IntKind.i64.wrap ((T1 : Int) - 1) = (t : Int) := by rw [IntWalk.i64_in _ (by omega)]; omega
      have e0 : (0 : Int) < (T1 : Int) := by omega
      have e1 : 0 < T1 := by omega
      have ht12 : t ≤ 12 := by omega
      have hdl : d.length ≤ 12 := by have := HDL.out; omega
      obtain ⟨k, m', hk, hm, hf', hp', hz'⟩ := firstS_succ hs6 HI.out HF.out
      rw [← hT1]
      have HT1 := Lib.hid hT1; have HM := Lib.hid hm; have HF' := Lib.hid hf'; have HP' := Lib.hid hp'; have HZ' := Lib.hid hz'
      clear hT1 hm hf' hp' hz'
      obtain ⟨Au, cu, rfl⟩ := own_sliceK HO.out
      have hk4 : k < 4 := by omega
      go_wp2_with fail
      go_loopw [16] (fun x wi => ∃ j : Nat, j ≤ k ∧ x = .int .i64 ((j + 1 : Nat) : Int) ∧ Below w3.heap.size w3 wi ∧ Hid (SA wi w3.heap.size 49 S) ∧ Hid (wi.ownsRow (w3.heap.size + 1) 3 1 (.slice Au d.length cu) d.length (valsN d))) (fun x _ => k + 1 - (intOf x).toNat)
      case atStart => exact ⟨0, Nat.zero_le _, rfl, hB, HS, HO⟩
      case round =>
        clear HS HO hB hsz
        obtain ⟨j, hj, rfl, hB, HS, HO⟩ := hrel
        have hsz := hB.size
        have kS := HS.out
        obtain ⟨J, hJ⟩ : ∃ J, J = j + 1 := ⟨_, rfl⟩
        have hJ4 : J ≤ 4 := by omega
        have hJ1 : 1 ≤ J := by omega
        rw [← hJ]
        have HJ := Lib.hid hJ
        clear hJ
        by_cases hlt : j < k
        · have e2 : doneN s f t (stepS s S J) = 0 := by rw [HJ.out]; exact HZ'.out j hlt
          have E2 := Lib.hid e2
          clear e2
          go_wp2_with (first | (refine wpList_load_row rfl 49 (.tmp 12) rfl w3.heap.size rfl _ _ _ _ kS Try.underlying49 rfl ?_ ?_; (rw [setC_size]; exact sizeSet)) | (go_at_call 32; go_loud (refine (setBehind_any _ s J f 0 _ S _ (hC3.below hB hgl) HI.out hs6 hJ1 (by omega)).mono ?_; rintro e w7 ⟨rfl, hx7⟩; have hB7 := hB.trans (hx7.mono hsz))) | (go_at_call 31; go_loud (refine (doneLists_any t _ s f 0 _ (stepS s S J) _ (hC3.below hB7 hgl) (stepS_in HI.out _) hs6 hf4 ht12).mono ?_; rintro e w8 ⟨rfl, hx8⟩; rw [E2.out])))
          have hx78 := hx7.trans (hx8.mono hx7.size)
          have hB8 := hB.trans (hx78.mono hsz)
          have kS8 := Lib.hid (kS.below hx78 kS.lt)
          have hO8 := Lib.hid (own_below HO.out hx78)
          go_roundw
          case rel =>
            have ej := HJ.out
            subst ej
            exact ⟨j + 1, hlt, by go_num, hB8, kS8, hO8⟩
          case measure => have ej := HJ.out; simp [intOf]; omega
        · obtain rfl : j = k := by omega
          obtain ⟨D, hD⟩ : ∃ D, D = doneN s f t (stepS s S J) := ⟨_, rfl⟩
          have hD0 : 0 < D := by rw [hD, HJ.out]; exact HP'.out
          have eD : ((D : Int) == 0) = false := beq_eq_false_iff_ne.2 (by omega)
          have HD := Lib.hid hD
          clear hD
          go_wp2_with (first | (go_at_call 31; go_loud (refine (doneLists_any t _ s f 0 _ (stepS s S J) _ (hC3.below hB7 hgl) (stepS_in HI.out _) hs6 hf4 ht12).mono ?_; rintro e w8 ⟨rfl, hx8⟩; rw [← HD.out]; have hx78 := hx7.trans (hx8.mono hx7.size); have hB8 := hB.trans (hx78.mono hsz); have kS8 := kS.below hx78 kS.lt; have hO8 := own_below HO.out hx78; have hO8a := own_below hO8 (below1 w8 (.cells #[.int .i64 (J : Nat)] 3)); have lt8 := kS8.lt; have hs8 := hB8.size; have hgs8 := own_ne hO8; have hfr8 := own_from hO8)) | (at_builtin; go_loud (refine wpList_append_own_at _ rfl _ _ 25 rfl (w3.heap.size + 1) 3 i0 (.int .i64 0) 1 8 Try.underlying25 hi hz0 hz1 hz2 rfl (by decide) _ _ _ rfl hO8a ⟨w8.heap.size, 0, none⟩ 1 1 [.int .i64 (J : Nat)] rfl rfl (cell_new1K _ _ _) (one_intK _) (by unfold maxLen; omega) (by omega) (by simp; omega) ?_; intro v9 w9 hO9 hg9 _ hb9; obtain ⟨A9, c9, rfl⟩ := own_sliceK hO9; have kS9 : SA w9 w3.heap.size 49 S := (kS8.alloc _).grown hg9 hgs8; have hB9 : Below w3.heap.size w3 w9 := (hB8.alloc hs8 _).grown hg9 (by simp; omega) (fun k h => Nat.le_of_succ_le (hfr8 k h)); have hs9 := hB9.size; have hC9 := hC3.below hB9 hgl; clear hb9 hg9)) | (go_at_call 32; go_loud (refine (setBehind_any _ s J f 0 _ S w9 hC9 HI.out hs6 hJ1 (by omega)).mono ?_; rintro e w10 ⟨rfl, hx10⟩; have kS10 := kS9.below hx10 kS9.lt; have hO10 := own_below hO9 hx10; have hB10 := hB9.trans (hx10.mono hs9); clear kS9 hO9)) | (refine wpList_load_row rfl 49 (.tmp 12) rfl w3.heap.size rfl _ _ _ _ kS9 Try.underlying49 rfl ?_ ?_; (rw [setC_size]; exact sizeSet)) | (refine wpList_store_row rfl 49 (.tmp 12) (.tmp 53) rfl w3.heap.size rfl _ _ _ rfl kS10 ?_ ?_ (setC_one _) ?_; (rw [setC_size, setC_size]); (rw [setC_size]; exact sizeSet); intro w11 k11 g11 s11; have hO11 := World.ownsRow.kept hO10 g11 (.inr (own_ne hO10).symm); have hB11 : Below w3.heap.size w3 w11 := hB10.grown g11 hB10.size (fun k h => by cases h; exact Nat.le_refl _); clear s11 g11 kS10 hO10) | (go_at_call 32; go_loud (refine (setBehind_any _ s J f 0 _ S _ (hC3.below hB hgl) HI.out hs6 hJ1 (by omega)).mono ?_; rintro e w7 ⟨rfl, hx7⟩; have hB7 := hB.trans (hx7.mono hsz))) | (refine wpList_load_row rfl 49 (.tmp 12) rfl w3.heap.size rfl _ _ _ _ kS Try.underlying49 rfl ?_ ?_; (rw [setC_size]; exact sizeSet)))
          simp only [Act.put]
          go_roundw
          case rel =>
            have ej := HJ.out
            subst ej
            have hm := HM.out
            refine ⟨t, stepS s S (j + 1), d ++ [j + 1], m', by omega, rfl, hB11, Lib.hid k11, Lib.hid ?_, Lib.hid (stepS_in HI.out _), HF', Lib.hid ?_, Lib.hid ?_⟩
            · have e9 : valsN (d ++ [j + 1]) = valsN d ++ [Value.int .i64 ((j + 1 : Nat) : Int)] := by simp [valsN]
              rw [e9, List.length_append, List.length_singleton]
              exact hO11
            · have := HDM.out
              rw [hm] at this
              rw [List.append_assoc]
              exact this
            · have := HDL.out
              rw [List.length_append, List.length_singleton]
              omega
          case measure => have e1 := HT1.out; simp [intOf]; omega
theorem pairFirstThrows_both (s f a b : Int) : ∃ R : List Int × Bool, R.1.length ≤ 1048576 ∧
    (∀ W : World, Calls Try.prog 19 #[.int .i64 s, .int .i64 f, .int .i64 a, .int .i64 b] W (ReadBack W R)) ∧
    (∀ W : World, Calls Try.prog 20 #[.int .i64 s, .int .i64 f, .int .i64 a, .int .i64 b] W (IntsBack W R)) := by
  cases hp : pairOk s f a b
  · exact ⟨([], false), by simp, fun W => specFirst_no s f a b W hp, fun W => implFirst_no s f a b W hp⟩
  · obtain ⟨s, f, a, b, rfl, rfl, rfl, rfl⟩ := pair_nat hp
    have hh := pairOk_iff.1 hp
    obtain ⟨l, r, h1, h2, h3⟩ := first_all (s := s) (f := f) (a := a) (b := b) (by omega) (by omega) (by omega) (by omega)
    have hT : fewP s f a + fewP s f b ≤ 12 := few_le (by omega) (by omega)
    exact ⟨(l.map fun n : Nat => (n : Int), true), by simp; omega, fun W => specFirst_yes s f a b W hp l r h1, fun W => implFirst_yes s f a b W hp l h2 h3⟩
end Go.Proofs.Ytmiefdjbhcpnbaa

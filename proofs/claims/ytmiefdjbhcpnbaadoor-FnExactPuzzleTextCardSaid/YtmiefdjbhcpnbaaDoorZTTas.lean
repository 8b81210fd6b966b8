/- Several texts, one behind the other: L80 R80. -/
import Derived.Test.YtmiefdjbhcpnbaaDoorChecked
import Derived.KernelRfl
import Derived.StillTailTactics
import Derived.ChangeSlices
import Derived.Test.YtmiefdjbhcpnbaaDoorZTTan

namespace Go.Proofs.YtmiefdjbhcpnbaaDoor
open Go.RowKit

theorem toClue_any (k a b c : Int) (w : World) : Calls Tryd.prog 68 #[.agg #[.int .i64 k, .int .i64 a, .int .i64 b, .int .i64 c]] w fun e w' => e = .returned (.agg #[.int .i64 k, .int .i64 a, .int .i64 b, .int .i64 c]) ∧ Below w.heap.size w w' := by
  go_enter Tryd.func68, Tryd.ntmps68
  go_wp2
  exact bodyPost_ret (v := .agg #[.int .i64 k, .int .i64 a, .int .i64 b, .int .i64 c]) (by simp [results, Tryd.results68, go_sem]) rfl ⟨rfl, (((Below.refl _ _).alloc (Nat.le_refl _) _).alloc (by simp) _).alloc (by simp; omega) _⟩

/-- Two clues are equal; a name of its own, so that the walk leaves it whole. -/
def eqQd (x y : Qd) : Bool := x == y
theorem eqQd_mk (k a b c k' a' b' c' : Int) : eqQd (k, a, b, c) (k', a', b', c') = (k == k' && (a == a' && (b == b' && c == c'))) := rfl
theorem eqClue_any (k a b c k' a' b' c' : Int) (w : World) : Calls Tryd.prog 73 #[.agg #[.int .i64 k, .int .i64 a, .int .i64 b, .int .i64 c], .agg #[.int .i64 k', .int .i64 a', .int .i64 b', .int .i64 c']] w fun e w' => e = .returned (.bool (eqQd (k, a, b, c) (k', a', b', c'))) ∧ Below w.heap.size w w' := by
  have hw : Below w.heap.size w ((w.alloc (.cells #[.int .i64 k, .int .i64 a, .int .i64 b, .int .i64 c] 67)).alloc (.cells #[.int .i64 k', .int .i64 a', .int .i64 b', .int .i64 c'] 67)) := ((Below.refl _ _).alloc (Nat.le_refl _) _).alloc (by simp) _
  go_enter Tryd.func73, Tryd.ntmps73
  by_cases h : k = k'
  · subst h
    by_cases h : a = a'
    · subst h
      by_cases h : b = b'
      · subst h
        by_cases h : c = c'
        · subst h
          go_wp2
          go_ret
          exact ⟨ret_bool (by simp [eqQd_mk]), hw⟩
        · have h1 : (c != c') = true := by simpa using h
          go_wp2
          go_ret
          exact ⟨ret_bool (by simp [eqQd_mk, h]), hw⟩
      · have h1 : (b != b') = true := by simpa using h
        go_wp2
        go_ret
        exact ⟨ret_bool (by simp [eqQd_mk, h]), hw⟩
    · have h1 : (a != a') = true := by simpa using h
      go_wp2
      go_ret
      exact ⟨ret_bool (by simp [eqQd_mk, h]), hw⟩
  · have h1 : (k != k') = true := by simpa using h
    go_wp2
    go_ret
    exact ⟨ret_bool (by simp [eqQd_mk, h]), hw⟩

theorem szClueS_any (A : Option Addr) (n c : Nat) (left : Int) (w : World) (hn : n ≤ maxLen) (h0 : 0 ≤ left) (h1 : left ≤ 1048576) :
    Calls Tryd.prog 39 #[.slice A n c, .int .i64 left] w fun e w' => e = .returned (.int .i64 (if left < n then -1 else left - n)) ∧ w = w' := by
  unfold maxLen at hn
  go_enter Tryd.func39, Tryd.ntmps39
  by_cases h : left < n
  · have h2 : left - n < 0 := by omega
    go_wp2
    go_ret
    exact ⟨ret_int rfl, rfl⟩
  · have h2 : ¬ left - n < 0 := by omega
    go_wp2
    go_ret
    exact ⟨ret_int rfl, rfl⟩

theorem szPuzzle_any (q f : Int) (A : Option Addr) (n c : Nat) (left : Int) (w : World) (hn : n ≤ maxLen) (h0 : 0 ≤ left) (h1 : left ≤ 1048576) :
    Calls Tryd.prog 16 #[.agg #[.int .i64 q, .int .i64 f, .slice A n c], .int .i64 left] w fun e w' => e = .returned (.int .i64 (if left < n then -1 else left - n)) ∧ Below w.heap.size w w' := by
  have hn' := hn
  unfold maxLen at hn'
  go_enter Tryd.func16, Tryd.ntmps16
  by_cases h : left < n
  · go_wp2_with (go_at_call 39; refine (szClueS_any _ _ _ _ _ hn h0 h1).mono ?_; rintro e w' ⟨rfl, rfl⟩)
    go_ret
    exact ⟨ret_int rfl, (Below.refl _ _).alloc (Nat.le_refl _) _⟩
  · have h2 : ¬ left - n < 0 := by omega
    go_wp2_with (go_at_call 39; refine (szClueS_any _ _ _ _ _ hn h0 h1).mono ?_; rintro e w' ⟨rfl, rfl⟩)
    go_ret
    exact ⟨ret_int rfl, (Below.refl _ _).alloc (Nat.le_refl _) _⟩

theorem infoClue : (Tryd.prog.info? 67).map (fun i => (i.zero, i.size, i.bytes)) = some (some (.agg #[.int .i64 0, .int .i64 0, .int .i64 0, .int .i64 0]), 4, 32) := by kernel_rfl
set_option maxHeartbeats 1000000 in
theorem toClueS_any (A : Option Addr) (c : Nat) (L : List Qd) (w : World) (hj : RQ w w.heap.size A L) :
    Calls Tryd.prog 42 #[.slice A L.length c] w fun e w' => e = .returned (.slice (some ⟨w.heap.size, 0, none⟩) L.length L.length) ∧ RowQ w' w.heap.size 67 L.length (fun k => L.getD k zeroQ) ∧ Below w.heap.size w w' := by
  have hl := hj.1
  obtain ⟨i0, hi, hz0, hz1, hz2⟩ := info_parts infoClue
  go_enter Tryd.func42, Tryd.ntmps42
  go_wp2_with (at_make; refine wpList_make_full _ rfl _ _ 41 rfl w.heap.size 67 i0 _ 4 Tryd.underlying41 hi hz0 hz1 _ _ _ _ L.length rfl rfl rfl rfl (by rw [hz2]; omega) (by unfold maxLen; omega) (Nat.le_refl _) ?_; intro w1 hown hgrow)
  have hrow := madeQ hown rfl
  go_loopw [4] (fun i wr => ∃ k : Nat, k ≤ L.length ∧ i = .int .i64 k ∧ Below w.heap.size w wr ∧ RowQ wr w.heap.size 67 L.length (fun i => if i < k then L.getD i zeroQ else zeroQ)) (fun i _ => L.length - (intOf i).toNat)
  case atStart => exact ⟨0, Nat.zero_le _, rfl, (Below.refl _ _).grown hgrow (Nat.le_refl _) (fun j h => by cases h), hrow.congr (by simp)⟩
  case round =>
    clear hrow hown hgrow
    obtain ⟨k, hk, rfl, hb, hrow⟩ := hrel
    by_cases hlt : k < L.length
    · obtain ⟨b, off, rfl, hB, h1, h2, h3, h4⟩ := hj.at_ hb hlt
      obtain ⟨d, hd⟩ : ∃ d, d = L[k] := ⟨_, rfl⟩
      rw [← hd] at h1 h2 h3 h4
      have HD := Lib.hid hd
      clear hd
      go_wp2_with (go_at_call 68; refine (toClue_any _ _ _ _ _).mono ?_; rintro e w2 ⟨rfl, hb2⟩; have hrow2 := hrow.below hb2 hrow.lt; have d1 := (hrow2.quad hlt).1; have d2 := (hrow2.quad hlt).2.1; have d3 := (hrow2.quad hlt).2.2.1; have d4 := (hrow2.quad hlt).2.2.2; have e1 := hrow2.free (k * 4); have e2 := hrow2.free (k * 4 + 1); have e3 := hrow2.free (k * 4 + 2); have e4 := hrow2.free (k * 4 + 3))
      go_roundw
      case rel => exact ⟨k + 1, by omega, by go_num, ((((hb.trans (hb2.mono hb.size)).setCell (Nat.le_refl _) _).setCell (Nat.le_refl _) _).setCell (Nat.le_refl _) _).setCell (Nat.le_refl _) _, (hrow2.set hlt _ _ _ _).congr (fun i hi => by
        by_cases e : i = k
        · subst e; simp [hlt, HD.out]
        · have e2 : (i < k + 1) = (i < k) := by apply propext; omega
          simp [e, e2])⟩
      case measure => simp [intOf]; omega
    · obtain rfl : k = L.length := by omega
      go_wp2
      go_ret
      exact ⟨rfl, hrow.congr (fun i hi => by simp [hi]), hb⟩

theorem toPuzzle_any (q f : Int) (A : Option Addr) (c : Nat) (L : List Qd) (w : World) (hj : RQ w w.heap.size A L) :
    Calls Tryd.prog 18 #[.agg #[.int .i64 q, .int .i64 f, .slice A L.length c]] w fun e w' => ∃ g, e = .returned (.agg #[.int .i64 q, .int .i64 f, .slice (some ⟨g, 0, none⟩) L.length L.length]) ∧ w.heap.size ≤ g ∧ RowQ w' g 67 L.length (fun k => L.getD k zeroQ) ∧ Below w.heap.size w w' := by
  have hl := hj.1
  go_enter Tryd.func18, Tryd.ntmps18
  go_wp2_with fail
  refine (toClueS_any _ _ _ _ (hj.go (below3 _ _ _ _))).mono ?_
  rintro e w1 ⟨rfl, hrow, hx⟩
  simp only [World.size_alloc] at hrow hx
  have B1 := (hx.block (w.heap.size + 1) (by omega)).trans ((Below.heap_alloc _ _ _ (by simp)).trans (heap_alloc_at _ _ _ (by simp)))
  have B2 := (hx.block (w.heap.size + 1 + 1) (by omega)).trans (heap_alloc_at _ _ _ (by simp))
  have q1 := fun i => cell_of_row w1 (w.heap.size + 1) i _ _ _ B1
  have q2 := fun i => cell_of_row w1 (w.heap.size + 1 + 1) i _ _ _ B2
  have f1 := fun i => frozen_row (i := i) B1
  have f2 := fun i => frozen_row (i := i) B2
  clear B1 B2
  go_wp2
  have hx0 := (below3 w (.cells #[.int .i64 q, .int .i64 f, .slice A L.length c] 38) (.cells #[.int .i64 0, .int .i64 0, .slice none 0 0] 43) (.cells #[.int .i64 q, .int .i64 f, .slice none 0 0] 43)).trans (hx.mono (by omega))
  exact bodyPost_ret (v := .agg #[.int .i64 q, .int .i64 f, .slice (some ⟨w.heap.size + 1 + 1 + 1, 0, none⟩) L.length L.length]) (by simp [results, Tryd.results18, go_sem, q1]) rfl
    ⟨w.heap.size + 1 + 1 + 1, rfl, by omega, (((hrow.far (by dsimp only; omega) _).far (by dsimp only; omega) _).far (by dsimp only; omega) _).far (by dsimp only; omega) _, (((hx0.setCell (by dsimp only; omega) _).setCell (by dsimp only; omega) _).setCell (by dsimp only; omega) _).setCell (by dsimp only; omega) _⟩

set_option maxRecDepth 100000 in
set_option maxHeartbeats 1000000 in
theorem eqClueS_any (A A' : Option Addr) (c c' : Nat) (L L' : List Qd) (w : World) (hj : RQ w w.heap.size A L) (hj' : RQ w w.heap.size A' L') :
    Calls Tryd.prog 46 #[.slice A L.length c, .slice A' L'.length c'] w fun e w' => e = .returned (.bool (L == L')) ∧ Below w.heap.size w w' := by
  have hl := hj.1
  have hl' := hj'.1
  by_cases hne : L.length = L'.length
  · have hq : ((L.length : Int) != (L'.length : Int)) = false := bne_eq_false_iff_eq.2 (by omega)
    go_enter Tryd.func46, Tryd.ntmps46
    go_wp2
    have hne' := Lib.hid hne; clear hne
    go_loopw [5] (fun i wr => ∃ k : Nat, k ≤ L.length ∧ i = .int .i64 k ∧ Below w.heap.size w wr ∧ (L == L') = (L.drop k == L'.drop k)) (fun i _ => L.length - (intOf i).toNat)
    case atStart => exact ⟨0, Nat.zero_le _, rfl, Below.refl _ _, rfl⟩
    case round =>
      obtain ⟨k, hk, rfl, hb, hd⟩ := hrel
      have Hd := Lib.hid hd; clear hd
      by_cases hlt : k < L.length
      · have hlt' : k < L'.length := by have := hne'.out; omega
        obtain ⟨b, off, rfl, hB, h1, h2, h3, h4⟩ := hj.at_ hb hlt
        obtain ⟨b', off', rfl, hB', g1, g2, g3, g4⟩ := hj'.at_ hb hlt'
        go_wp2
        go_still_tail 8, (by kernel_rfl)
        change wpList _ _ _ _ _ wr.drew
        go_wp2_with (go_at_call 73; refine (eqClue_any _ _ _ _ _ _ _ _ _).mono ?_; rintro e w2 ⟨rfl, hb2⟩)
        · have hn : (L[k] == L'[k]) = false := by
            have h0 : (!eqQd (L[k].1, L[k].2.1, L[k].2.2.1, L[k].2.2.2) (L'[k].1, L'[k].2.1, L'[k].2.2.1, L'[k].2.2.2)) = true := by assumption
            exact (Bool.not_eq_true' _).mp h0
          go_ret
          exact ⟨ret_bool (by rw [Hd.out, drop_step _ _ hlt, drop_step _ _ hlt', List.cons_beq_cons, hn]; rfl), hb.drew.trans (hb2.mono hb.size)⟩
        · have hn : (L[k] == L'[k]) = true := by
            have h0 : (!eqQd (L[k].1, L[k].2.1, L[k].2.2.1, L[k].2.2.2) (L'[k].1, L'[k].2.1, L'[k].2.2.1, L'[k].2.2.2)) = false := by assumption
            exact (Bool.not_eq_false' _).mp h0
          go_roundw
          case rel => exact ⟨k + 1, by omega, by go_num, hb.drew.trans (hb2.mono hb.size), by rw [Hd.out, drop_step _ _ hlt, drop_step _ _ hlt', List.cons_beq_cons, hn, Bool.true_and]⟩
          case measure => simp [intOf]; omega
      · go_wp2
        go_ret
        exact ⟨ret_bool (by rw [Hd.out, List.drop_eq_nil_of_le (by omega), List.drop_eq_nil_of_le (by have := hne'.out; omega)]; rfl), hb⟩
  · have hq : ((L.length : Int) != (L'.length : Int)) = true := bne_iff_ne.2 (by omega)
    go_enter Tryd.func46, Tryd.ntmps46
    go_wp2
    go_ret
    exact ⟨ret_bool (by have h2 : ¬ L = L' := fun e => hne (by rw [e]); simpa using h2), Below.refl _ _⟩

set_option maxHeartbeats 400000 in
theorem eqPuzzle_any (q f q' f' : Int) (A A' : Option Addr) (c c' : Nat) (L L' : List Qd) (w : World) (hj : RQ w w.heap.size A L) (hj' : RQ w w.heap.size A' L') :
    Calls Tryd.prog 20 #[.agg #[.int .i64 q, .int .i64 f, .slice A L.length c], .agg #[.int .i64 q', .int .i64 f', .slice A' L'.length c']] w fun e w' => e = .returned (.bool (q == q' && f == f' && L == L')) ∧ Below w.heap.size w w' := by
  have hl := hj.1
  have hl' := hj'.1
  go_enter Tryd.func20, Tryd.ntmps20
  go_wp2_with (go_at_call 46; refine (eqClueS_any _ _ _ _ _ _ _ (hj.go (below2 _ _ _)) (hj'.go (below2 _ _ _))).mono ?_; rintro e w2 ⟨rfl, hb2⟩)
  all_goals go_ret
  all_goals first
    | exact ⟨ret_bool (by simp_all), below2 _ _ _⟩
    | exact ⟨ret_bool (by simp_all), (below2 _ _ _).trans (hb2.mono (by simp; omega))⟩

/-- What marks write, from k on. -/
def marksQ (k : Int) (i : Nat) : Qd := (k + 4 * i, k + 4 * i + 1, k + 4 * i + 2, k + 4 * i + 3)

set_option maxHeartbeats 1000000 in
theorem markClueS_any (A : Option Addr) (n c lo : Nat) (F : Nat → Qd) (k0 : Int) (w : World) (h : OQ w lo 67 A n F) (hn : n ≤ 1048576) (h0 : 0 ≤ k0) (h1 : k0 ≤ 1000000000) :
    Calls Tryd.prog 50 #[.slice A n c, .int .i64 k0] w fun e w' => e = .returned (.int .i64 (k0 + 4 * n)) ∧ OQ w' lo 67 A n (marksQ k0) ∧ w.grownBy w' (A.map (·.block)) ∧ w'.heap.size = w.heap.size ∧ (∀ B, B ≤ lo → Below B w w') := by
  go_enter Tryd.func50, Tryd.ntmps50
  go_wp2
  go_loopw [1, 5] (fun v i wr => ∃ k : Nat, k ≤ n ∧ i = .int .i64 k ∧ v = .int .i64 (k0 + 4 * k) ∧ OQ wr lo 67 A n (fun j => if j < k then marksQ k0 j else F j) ∧ w.grownBy wr (A.map (·.block)) ∧ Hid (wr.heap.size = w.heap.size) ∧ Hid (∀ B, B ≤ lo → Below B w wr)) (fun _ i _ => n - (intOf i).toNat)
  case atStart => exact ⟨0, Nat.zero_le _, rfl, by simp, h.congr (by simp), grown_refl _ _, Lib.hid rfl, Lib.hid (fun _ _ => Below.refl _ _)⟩
  case round =>
    obtain ⟨k, hk, rfl, rfl, ho, hg, hsz, hbl⟩ := hrel
    by_cases hlt : k < n
    · obtain ⟨g, rfl, hlo, hr⟩ := ho.get hlt
      obtain ⟨c1, c2, c3, c4⟩ := hr.quad hlt
      have f1 := hr.free (k * 4)
      have f2 := hr.free (k * 4 + 1)
      have f3 := hr.free (k * 4 + 2)
      have f4 := hr.free (k * 4 + 3)
      go_wp2
      go_roundw
      case rel => exact ⟨k + 1, by omega, by go_num, by go_num, .inr ⟨g, rfl, hlo, (hr.set hlt _ _ _ _).congr (fun j hj => by
        by_cases e : j = k
        · subst e; simp [marksQ, Int.add_assoc]
        · have e2 : (j < k + 1) = (j < k) := by apply propext; omega
          simp [e, e2])⟩, grown_setCell (grown_setCell (grown_setCell (grown_setCell hg ⟨g, k * 4, none⟩ _ rfl) ⟨g, k * 4 + 1, none⟩ _ rfl) ⟨g, k * 4 + 2, none⟩ _ rfl) ⟨g, k * 4 + 3, none⟩ _ rfl, Lib.hid (by simp; exact hsz.out), Lib.hid (fun B hB => ((((hbl.out B hB).setCell (by dsimp only; omega) _).setCell (by dsimp only; omega) _).setCell (by dsimp only; omega) _).setCell (by dsimp only; omega) _)⟩
      case measure => simp [intOf]; omega
    · obtain rfl : k = n := by omega
      go_wp2
      go_ret
      exact ⟨rfl, ho.congr (fun j hj => by simp [hj]), hg, hsz.out, hbl.out⟩

set_option maxHeartbeats 1000000 in
theorem heldClueS_any (A : Option Addr) (n c lo : Nat) (k0 : Int) (w : World) (h : OQ w lo 67 A n (marksQ k0)) (hn : n ≤ 1048576) (h0 : 0 ≤ k0) (h1 : k0 ≤ 1000000000) :
    Calls Tryd.prog 51 #[.slice A n c, .int .i64 k0] w fun e w' => e = .returned (.int .i64 (k0 + 4 * n)) ∧ w = w' := by
  go_enter Tryd.func51, Tryd.ntmps51
  go_wp2
  go_loop [1, 5] (fun v i => ∃ k : Nat, k ≤ n ∧ i = .int .i64 k ∧ v = .int .i64 (k0 + 4 * k)) (fun _ i => n - (intOf i).toNat)
  case atStart => exact ⟨0, Nat.zero_le _, rfl, by simp⟩
  case round =>
    obtain ⟨k, hk, rfl, rfl⟩ := hrel
    by_cases hlt : k < n
    · obtain ⟨g, rfl, hlo, hr⟩ := h.get hlt
      have c1 : w.cell? ⟨g, k * 4, none⟩ = some (.int .i64 (k0 + 4 * k)) := (hr.quad hlt).1
      have c2 : w.cell? ⟨g, k * 4 + 1, none⟩ = some (.int .i64 (k0 + 4 * k + 1)) := (hr.quad hlt).2.1
      have c3 : w.cell? ⟨g, k * 4 + 2, none⟩ = some (.int .i64 (k0 + 4 * k + 2)) := (hr.quad hlt).2.2.1
      have c4 : w.cell? ⟨g, k * 4 + 3, none⟩ = some (.int .i64 (k0 + 4 * k + 3)) := (hr.quad hlt).2.2.2
      go_wp2
      go_round
      case rel => exact ⟨k + 1, by omega, by go_num, by go_num⟩
      case measure => simp [intOf]; omega
    · obtain rfl : k = n := by omega
      go_wp2
      go_ret
      exact ⟨rfl, rfl⟩

theorem markPuzzle_any (q f : Int) (A : Option Addr) (n c lo : Nat) (F : Nat → Qd) (k0 : Int) (w : World) (h : OQ w lo 67 A n F) (hn : n ≤ 1048576) (h0 : 0 ≤ k0) (h1 : k0 ≤ 1000000000) :
    Calls Tryd.prog 23 #[.agg #[.int .i64 q, .int .i64 f, .slice A n c], .int .i64 k0] w fun e w' => e = .returned (.int .i64 (k0 + 4 * n)) ∧ OQ w' lo 67 A n (marksQ k0) ∧ w.grownBy w' (A.map (·.block)) := by
  have ha : OQ (w.alloc (.cells #[.int .i64 q, .int .i64 f, .slice A n c] 43)) lo 67 A n F := by
    rcases h with h | ⟨g, e, hl, h⟩
    · exact .inl h
    · exact .inr ⟨g, e, hl, h.alloc _⟩
  go_enter Tryd.func23, Tryd.ntmps23
  go_wp2_with (go_at_call 50; refine (markClueS_any _ _ _ _ _ _ _ ha hn h0 h1).mono ?_; rintro e w2 ⟨rfl, ho, hg, _, _⟩)
  go_ret
  exact ⟨rfl, ho, grown_trans (World.grownBy_alloc w _ _) hg⟩

theorem heldPuzzle_any (q f : Int) (A : Option Addr) (n c lo : Nat) (k0 : Int) (w : World) (h : OQ w lo 67 A n (marksQ k0)) (hn : n ≤ 1048576) (h0 : 0 ≤ k0) (h1 : k0 ≤ 1000000000) :
    Calls Tryd.prog 24 #[.agg #[.int .i64 q, .int .i64 f, .slice A n c], .int .i64 k0] w fun e w' => e = .returned (.int .i64 (k0 + 4 * n)) ∧ Below w.heap.size w w' := by
  have ha : OQ (w.alloc (.cells #[.int .i64 q, .int .i64 f, .slice A n c] 43)) lo 67 A n (marksQ k0) := h.below (below1 _ _) (Nat.le_refl _)
  have h2 : ¬ k0 + 4 * n < 0 := by omega
  go_enter Tryd.func24, Tryd.ntmps24
  go_wp2_with (go_at_call 51; refine (heldClueS_any _ _ _ _ _ _ ha hn h0 h1).mono ?_; rintro e w2 ⟨rfl, rfl⟩)
  go_ret
  exact ⟨rfl, below1 _ _⟩
end Go.Proofs.YtmiefdjbhcpnbaaDoor

namespace Go.Proofs.YtmiefdjbhcpnbaaDoor
open Go.ChangeShapes Go.WideShapes Go.ChangeAt Go.RowKit Go.Deep Go.Joins

set_option maxRecDepth 100000 in
theorem open_clue {H : Type} {enc : TypeId × Value → H} {W : World} {base : Nat} {v : Value} {d : DataW H} {p : List MemPlace} (hval : Value.okWide Tryd.prog W .any base 95 v) (h : DataW.Trod enc Tryd.prog W 0 (fun _ => true) true 95 v d p) :
    ∃ k a b c : Int, v = .agg #[.int .i64 k, .int .i64 a, .int .i64 b, .int .i64 c] := by
  obtain ⟨v0, v1, v2, v3, y0, y1, y2, y3, n, rfl, _, _, h0, h1, h2, h3⟩ := open_agg4 Tryd.underlying95 (by kernel_rfl) (by kernel_rfl) hval h
  obtain ⟨n0, q0, _, _⟩ := DataW.trod_int Tryd.underlying3 h0
  obtain ⟨n1, q1, _, _⟩ := DataW.trod_int Tryd.underlying3 h1
  obtain ⟨n2, q2, _, _⟩ := DataW.trod_int Tryd.underlying3 h2
  obtain ⟨n3, q3, _, _⟩ := DataW.trod_int Tryd.underlying3 h3
  simp at q0 q1 q2 q3
  subst q0 q1 q2 q3
  exact ⟨n0, n1, n2, n3, rfl⟩

set_option maxRecDepth 100000 in
theorem open_clues {H : Type} {enc : TypeId × Value → H} {W : World} {fuel : Nat} {v : Value} {y : DataW H × List MemPlace} (h : DataW.trod enc Tryd.prog W 0 (fun _ => true) true fuel 36 [v] = some y) :
    ∃ A n c, v = .slice A n c ∧ n ≤ maxLen ∧ (n ≤ 1048576 → ∃ L : List Qd, L.length = n ∧ RQ W W.heap.size A L) := by
  rcases open_slice Tryd.underlying36 h with ⟨hcs, _⟩ | ⟨a, len, cap, m, n, D, Pl, hcs, _, hl, hm, hmm, _, hi⟩
  · simp at hcs
    exact ⟨none, 0, 0, hcs, Nat.zero_le _, fun _ => ⟨[], rfl, by simp, .inl rfl⟩⟩
  · simp at hcs
    refine ⟨some a, len, cap, hcs, Nat.le_trans hl hm, fun hn => ?_⟩
    simp only [if_true] at hmm
    subst hmm
    have hC : Tryd.prog.cellsOf 95 = 4 := by kernel_rfl
    have H1 : ∀ i, i < len → ∃ q : Qd, W.cell? (a.add (i * 4)) = some (.int .i64 q.1) ∧ W.cell? ((a.add (i * 4)).add 1) = some (.int .i64 q.2.1) ∧ W.cell? ((a.add (i * 4)).add 2) = some (.int .i64 q.2.2.1) ∧ W.cell? ((a.add (i * 4)).add 3) = some (.int .i64 q.2.2.2) := fun i hlt => by
      obtain ⟨cs', hc, ht⟩ := hi i (by omega)
      rw [hC] at hc
      obtain ⟨ys, n', hn', hy, hlen, hyl, hf⟩ := DataW.trod_struct Tryd.underlying95 ht
      obtain ⟨_, hcl, hat⟩ := World.cells?_some hc
      match cs', hcl with
      | [v0, v1, v2, v3], _ =>
        have e0 : Tryd.prog.cellsOf 3 = 1 := by kernel_rfl
        have h0 : DataW.trod enc Tryd.prog W 0 (fun _ => true) true n' 3 [v0] = ys[0]? := by simpa [e0] using hf 0 _ rfl
        have h1 : DataW.trod enc Tryd.prog W 0 (fun _ => true) true n' 3 [v1] = ys[1]? := by simpa [e0] using hf 1 _ rfl
        have h2 : DataW.trod enc Tryd.prog W 0 (fun _ => true) true n' 3 [v2] = ys[2]? := by simpa [e0] using hf 2 _ rfl
        have h3 : DataW.trod enc Tryd.prog W 0 (fun _ => true) true n' 3 [v3] = ys[3]? := by simpa [e0] using hf 3 _ rfl
        have c0 := hat 0 (by omega)
        have c1 := hat 1 (by omega)
        have c2 := hat 2 (by omega)
        have c3 := hat 3 (by omega)
        obtain ⟨n0, q0, _, _⟩ := DataW.trod_int Tryd.underlying3 (h0.trans (List.getElem?_eq_getElem (by rw [hyl]; decide)))
        obtain ⟨n1, q1, _, _⟩ := DataW.trod_int Tryd.underlying3 (h1.trans (List.getElem?_eq_getElem (by rw [hyl]; decide)))
        obtain ⟨n2, q2, _, _⟩ := DataW.trod_int Tryd.underlying3 (h2.trans (List.getElem?_eq_getElem (by rw [hyl]; decide)))
        obtain ⟨n3, q3, _, _⟩ := DataW.trod_int Tryd.underlying3 (h3.trans (List.getElem?_eq_getElem (by rw [hyl]; decide)))
        simp at q0 q1 q2 q3
        subst q0 q1 q2 q3
        refine ⟨(n0, n1, n2, n3), by simpa [Addr.add] using c0, by simpa using c1, by simpa using c2, by simpa using c3⟩
    obtain ⟨F, hF⟩ : ∃ F : Nat → Qd, ∀ i, i < len → W.cell? (a.add (i * 4)) = some (.int .i64 (F i).1) ∧ W.cell? ((a.add (i * 4)).add 1) = some (.int .i64 (F i).2.1) ∧ W.cell? ((a.add (i * 4)).add 2) = some (.int .i64 (F i).2.2.1) ∧ W.cell? ((a.add (i * 4)).add 3) = some (.int .i64 (F i).2.2.2) :=
      ⟨fun i => if hlt : i < len then Classical.choose (H1 i hlt) else zeroQ, fun i hlt => by simp only [hlt, dite_true]; exact Classical.choose_spec (H1 i hlt)⟩
    refine ⟨(List.range len).map F, by simp, by simpa using hn, ?_⟩
    by_cases h0 : len = 0
    · subst h0; exact .inl rfl
    · obtain ⟨b, off, spot⟩ := a
      have hspot : spot = none := by
        have := (hF 0 (by omega)).1
        simpa [Addr.add] using World.cell?_spot this
      subst hspot
      refine .inr ⟨b, off, rfl, cell_lt (o := off) (by simpa [Addr.add] using (hF 0 (by omega)).1), fun k hk => ?_⟩
      have hk' : k < len := by simpa using hk
      have hq := hF k hk'
      simp only [List.getElem_map, List.getElem_range]
      by_cases hk0 : k = 0
      · subst hk0
        exact ⟨by simpa [Addr.add] using hq.1, by simpa [Addr.add] using hq.2.1, by simpa [Addr.add] using hq.2.2.1, by simpa [Addr.add] using hq.2.2.2⟩
      · have e4 : ¬ k * 4 = 0 := by omega
        exact ⟨by simpa [Addr.add, e4] using hq.1, by simpa [Addr.add, e4] using hq.2.1, by simpa [Addr.add, e4] using hq.2.2.1, by simpa [Addr.add, e4] using hq.2.2.2⟩

set_option maxRecDepth 100000 in
theorem open_puzzle {H : Type} {enc : TypeId × Value → H} {W : World} {base : Nat} {v : Value} {d : DataW H} {p : List MemPlace} (hval : Value.okWide Tryd.prog W .any base 38 v) (h : DataW.Trod enc Tryd.prog W 0 (fun _ => true) true 38 v d p) :
    ∃ q f A n c, v = .agg #[.int .i64 q, .int .i64 f, .slice A n c] ∧ n ≤ maxLen ∧ (n ≤ 1048576 → ∃ L : List Qd, L.length = n ∧ RQ W W.heap.size A L) := by
  obtain ⟨v0, v1, v2, y0, y1, y2, n, rfl, _, _, h0, h1, h2⟩ := open_agg3 Tryd.underlying38 (by kernel_rfl) (by kernel_rfl) hval h
  obtain ⟨n0, q0, _, _⟩ := DataW.trod_int Tryd.underlying3 h0
  obtain ⟨n1, q1, _, _⟩ := DataW.trod_int Tryd.underlying3 h1
  obtain ⟨A, len, c, rfl, hn, hj⟩ := open_clues h2
  simp at q0 q1
  subst q0 q1
  exact ⟨n0, n1, A, len, c, rfl, hn, hj⟩
end Go.Proofs.YtmiefdjbhcpnbaaDoor

/-
  TurnJumps, the model's and the program's.
-/
import Derived.Test.YtndodohngeaklaaC1ai
import Derived.Test.YtndodohngeaklaaC1al
namespace Go.Proofs.Ytndodohngeaklaa
open Go.RowKit

theorem turnR_wf {s f o : Int} {js : List (Int × Int)} (h : wfJ js) : wfJ (turnR s f o js).1.2.2.2 := by
  unfold turnR
  split
  · intro j hj
    have hj2 := (turned_perm js).mem_iff.1 hj
    obtain ⟨i, hi, rfl⟩ := List.mem_map.1 hj2
    exact ⟨(h i hi).2, (h i hi).1⟩
  · exact fun j hj => by simp [noBd] at hj
theorem map_snoc (js : List (Int × Int)) (k : Nat) (hk : k < js.length) : (js.take (k + 1)).map turnOf = (js.take k).map turnOf ++ [turnOf js[k]] := by
  rw [List.take_succ_eq_append_getElem hk, List.map_append]; rfl

set_option maxRecDepth 100000 in
set_option maxHeartbeats 1000000 in
theorem implTurnJumps_any (s f o : Int) (A : Option Addr) (c : Nat) (js : List (Int × Int)) (w : World) (hj : RJ w w.heap.size A js) :
    Calls Try.prog 22 #[.agg #[.int .i64 s, .int .i64 f, .int .i64 o, .slice A js.length c]] w (BdBack w.heap.size w (turnR s f o js)) := by
  have hl := hj.1
  obtain ⟨ti, hi, hz0, hz1, hz2⟩ := info_parts infoJumpW
  obtain ⟨W0, hW0⟩ : ∃ W0, W0 = (w.alloc (.cells #[.int .i64 s, .int .i64 f, .int .i64 o, .slice A js.length c] 30)).alloc (.cells #[.int .i64 0, .int .i64 0, .int .i64 0, .slice none 0 0] 30) := ⟨_, rfl⟩
  have z0 : W0.heap.size = w.heap.size + 2 := by rw [hW0]; simp
  have h0 : Below w.heap.size w W0 := by rw [hW0]; exact below2 _ _ _
  have k1 : W0.heap[w.heap.size]? = some (.cells #[.int .i64 s, .int .i64 f, .int .i64 o, .slice A js.length c] 30 (0, 0)) := by rw [hW0]; exact (Below.heap_alloc _ _ _ (by simp)).trans (heap_alloc_at _ _ _ rfl)
  have k3 : W0.heap[w.heap.size + 1]? = some (.cells #[.int .i64 0, .int .i64 0, .int .i64 0, .slice none 0 0] 30 (0, 0)) := by rw [hW0]; exact heap_alloc_at _ _ _ (by simp)
  cases hg : good ⟨s, f, o, js⟩
  · have ht : turnR s f o js = noBd := by rw [turnR, hg, Bool.false_and]; rfl
    rw [ht]
    have HG := Lib.hid hg; clear hg ht
    go_enter Try.func22, Try.ntmps22
    go_wp2_with fail
    rw [← hW0]
    refine (implIsBoard_any _ _ _ _ _ _ _ (hj.later h0 h0.size)).mono ?_
    rintro e w1 ⟨rfl, hx⟩
    rw [HG.out]
    rw [z0] at hx
    have q3 := cell_at hx (by omega) k3
    have f3 := free_at hx (by omega) k3
    have hb1 := h0.trans (hx.mono (by omega))
    clear hW0
    go_wp2
    exact bodyPost_ret (v := .tuple #[.agg #[.int .i64 0, .int .i64 0, .int .i64 0, .slice none 0 0], .bool false]) (by simp [results, Try.results22, go_sem, q3]) rfl
      ⟨none, 0, rfl, .inl rfl, (((hb1.setCell (by dsimp only; omega) _).setCell (by dsimp only; omega) _).setCell (by dsimp only; omega) _).setCell (by dsimp only; omega) _⟩
  · have hz := good_sizes hg
    obtain ⟨⟨⟨r1, r2, r3, rl⟩, rb⟩, hR⟩ : ∃ R, R = turnR s f o js := ⟨_, rfl⟩
    rw [← hR]
    have hwf : wfJ (js.map turnOf) := fun j hjm => by
      obtain ⟨i, hi, rfl⟩ := List.mem_map.1 hjm
      exact ⟨(hj.2.1 i hi).2, (hj.2.1 i hi).1⟩
    have HG := Lib.hid hg; have HR := Lib.hid hR; clear hg hR
    go_enter Try.func22, Try.ntmps22
    go_wp2_with fail
    rw [← hW0]
    refine (implIsBoard_any _ _ _ _ _ _ _ (hj.later h0 h0.size)).mono ?_
    rintro e w1 ⟨rfl, hx⟩
    rw [HG.out]
    rw [z0] at hx
    have q1 := cell_at hx (by omega) k1
    have HW := Lib.hid hW0
    clear hW0
    go_wp2_with fail
    go_loopw [4, 14, 6] (fun v i _ wr => ∃ k : Nat, k ≤ js.length ∧ i = .int .i64 (k : Int) ∧ Below (w.heap.size + 2) W0 wr ∧ wr.ownsRow (w.heap.size + 2) 38 2 v k (flatJ ((js.take k).map turnOf))) (fun _ i _ _ => js.length - (intOf i).toNat)
    case atStart => exact ⟨0, Nat.zero_le _, rfl, hx, World.ownsRow_nil _ _ _ _⟩
    case round =>
      clear hx q1
      obtain ⟨k, hk, rfl, hb, ho⟩ := hrel
      have hs := hb.size
      by_cases hlt : k < js.length
      · have h3 : (k : Int) < (js.length : Int) := by omega
        obtain ⟨bb, off, rfl, hB, c1, c2⟩ := hj.at_ (h0.trans (hb.mono (show w.heap.size ≤ w.heap.size + 2 by omega))) hlt
        have HF := Lib.hid (show flatJ ((js.take (k + 1)).map turnOf) = flatJ ((js.take k).map turnOf) ++ [.int .i64 js[k].2, .int .i64 js[k].1] by rw [map_snoc js k hlt, flatJ_app]; rfl)
        go_wp2_with (at_builtin; go_loud (refine wpList_append_own _ rfl _ _ 28 rfl (w.heap.size + 2) 38 ti (.agg #[.int .i64 0, .int .i64 0]) 2 16 Try.underlying28 hi hz0 hz1 hz2 rfl (by decide) _ _ _ rfl ((ho.alloc _).alloc _) ⟨wr.heap.size + 1, 0, none⟩ 1 1 [.int .i64 js[k].2, .int .i64 js[k].1] rfl rfl (cell_new2' _ _ _ _ (by simp)) (two_int _ _) (by unfold maxLen; omega) (by omega) (by simp; omega) ?_; intro v1 w4 ho4 hg4 _))
        go_roundw
        case rel =>
          exact ⟨k + 1, by omega, by go_num, ((hb.alloc (by omega) _).alloc (by simp; omega) _).grown hg4 (by simp; omega) (fun g hg => own_from ho g hg), by rw [HF.out]; exact ho4⟩
        case measure => simp [intOf]; omega
      · obtain rfl : k = js.length := by omega
        have h3 : ¬ (js.length : Int) < (js.length : Int) := by omega
        rw [List.take_of_length_le (Nat.le_refl _)] at ho
        obtain ⟨A2, c2, rfl⟩ := own_sl ho
        have q1 := cell_at hb (by omega) k1
        have HLN := Lib.hid (show (js.map turnOf).length = js.length by simp)
        go_wp2_with fail
        refine (withJumps_any s f o A A2 js.length c c2 (w.heap.size + 2) js.length (js.map turnOf) HLN.out _ (own_row ho HLN.out) hl hwf (by omega)).mono ?_
        rintro e w5 ⟨L', hp, hu, hback⟩
        rw [turnR_sorted HG.out hp hu, ← HR.out] at hback
        obtain ⟨A5, c5, rfl, ho5, hx5⟩ := hback
        dsimp only at ho5
        have hb5 : Below (w.heap.size + 2) W0 w5 := hb.trans (hx5.mono (Nat.le_refl _))
        have q3 := cell_at hb5 (by omega) k3
        have f3 := free_at hb5 (by omega) k3
        have hb6 := h0.trans (hb5.mono (show w.heap.size ≤ w.heap.size + 2 by omega))
        clear q1
        go_wp2_with fail
        refine bodyPost_ret (v := .tuple #[.agg #[.int .i64 r1, .int .i64 r2, .int .i64 r3, .slice A5 rl.length c5], .bool rb]) (by simp [results, Try.results22, go_sem, q3]) rfl ?_
        exact ⟨A5, c5, rfl, ((((ho5.farlo (p := ⟨w.heap.size + 1, 0, none⟩) (by dsimp only; omega) (.int .i64 r1)).farlo (p := ⟨w.heap.size + 1, 1, none⟩) (by dsimp only; omega) (.int .i64 r2)).farlo (p := ⟨w.heap.size + 1, 2, none⟩) (by dsimp only; omega) (.int .i64 r3)).farlo (p := ⟨w.heap.size + 1, 3, none⟩) (by dsimp only; omega) (.slice A5 rl.length c5)).lo (by omega), (((hb6.setCell (by dsimp only; omega) _).setCell (by dsimp only; omega) _).setCell (by dsimp only; omega) _).setCell (by dsimp only; omega) _⟩

/-- A row of jumps as a board's slice, cut open. -/
theorem own_addr {w : World} {base n : Nat} {t : TypeId} {A : Option Addr} {c : Nat} {xs : List Value} (h : w.ownsRow base t 2 (.slice A n c) n xs) (hn : 0 < n) : ∃ g, A = some ⟨g, 0, none⟩ ∧ n ≤ c := by
  obtain ⟨_, ⟨hv, h0⟩ | ⟨g, cap, cs, hv, _, _, hc, _⟩⟩ := h
  · omega
  · injection hv with h1 h2 h3
    subst h3; exact ⟨g, h1, hc⟩
/-- sqWith on a board whose jumps the call itself made. -/
theorem sqWith_own (s f o a b : Int) (A : Option Addr) (n c base : Nat) (L : List (Int × Int)) (hn : L.length = n) (w : World) (ho : w.ownsRow base 38 2 (.slice A n c) n (flatJ L)) (h0 : n = 0 → A = none ∧ c = 0) (hl : n ≤ 1000) (hw : wfJ L) :
    Calls Try.prog 38 #[.agg #[.int .i64 s, .int .i64 f, .int .i64 o, .slice A n c], .agg #[.int .i64 a, .int .i64 b]] w fun e w' =>
      ∃ A' c', e = .returned (.agg #[.int .i64 s, .int .i64 f, .int .i64 o, .slice A' (n + 1) c']) ∧ w'.ownsRow w.heap.size 38 2 (.slice A' (n + 1) c') (n + 1) (flatJ (put L (a, b))) ∧ Below w.heap.size w w' := by
  rcases Nat.eq_zero_or_pos n with h | h
  · obtain ⟨rfl, rfl⟩ := h0 h
    subst h
    obtain rfl : L = [] := List.length_eq_zero_iff.1 hn
    refine (sqWith_nil s f o a b w).mono ?_
    rintro e w' ⟨v, rfl, h1, h2⟩
    obtain ⟨A', c', rfl⟩ := own_sl h1
    exact ⟨A', c', rfl, h1, h2⟩
  · obtain ⟨g, rfl, hc⟩ := own_addr ho h
    have hR := (own_row ho hn).rjl hn (by omega) hw
    subst hn
    refine (sqWith_some s f o a b g 0 c L w hR hc hl).mono ?_
    rintro e w' ⟨v, rfl, h1, h2⟩
    obtain ⟨A', c', rfl⟩ := own_sl h1
    exact ⟨A', c', rfl, h1, h2⟩
theorem turned_wf {js : List (Int × Int)} (h : wfJ js) (k : Nat) : wfJ (turned (js.take k)) := fun j hj => by
  obtain ⟨i, hi, rfl⟩ := List.mem_map.1 ((turned_perm _).mem_iff.1 hj)
  exact ⟨(h i (List.mem_of_mem_take hi)).2, (h i (List.mem_of_mem_take hi)).1⟩

set_option maxRecDepth 100000 in
set_option maxHeartbeats 1000000 in
theorem specTurnJumps_any (s f o : Int) (A : Option Addr) (c : Nat) (js : List (Int × Int)) (w : World) (hj : RJ w w.heap.size A js) :
    Calls Try.prog 21 #[.agg #[.int .i64 s, .int .i64 f, .int .i64 o, .slice A js.length c]] w (BdBack w.heap.size w (turnR s f o js)) := by
  have hl := hj.1
  obtain ⟨W0, hW0⟩ : ∃ W0, W0 = (w.alloc (.cells #[.int .i64 s, .int .i64 f, .int .i64 o, .slice A js.length c] 30)).alloc (.cells #[.int .i64 0, .int .i64 0, .int .i64 0, .slice none 0 0] 30) := ⟨_, rfl⟩
  have z0 : W0.heap.size = w.heap.size + 2 := by rw [hW0]; simp
  have h0 : Below w.heap.size w W0 := by rw [hW0]; exact below2 _ _ _
  have k1 : W0.heap[w.heap.size]? = some (.cells #[.int .i64 s, .int .i64 f, .int .i64 o, .slice A js.length c] 30 (0, 0)) := by rw [hW0]; exact (Below.heap_alloc _ _ _ (by simp)).trans (heap_alloc_at _ _ _ rfl)
  have k3 : W0.heap[w.heap.size + 1]? = some (.cells #[.int .i64 0, .int .i64 0, .int .i64 0, .slice none 0 0] 30 (0, 0)) := by rw [hW0]; exact heap_alloc_at _ _ _ (by simp)
  cases hg : good ⟨s, f, o, js⟩
  · have ht : turnR s f o js = noBd := by rw [turnR, hg, Bool.false_and]; rfl
    rw [ht]
    have HG := Lib.hid hg; clear hg ht
    go_enter Try.func21, Try.ntmps21
    go_wp2_with fail
    rw [← hW0]
    refine (sqGood_any _ _ _ _ _ _ _ (hj.later h0 h0.size)).mono ?_
    rintro e w1 ⟨rfl, hx⟩
    rw [HG.out]
    rw [z0] at hx
    have q3 := cell_at hx (by omega) k3
    have f3 := free_at hx (by omega) k3
    have hb1 := h0.trans (hx.mono (by omega))
    clear hW0
    go_wp2
    exact bodyPost_ret (v := .tuple #[.agg #[.int .i64 0, .int .i64 0, .int .i64 0, .slice none 0 0], .bool false]) (by simp [results, Try.results21, go_sem, q3]) rfl
      ⟨none, 0, rfl, .inl rfl, (((hb1.setCell (by dsimp only; omega) _).setCell (by dsimp only; omega) _).setCell (by dsimp only; omega) _).setCell (by dsimp only; omega) _⟩
  · have hz := good_sizes hg
    obtain ⟨⟨⟨r1, r2, r3, rl⟩, rb⟩, hR⟩ : ∃ R, R = turnR s f o js := ⟨_, rfl⟩
    rw [← hR]
    have HG := Lib.hid hg; have HR := Lib.hid hR; clear hg hR
    go_enter Try.func21, Try.ntmps21
    go_wp2_with fail
    rw [← hW0]
    refine (sqGood_any _ _ _ _ _ _ _ (hj.later h0 h0.size)).mono ?_
    rintro e w1 ⟨rfl, hx⟩
    rw [HG.out]
    rw [z0] at hx
    have q1 := cell_at hx (by omega) k1
    have hs1 := hx.size
    have HW := Lib.hid hW0
    clear hW0
    have hx2 := hx.alloc (by omega) (.cells #[.int .i64 s, .int .i64 f, .int .i64 o, .slice none 0 0] 30)
    have kO : (w1.alloc (.cells #[.int .i64 s, .int .i64 f, .int .i64 o, .slice none 0 0] 30)).heap[w1.heap.size]? = some (.cells #[.int .i64 s, .int .i64 f, .int .i64 o, .slice none 0 0] 30 (0, 0)) := heap_alloc_at _ _ _ rfl
    have q2 := cell_at hx2 (by omega) k1
    go_wp2_with fail
    go_loopw [21, 6] (fun i _ wr => ∃ (k : Nat) (A' : Option Addr) (c' : Nat), k ≤ js.length ∧ i = .int .i64 (k : Int) ∧ Below (w.heap.size + 2) W0 wr ∧ wr.heap[w1.heap.size]? = some (.cells #[.int .i64 s, .int .i64 f, .int .i64 o, .slice A' k c'] 30 (0, 0)) ∧ (k = 0 → A' = none ∧ c' = 0) ∧ wr.ownsRow (w1.heap.size + 1) 38 2 (.slice A' k c') k (flatJ (turned (js.take k)))) (fun i _ _ => js.length - (intOf i).toNat)
    case atStart => exact ⟨0, none, 0, Nat.zero_le _, rfl, hx2, kO, fun _ => ⟨rfl, rfl⟩, World.ownsRow_nil _ _ _ _⟩
    case round =>
      clear hx q1 q2 hx2 kO
      obtain ⟨k, A', c', hk, rfl, hb, kO, h00, ho⟩ := hrel
      have hs := hb.size
      have hOl := heap_lt kO
      by_cases hlt : k < js.length
      · have h3 : (k : Int) < (js.length : Int) := by omega
        obtain ⟨bb, off, rfl, hB, c1, c2⟩ := hj.at_ (h0.trans (hb.mono (show w.heap.size ≤ w.heap.size + 2 by omega))) hlt
        have HT := Lib.hid (turned_snoc js k hlt)
        have HLN := Lib.hid (show (turned (js.take k)).length = k by rw [turned_len, List.length_take]; omega)
        have bj := (Below.refl wr.heap.size wr).alloc (Nat.le_refl _) (.cells #[.int .i64 js[k].1, .int .i64 js[k].2] 38)
        have qO := cell_at bj hOl kO
        have H00 := Lib.hid h00; clear h00
        go_wp2_with fail
        refine (sqWith_own s f o _ _ A' k c' (w1.heap.size + 1) _ HLN.out _ (own_below ho bj) H00.out (by omega) (turned_wf hj.2.1 k)).mono ?_
        rintro e w4 ⟨A4, c4, rfl, ho4, hx4⟩
        have hx4b := bj.trans (hx4.mono (by simp))
        have hs4 := hx4b.size
        have kO4 := (hx4b.block _ hOl).trans kO
        have qO4 := fun i => cell_of_row w4 w1.heap.size i _ _ _ kO4
        have fO4 := fun i => frozen_row (i := i) kO4
        have hb4 := hb.trans (hx4b.mono (by omega))
        simp only [World.size_alloc] at ho4
        go_wp2
        go_roundw
        case rel =>
          refine ⟨k + 1, A4, c4, by omega, by go_num, (((hb4.setCell (by dsimp only; omega) _).setCell (by dsimp only; omega) _).setCell (by dsimp only; omega) _).setCell (by dsimp only; omega) _, (heap_set _ _ _ _ _ _ (heap_set _ _ _ _ _ _ (heap_set _ _ _ _ _ _ (heap_set _ _ _ _ _ _ kO4)))).trans rfl, fun h => by omega, ?_⟩
          rw [HT.out]
          exact own_base (ownsRow_setCell_below (a := ⟨w1.heap.size, 3, none⟩) (ownsRow_setCell_below (a := ⟨w1.heap.size, 2, none⟩) (ownsRow_setCell_below (a := ⟨w1.heap.size, 1, none⟩) (ownsRow_setCell_below (a := ⟨w1.heap.size, 0, none⟩) ho4 (by dsimp only; omega) _) (by dsimp only; omega) _) (by dsimp only; omega) _) (by dsimp only; omega) _) (by omega)
        case measure => simp [intOf]; omega
      · obtain rfl : k = js.length := by omega
        have h3 : ¬ (js.length : Int) < (js.length : Int) := by omega
        rw [List.take_of_length_le (Nat.le_refl _)] at ho
        have qO := fun i => cell_of_row wr w1.heap.size i _ _ _ kO
        have HLN := Lib.hid (turned_len js)
        have hwt : wfJ (turned js) := by have := turned_wf hj.2.1 js.length; rwa [List.take_of_length_le (Nat.le_refl _)] at this
        have hR := (own_row ho HLN.out).rjl HLN.out (by have := HLN.out; omega) hwt
        have hcon := sqGood_any s f o A' c' (turned js) _ hR
        rw [HLN.out] at hcon
        go_wp2_with fail
        refine hcon.mono ?_
        rintro e w3 ⟨rfl, hx3⟩
        have hb3 := hb.trans (hx3.mono (by omega))
        have q3 := cell_at hb3 (by omega) k3
        have f3 := free_at hb3 (by omega) k3
        have hb6 := h0.trans (hb3.mono (show w.heap.size ≤ w.heap.size + 2 by omega))
        have kO3 := (hx3.block _ hOl).trans kO
        have qO3 := fun i => cell_of_row w3 w1.heap.size i _ _ _ kO3
        have ho3 := own_below ho hx3
        clear qO hcon hR
        cases hg2 : good ⟨s, f, o, turned js⟩
        · have HT := Lib.hid (show ((r1, r2, r3, rl), rb) = noBd by rw [HR.out, turnR, hg2, Bool.and_false]; rfl)
          clear hg2
          go_wp2
          refine bodyPost_ret (v := .tuple #[.agg #[.int .i64 0, .int .i64 0, .int .i64 0, .slice none 0 0], .bool false]) (by simp [results, Try.results21, go_sem, q3]) rfl ?_
          rw [HT.out]
          exact ⟨none, 0, rfl, .inl rfl, (((hb6.setCell (by dsimp only; omega) _).setCell (by dsimp only; omega) _).setCell (by dsimp only; omega) _).setCell (by dsimp only; omega) _⟩
        · have HT := Lib.hid (show ((r1, r2, r3, rl), rb) = ((s, f, o, turned js), true) by rw [HR.out, turnR, hg2, HG.out]; rfl)
          clear hg2
          go_wp2
          refine bodyPost_ret (v := .tuple #[.agg #[.int .i64 s, .int .i64 f, .int .i64 o, .slice A' js.length c'], .bool true]) (by simp [results, Try.results21, go_sem, q3]) rfl ?_
          rw [HT.out]
          have hO := own_row ho3 HLN.out
          refine ⟨A', c', by rw [HLN.out], ?_, (((hb6.setCell (by dsimp only; omega) _).setCell (by dsimp only; omega) _).setCell (by dsimp only; omega) _).setCell (by dsimp only; omega) _⟩
          simp only [HLN.out]
          exact ((((hO.farlo (p := ⟨w.heap.size + 1, 0, none⟩) (by dsimp only; omega) (.int .i64 s)).farlo (p := ⟨w.heap.size + 1, 1, none⟩) (by dsimp only; omega) (.int .i64 f)).farlo (p := ⟨w.heap.size + 1, 2, none⟩) (by dsimp only; omega) (.int .i64 o)).farlo (p := ⟨w.heap.size + 1, 3, none⟩) (by dsimp only; omega) (.slice A' js.length c')).lo (by omega)
end Go.Proofs.Ytndodohngeaklaa

/-
  Plays: the model's trMoves and trStart.
-/
import Derived.Test.YtmhffdgfkgdmlaaC7zi
import Derived.Test.YtmhffdgfkgdmlaaC7z
import Derived.Test.YtmhffdgfkgdmlaaC7p
namespace Go.Proofs.Ytmhffdgfkgdmlaa
open Go.RowKit

theorem trMoves_any (q f k : Int) (A1 A2 A3 : Option Addr) (c1 c2 c3 : Nat) (st sf : List Int) (n : Nat) (w : World) (h1 : RI w w.heap.size A1 st) (h2 : RI w w.heap.size A2 sf) (hc : st.length ≤ c1) (hn : n ≤ 1048576) :
    Calls Try.prog 53 #[.agg #[.int .i64 q, .int .i64 f, .int .i64 k, .slice A1 st.length c1, .slice A2 sf.length c2], .slice A3 n c3] w fun e w' => e = .returned (.bool (trkOk q f k st sf && decide (n ≤ 200))) ∧ Below w.heap.size w w' := by
  have hl := h1.1
  have hl2 := h2.1
  obtain ⟨RB, hRB⟩ : ∃ RB, RB = (trkOk q f k st sf && decide (n ≤ 200)) := ⟨_, rfl⟩
  rw [← hRB]
  cases hz : trkOk q f k st sf
  · have HR := Lib.hid (show false = RB by rw [hRB, hz]; rfl)
    have HZ := Lib.hid hz
    clear hRB hz
    go_enter Try.func53, Try.ntmps53
    go_wp2_with fail
    refine (trGood_any q f k A1 A2 c1 c2 st sf _ (h1.go (below1 _ _)) (h2.go (below1 _ _)) hc).mono ?_
    rintro e w2 ⟨rfl, hx⟩
    rw [HZ.out]
    go_wp2_with fail
    go_ret
    exact ⟨ret_bool HR.out, (below1 _ _).trans (hx.mono (by simp))⟩
  · have HR := Lib.hid (show decide (n ≤ 200) = RB by rw [hRB, hz]; rfl)
    have HZ := Lib.hid hz
    clear hRB hz
    by_cases hn2 : n ≤ 200
    · have hn3 : decide ((n : Int) ≤ 200) = true := decide_eq_true (by omega)
      have HR2 := Lib.hid (show true = RB by rw [← HR.out]; exact (decide_eq_true hn2).symm)
      go_enter Try.func53, Try.ntmps53
      go_wp2_with fail
      refine (trGood_any q f k A1 A2 c1 c2 st sf _ (h1.go (below1 _ _)) (h2.go (below1 _ _)) hc).mono ?_
      rintro e w2 ⟨rfl, hx⟩
      rw [HZ.out]
      go_wp2_with fail
      go_ret
      exact ⟨ret_bool HR2.out, (below1 _ _).trans (hx.mono (by simp))⟩
    · have hn3 : decide ((n : Int) ≤ 200) = false := decide_eq_false (by omega)
      have HR2 := Lib.hid (show false = RB by rw [← HR.out]; exact (decide_eq_false hn2).symm)
      go_enter Try.func53, Try.ntmps53
      go_wp2_with fail
      refine (trGood_any q f k A1 A2 c1 c2 st sf _ (h1.go (below1 _ _)) (h2.go (below1 _ _)) hc).mono ?_
      rintro e w2 ⟨rfl, hx⟩
      rw [HZ.out]
      go_wp2_with fail
      go_ret
      exact ⟨ret_bool HR2.out, (below1 _ _).trans (hx.mono (by simp))⟩

/-- A row of numbers that the call made, as a row of ints. -/
theorem own_rowI {w : World} {t base n : Nat} {v : Value} {xs : List Int} (h : w.ownsRow base t 1 v n (xs.map (Value.int .i64))) (hn : xs.length = n) (h0 : 0 < n) :
    ∃ g c, v = .slice (some ⟨g, 0, none⟩) n c ∧ base ≤ g ∧ g < w.heap.size ∧ RowI w g t n (fun i => xs.getD i 0) := by
  subst hn
  obtain ⟨_, ⟨rfl, hz⟩ | ⟨g, cap, cs, rfl, hg, hh, hn, _, hsz, htk⟩⟩ := h
  · omega
  · refine ⟨g, cap, rfl, hg, heap_lt hh, cs, hh, by omega, fun k hk => ?_⟩
    have : (cs.toList.take (xs.length * 1))[k]? = (xs.map (Value.int .i64))[k]? := by rw [htk]
    rw [List.getElem?_take_of_lt (by omega), Array.getElem?_toList] at this
    rw [this]
    simp [List.getElem?_eq_getElem hk]

theorem own_belowB {w w' : World} {base e size n B : Nat} {v : Value} {xs : List Value} (h : w.ownsRow base e size v n xs) (hb : Below B w w') (hv : ∀ g, v.ownBlock = some g → g < B) : w'.ownsRow base e size v n xs := by
  obtain ⟨h0, h1 | ⟨g, cap, cs, rfl, hg, hh, r⟩⟩ := h
  · exact ⟨h0, .inl h1⟩
  · exact ⟨h0, .inr ⟨g, cap, cs, rfl, hg, (hb.block g (hv g rfl)).trans hh, r⟩⟩
theorem Grid.belowB {w w' : World} {base B : Nat} {t te : TypeId} {v : Value} {n : Nat} {len : Nat → Nat} {F : Nat → Nat → Int} {Bk C : Nat → Nat} (h : Grid w base t te v n len F Bk C) (hb : Below B w w') (hv : ∀ g, v.ownBlock = some g → g < B) (hk : ∀ y, y < n → Bk y < B) : Grid w' base t te v n len F Bk C :=
  ⟨own_belowB h.1 hb hv, fun y hy => ⟨(h.2.1 y hy).1, (h.2.1 y hy).2.1, (h.2.1 y hy).2.2.below hb (hk y hy)⟩, h.2.2⟩

set_option maxHeartbeats 1000000 in
theorem trStart_any (q f k : Int) (A1 A2 : Option Addr) (n1 c1 n2 c2 : Nat) (w : World) (hn : n1 ≤ 4) (hk1 : 1 ≤ k) (hk4 : k ≤ 4) :
    Calls Try.prog 52 #[.agg #[.int .i64 q, .int .i64 f, .int .i64 k, .slice A1 n1 c1, .slice A2 n2 c2]] w fun e w' => ∃ A c Bk C, e = .returned (.slice A n1 c) ∧ Grid w' w.heap.size 22 3 (.slice A n1 c) n1 (fun _ => k.toNat) (fun _ _ => -1) Bk C ∧ Below w.heap.size w w' := by
  obtain ⟨i0, hi, hz0, hz1, hz2⟩ := info_parts infoSl1
  obtain ⟨j0, hj, hy0, hy1, hy2⟩ := info_parts infoInt1
  obtain ⟨K, hK⟩ := Int.eq_ofNat_of_zero_le (show 0 ≤ k by omega)
  subst hK
  rw [Int.toNat_natCast]
  go_enter Try.func52, Try.ntmps52
  have hB0 : Below (w.heap.size + 1) (w.alloc (.cells #[.int .i64 q, .int .i64 f, .int .i64 (K : Int), .slice A1 n1 c1, .slice A2 n2 c2] 29)) (w.alloc (.cells #[.int .i64 q, .int .i64 f, .int .i64 (K : Int), .slice A1 n1 c1, .slice A2 n2 c2] 29)) := Below.refl _ _
  have qq := boxcells hB0
  go_wp2_with fail
  clear qq
  go_loopw [3, 4, 5, 9] (fun v _ _ i wr => ∃ (p : Nat) (Bk C : Nat → Nat), p ≤ n1 ∧ i = .int .i64 p ∧ Below (w.heap.size + 1) (w.alloc (.cells #[.int .i64 q, .int .i64 f, .int .i64 (K : Int), .slice A1 n1 c1, .slice A2 n2 c2] 29)) wr ∧ Grid wr (w.heap.size + 1) 22 3 v p (fun _ => K) (fun _ _ => -1) Bk C) (fun _ _ _ i _ => n1 - (intOf i).toNat)
  case atStart => exact ⟨0, fun _ => 0, fun _ => 0, Nat.zero_le _, rfl, hB0, Grid.nil _ _ _ _ _ _ _ _⟩
  case round =>
    clear hB0
    obtain ⟨p, Bk, C, hp, rfl, hB, hGr⟩ := hrel
    have hbw := (below1 w (.cells #[.int .i64 q, .int .i64 f, .int .i64 (K : Int), .slice A1 n1 c1, .slice A2 n2 c2] 29)).trans (hB.mono (by omega))
    have hsz : w.heap.size + 1 ≤ wr.heap.size := by have := hB.size; simpa using this
    by_cases hpl : p < n1
    · obtain ⟨Av, cv, rfl⟩ := hGr.slice
      go_wp2_with fail
      have hG0 := hGr
      obtain ⟨B0, hB0⟩ : ∃ B0, B0 = wr.heap.size := ⟨_, rfl⟩
      have hGlt : ∀ g, (Value.slice Av p cv).ownBlock = some g → g < B0 := fun g e => by rw [hB0]; exact hGr.lt g e
      have hGBk : ∀ y, y < p → Bk y < B0 := fun y hy => by rw [hB0]; exact (hGr.2.1 y hy).2.2.lt
      have hB0s : w.heap.size + 1 ≤ B0 := by rw [hB0]; exact hsz
      go_loopw [4, 5] (fun v i wi => ∃ j : Nat, j ≤ K ∧ i = .int .i64 j ∧ Below (w.heap.size + 1) (w.alloc (.cells #[.int .i64 q, .int .i64 f, .int .i64 (K : Int), .slice A1 n1 c1, .slice A2 n2 c2] 29)) wi ∧ B0 ≤ wi.heap.size ∧ Grid wi (w.heap.size + 1) 22 3 (.slice Av p cv) p (fun _ => K) (fun _ _ => -1) Bk C ∧ wi.ownsRow B0 3 1 v j ((List.replicate j (-1 : Int)).map (Value.int .i64))) (fun _ i _ => K - (intOf i).toNat)
      case atStart => exact ⟨0, Nat.zero_le _, rfl, hB, by rw [hB0]; exact Nat.le_refl _, hGr, World.ownsRow_nil _ _ _ _⟩
      case round =>
        clear hB hGr hG0 hbw hsz hB0
        obtain ⟨j, hj', rfl, hB, hBz, hGr, hown⟩ := hrel
        have qq := boxcells hB
        have hsz : w.heap.size + 1 ≤ wr.heap.size := by have := hB.size; simpa using this
        by_cases hjl : j < K
        · have hjk : (j : Int) < (K : Int) := by omega
          go_wp2_with (at_builtin; go_loud (refine wpList_append_own _ rfl _ _ 22 rfl B0 3 j0 (.int .i64 0) 1 8 Try.underlying22 hj hy0 hy1 hy2 rfl (by decide) _ _ _ rfl (hown.alloc _) ⟨wr.heap.size, 0, none⟩ 1 1 [.int .i64 (-1)] rfl rfl (cell_new1' _ _ _) (one_int _) (by unfold maxLen; omega) (by omega) (by simp; omega) ?_; intro v1 w6 hown6 hg6 _))
          go_roundw
          case rel =>
            have hf := own_from hown
            refine ⟨j + 1, by omega, by go_num, (hB.alloc hsz _).grown hg6 (by simp; omega) (fun g hg => by have := hf g hg; omega), ?_, ?_, ?_⟩
            · have := hg6.size; simp at this; omega
            · exact hGr.belowB ((((Below.refl B0 wr).alloc hBz _).grown hg6 (by simp; omega) (fun g hg => hf g hg))) hGlt hGBk
            · rw [List.replicate_succ', List.map_append]
              exact hown6
          case measure => simp [intOf]; omega
        · obtain rfl : j = K := by omega
          obtain ⟨g5, c5, rfl, hg5, hg5l, hr5⟩ := own_rowI hown (by simp) (by omega)
          go_wp2_with (at_builtin; go_loud (refine wpList_append_own_at _ rfl _ _ 26 rfl (w.heap.size + 1) 22 i0 (.slice none 0 0) 1 24 Try.underlying26 hi hz0 hz1 hz2 rfl (by decide) _ _ _ rfl (hGr.1.alloc _) ⟨wr.heap.size, 0, none⟩ 1 1 [.slice (some ⟨g5, 0, none⟩) j c5] rfl rfl (cell_new1' _ _ _) (one_slice _ _ _) (by unfold maxLen; omega) (by omega) (by simp; omega) ?_; intro v1 w6 hown6 hg6 _ hb6))
          go_roundw
          case rel =>
            have hGn := Grid.push hGr hr5 (by omega) (fun e => by have := hGlt _ e; omega) (fun y hy e => by have := hGBk y hy; omega) hown6 hg6 hb6
            refine ⟨p + 1, _, _, by omega, by go_num, (hB.alloc hsz _).grown hg6 (by simp; omega) (fun i h => hGr.from_ i h), hGn.congr (fun y _ => by split <;> rfl) (fun y hy j' hj2 => ?_)⟩
            split
            · rename_i e
              simp only [e, if_true] at hj2
              show (List.replicate j (-1 : Int)).getD j' 0 = -1
              rw [List.getD_eq_getElem?_getD, List.getElem?_eq_getElem (by simpa using hj2)]
              simp
            · rfl
          case measure => simp [intOf]; omega
    · obtain rfl : p = n1 := by omega
      obtain ⟨Av, cv, rfl⟩ := hGr.slice
      go_wp2_with fail
      go_ret
      exact ⟨Av, cv, Bk, C, rfl, hGr.mono (by omega), hbw⟩
end Go.Proofs.Ytmhffdgfkgdmlaa

/-
  Tracks: slices.DeleteFunc at tokens with the closure of sentBy; sentBy.
-/
import Derived.Test.YtmhffdgfkgdmlaaC7j
namespace Go.Proofs.Ytmhffdgfkgdmlaa
open Go.RowKit

theorem zeroPawn : ∀ w : World, (zeroValue 163).run Try.prog w = .ok (.agg #[.int .i64 0, .int .i64 0]) w := fun w => by kernel_rfl
theorem clear_pawns {w : World} {b i m n : Nat} {F : Nat → Int × Int} (h : RowJ w b 163 n F) (hin : i + m ≤ n) (hm : 0 < m) (c : Nat) :
    ∃ w', (∀ ty, (Builtin.clear_ #[191] ty #[.slice (some ⟨b, i * 2, none⟩) m c]).run Try.prog w = .ok (.tuple #[]) w') ∧ w.grownBy w' (some b) ∧ RowJ w' b 163 i F := by
  obtain ⟨cs, hh, hs, hc⟩ := h
  obtain ⟨m, rfl⟩ : ∃ k, m = k + 1 := ⟨m - 1, by omega⟩
  obtain ⟨zs, hz⟩ : ∃ zs, zs = (Builtin.zeroCells #[Value.int .i64 0, .int .i64 0] (m + 1)).toList := ⟨_, rfl⟩
  have hzl : zs.length = (m + 1) * 2 := by rw [hz]; simp [Builtin.zeroCells]; try omega
  have hz1 : ∀ u ∈ zs, u.oneCell' = true := by
    intro u hu
    rw [hz] at hu
    simp [Builtin.zeroCells] at hu
    obtain ⟨j, _, e⟩ := hu
    rcases (show j % 2 = 0 ∨ j % 2 = 1 by omega) with h | h
    · simp [h] at e; subst e; rfl
    · simp [h] at e; subst e; rfl
  have hst := run_storeCells_at (P := Try.prog) b (i * 2) 163 zs 0 cs w hh (by rw [hzl]; omega) hz1
  refine ⟨w.setRow b (cs.toList.take (i * 2 + 0) ++ zs ++ cs.toList.drop (i * 2 + 0 + zs.length)).toArray, fun ty => ?_, grownBy_setRow w b _, ?_⟩
  rotate_left
  · refine ⟨_, setRow_heap w b cs _ _ (0, 0) hh, ?_, fun k hk => ?_⟩
    · simp [hzl]; omega
    · have h1 := hc k (by omega)
      have e1 : ∀ x, x < i * 2 → (cs.toList.take (i * 2 + 0) ++ zs ++ cs.toList.drop (i * 2 + 0 + zs.length)).toArray[x]? = cs[x]? := fun x hx => by
        have hlt : x < (cs.toList.take (i * 2 + 0)).length := by simp; omega
        rw [List.getElem?_toArray, List.append_assoc, List.getElem?_append_left hlt, List.getElem?_take_of_lt (by omega), Array.getElem?_toList]
      rw [e1 _ (by omega), e1 _ (by omega)]
      exact h1
  · simp [Builtin.clear_, run_underlying Try.underlying191, Value.cells, ← hz, hst]

set_option maxRecDepth 100000 in
set_option maxHeartbeats 2000000 in
/-- Some tokens are struck: the others move ahead. -/
theorem delSent_some (b c : Nat) (L : List (Int × Int)) (pl : Int) (cb : Nat) (m0 : Nat) (w : World) (hrow : RowJ w b 163 L.length (fun y => L.getD y (0, 0))) (hl : L.length ≤ 1048576) (hlc : L.length ≤ c) (hcb : cb < w.heap.size) (hne : cb ≠ b) (hc : w.cell? ⟨cb, 0, none⟩ = some (.int .i64 pl))
    (hm : m0 < L.length) (hm1 : keepP pl (L.getD m0 (0, 0)) = false) (hm0 : ∀ i < m0, keepP pl (L.getD i (0, 0)) = true) :
    Calls Try.prog 140 #[.slice (some ⟨b, 0, none⟩) L.length c, .func (.func 142) #[] #[.pointer (some ⟨cb, 0, none⟩)]] w fun e w' =>
      e = .returned (.slice (some ⟨b, 0, none⟩) (L.filter (keepP pl)).length c) ∧ RowJ w' b 163 (L.filter (keepP pl)).length (fun y => (L.filter (keepP pl)).getD y (0, 0)) ∧ w.grownBy w' (some b) := by
  obtain ⟨K, hK⟩ : ∃ K : Nat → List (Int × Int), K = fun j => (L.take j).filter (keepP pl) := ⟨_, rfl⟩
  have hKn : L.filter (keepP pl) = K L.length := by rw [hK]; simp
  have hKy : ∀ j, j < L.length → keepP pl (L.getD j (0, 0)) = true → K (j + 1) = K j ++ [L.getD j (0, 0)] := fun j hj h => by
    rw [List.getD_eq_getElem?_getD, List.getElem?_eq_getElem hj] at h ⊢
    simp only [Option.getD_some] at h ⊢
    rw [hK]; simp only
    rw [List.take_succ_eq_append_getElem hj, List.filter_append, List.filter_cons_of_pos h]; rfl
  have hKf : ∀ j, j < L.length → keepP pl (L.getD j (0, 0)) = false → K (j + 1) = K j := fun j hj h => by
    rw [List.getD_eq_getElem?_getD, List.getElem?_eq_getElem hj] at h
    simp only [Option.getD_some] at h
    rw [hK]; simp only
    rw [List.take_succ_eq_append_getElem hj, List.filter_append, List.filter_cons_of_neg (by simp [h])]; simp
  have hKl : ∀ j, (K j).length ≤ j := fun j => by rw [hK]; exact Nat.le_trans (List.length_filter_le _ _) (List.length_take_le _ _)
  have hKm : ∀ j, j ≤ m0 → (K j).length = j ∧ ∀ y < j, (K j).getD y (0, 0) = L.getD y (0, 0) := fun j hj => by
    have : K j = L.take j := by
      rw [hK]; simp only
      rw [List.filter_eq_self]
      intro a ha
      obtain ⟨i, hi, rfl⟩ := List.mem_iff_getElem.1 ha
      have hi2 : i < L.length := by simp at hi; omega
      have := hm0 i (by simp at hi; omega)
      rw [List.getD_eq_getElem?_getD, List.getElem?_eq_getElem hi2] at this
      rw [List.getElem_take]
      exact this
    rw [this]
    exact ⟨by simp; omega, fun y hy => by simp [List.getD_eq_getElem?_getD, List.getElem?_take_of_lt hy]⟩
  rw [hKn]
  have HKy := Lib.hid hKy; have HKf := Lib.hid hKf; have HKl := Lib.hid hKl
  have hK0 := hKm m0 (Nat.le_refl _)
  have hK1 := hKf m0 hm hm1
  clear hK hKn hKy hKf hKl hKm
  have HK0 := Lib.hid hK0; have HK1 := Lib.hid hK1
  clear hK0 hK1
  have HM0 := Lib.hid hm0; have HM1 := Lib.hid hm1
  clear hm0 hm1
  go_enter Try.func140, Try.ntmps140
  go_wp2_with fail
  refine (idxSent_any b c L pl cb (m0 : Int) w hrow hl hcb hc (fun j hj h1 h2 => by
    rcases Nat.lt_trichotomy m0 j with h | h | h
    · have := h2 m0 h; rw [HM1.out] at this; cases this
    · rw [h]
    · have := HM0.out j h; rw [h1] at this; cases this) (fun h => by have := h m0 hm; rw [HM1.out] at this; cases this)).mono ?_
  rintro e w2 ⟨rfl, hx2⟩
  have hne1 : ((m0 : Int) == -1) = false := beq_eq_false_iff_ne.2 (by omega)
  have hbl := hrow.lt
  have hr2 := hrow.below hx2 hbl
  have hc2 := (bcell hx2 hcb).trans hc
  have hg2 := below_grown hx2 (some b)
  go_wp2_with fail
  go_loopw [5, 6] (fun vi vj wr => ∃ (i j : Nat) (G : Nat → Int × Int), vi = .int .i64 i ∧ vj = .int .i64 j ∧ i = (K j).length ∧ i < j ∧ j ≤ L.length ∧ RowJ wr b 163 L.length G ∧ Hid (∀ y < i, G y = (K j).getD y (0, 0)) ∧ Hid (∀ y, j ≤ y → y < L.length → G y = L.getD y (0, 0)) ∧ w.grownBy wr (some b)) (fun _ vj _ => L.length - (intOf vj).toNat)
  case atStart =>
    exact ⟨m0, m0 + 1, fun y => L.getD y (0, 0), rfl, by go_num, by rw [HK1.out, HK0.out.1], by omega, by omega, hr2, Lib.hid (fun y hy => by rw [HK1.out]; exact (HK0.out.2 y hy).symm), Lib.hid (fun y _ _ => rfl), hg2⟩
  case round =>
    clear hr2 hc2 hg2 hrow
    obtain ⟨i, j, G, rfl, rfl, hi, hij, hjl, hrow, hlow, hhigh, hg⟩ := hrel
    have HI := Lib.hid hi
    clear hi
    have hcw : wr.cell? ⟨cb, 0, none⟩ = some (.int .i64 pl) := by
      have := hg.block cb hcb (by simpa using hne)
      unfold World.cell? at hc ⊢
      simp only at hc ⊢
      rw [this]; exact hc
    have hsz := hg.size
    by_cases hlt : j < L.length
    · have d1 := hrow.cell1 hlt
      have d2 := hrow.cell2 hlt
      rw [hhigh.out j (Nat.le_refl _) hlt] at d1 d2
      have hkp : keepP pl (L.getD j (0, 0)) = !((L.getD j (0, 0)).1 == pl) := rfl
      have hjj : L.getD j (0, 0) = ((L.getD j (0, 0)).1, (L.getD j (0, 0)).2) := rfl
      obtain ⟨x, hx⟩ : ∃ x, x = (L.getD j (0, 0)).1 := ⟨_, rfl⟩
      obtain ⟨y, hy⟩ : ∃ y, y = (L.getD j (0, 0)).2 := ⟨_, rfl⟩
      rw [← hx] at d1 hkp
      rw [← hy] at d2
      rw [← hx, ← hy] at hjj
      have HKP := Lib.hid hkp; have HJ := Lib.hid hjj
      clear hx hy hkp hjj
      have hcb2 : cb < wr.heap.size := by omega
      have hc1 : (wr.alloc (.cells #[.int .i64 x, .int .i64 y] 163)).cell? ⟨cb, 0, none⟩ = some (.int .i64 pl) := (bcell (below1 wr _) hcb2).trans hcw
      cases he : (x == pl)
      · have HE := Lib.hid he
        clear he
        go_wp2_with fail
        refine (cloSent_any x y pl cb _ (by simp; omega) hc1).mono ?_
        rintro e w3 ⟨rfl, hx3⟩
        rw [HE.out]
        have hbb : b < wr.heap.size := hrow.lt
        have hr3 := (hrow.alloc (.cells #[.int .i64 x, .int .i64 y] 163)).below hx3 (by simp; omega)
        have q3 := fun i => cell_of_row w3 wr.heap.size i _ _ _ ((hx3.block wr.heap.size (by simp)).trans (heap_alloc_at wr _ _ rfl))
        have hil : i < L.length := by omega
        have e1 := hr3.cell1 hil
        have e2 := hr3.cell2 hil
        have e3 := hr3.free (i * 2)
        have e4 := hr3.free (i * 2 + 1)
        have hg3 : w.grownBy w3 (some b) := grown_trans hg (grown_trans (below_grown (below1 wr _) (some b)) (below_grown hx3 (some b)))
        go_wp2_with fail
        go_roundw
        case rel =>
          refine ⟨i + 1, j + 1, _, by go_num, by go_num, ?_, by omega, by omega, hr3.set hil x y, Lib.hid (fun z hz => ?_), Lib.hid (fun z hz1 hz2 => ?_), grown_setCell (grown_setCell hg3 ⟨b, i * 2, none⟩ _ rfl) ⟨b, i * 2 + 1, none⟩ _ rfl⟩
          · rw [HKy.out j hlt (by rw [HKP.out, HE.out]; rfl), List.length_append, ← HI.out]; rfl
          · rw [HKy.out j hlt (by rw [HKP.out, HE.out]; rfl), HJ.out]
            by_cases e : z = i
            · simp only [e, if_true, List.getD_eq_getElem?_getD]
              rw [HI.out]; simp
            · simp only [e, if_false]
              have hz2 : z < (K j).length := by have := HI.out; omega
              rw [hlow.out z (by omega), List.getD_eq_getElem?_getD, List.getD_eq_getElem?_getD, List.getElem?_append_left hz2]
          · have e : ¬ z = i := by omega
            simp only [e, if_false]
            exact hhigh.out z (by omega) hz2
        case measure => simp [intOf]; omega
      · have HE := Lib.hid he
        clear he
        go_wp2_with fail
        refine (cloSent_any x y pl cb _ (by simp; omega) hc1).mono ?_
        rintro e w3 ⟨rfl, hx3⟩
        rw [HE.out]
        have hr3 := (hrow.alloc (.cells #[.int .i64 x, .int .i64 y] 163)).below hx3 (by have := hrow.lt; simp; omega)
        have hg3 : w.grownBy w3 (some b) := grown_trans hg (grown_trans (below_grown (below1 wr _) (some b)) (below_grown hx3 (some b)))
        have hKe := HKf.out j hlt (by rw [HKP.out, HE.out]; rfl)
        have HKE := Lib.hid hKe
        clear hKe
        go_wp2_with fail
        go_roundw
        case rel => exact ⟨i, j + 1, G, rfl, by go_num, by rw [HKE.out]; exact HI.out, by omega, by omega, hr3, Lib.hid (fun z hz => by rw [HKE.out]; exact hlow.out z hz), Lib.hid (fun z hz1 hz2 => hhigh.out z (by omega) hz2), hg3⟩
        case measure => simp [intOf]; omega
    · obtain rfl : j = L.length := by omega
      obtain ⟨w4, hcl, hg4, hr4⟩ := clear_pawns hrow (show i + (L.length - i) ≤ L.length by omega) (show 0 < L.length - i by omega) (c - i)
      have hic : i ≤ c := by omega
      have hinc : ¬ i = c := by omega
      go_wp2_with fail
      go_ret
      have e0 : (K L.length).length = i := HI.out.symm
      rw [e0]
      exact ⟨rfl, hr4.congr (fun y hy => hlow.out y hy), grown_trans hg hg4⟩
end Go.Proofs.Ytmhffdgfkgdmlaa

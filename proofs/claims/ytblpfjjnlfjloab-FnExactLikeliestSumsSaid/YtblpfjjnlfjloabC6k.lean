/-
  Dice: diSums, the model's sums of all dice.
-/
import Derived.Test.YtblpfjjnlfjloabC6h
import Derived.Test.YtblpfjjnlfjloabC6j
import Derived.Test.YtblpfjjnlfjloabM43
namespace Go.Proofs.Ytblpfjjnlfjloab
open Go.RowKit

theorem cv_small {d f : Nat} (hd : d ≤ 8) (hf : f ≤ 12) (s : Nat) : cv d f s ≤ 429981696 := Nat.le_trans (cv_le f d s) (pow_small12 hf hd)
theorem TallyAt.congr {w : World} {g n : Nat} {K L : Nat → Nat} (h : TallyAt w g n K) (he : ∀ i, i < n → K i = L i) : TallyAt w g n L := RowI.congr h (fun i hi => by rw [he i hi])

set_option maxRecDepth 100000 in
set_option maxHeartbeats 1000000 in
theorem diSums_any (d f : Nat) (w : World) (hd : d ≤ 8) (hf1 : 1 ≤ f) (hf : f ≤ 12) :
    Calls Try.prog 35 #[.int .i64 d, .int .i64 f] w fun e w' => ∃ g, e = .returned (.slice (some ⟨g, 0, none⟩) (d * f + 1) (d * f + 1)) ∧ w.heap.size ≤ g ∧ TallyAt w' g (d * f + 1) (cv d f) ∧ Below w.heap.size w w' := by
  obtain ⟨i0, hi, hz0, hz1, hz2⟩ := info_parts infoInt1
  have h0 : TallyAt (w.alloc (.cells #[.int .i64 1] 3)) w.heap.size 1 (cv 0 f) := by
    refine ⟨_, heap_alloc_at _ _ _ rfl, by decide, ?_⟩
    intro k hk
    have : k = 0 := by omega
    subst this
    rfl
  have H0 := Lib.hid h0; clear h0
  go_enter Try.func35, Try.ntmps35
  go_wp2_with fail
  go_loopw [5, 6] (fun v i wr => ∃ k g n : Nat, k ≤ d ∧ n = k * f + 1 ∧ i = .int .i64 k ∧ v = .slice (some ⟨g, 0, none⟩) n n ∧ w.heap.size ≤ g ∧ TallyAt wr g n (cv k f) ∧ Below w.heap.size w wr) (fun _ i _ => d - (intOf i).toNat)
  case atStart => exact ⟨0, w.heap.size, 1, Nat.zero_le _, by simp, rfl, rfl, Nat.le_refl _, H0.out, below1 _ _⟩
  case round =>
    clear H0
    obtain ⟨k, g, n, hk, hn, rfl, rfl, hg, hT, hB⟩ := hrel
    have hn97 : n ≤ 97 := by rw [hn]; exact kf97 hf (by omega)
    have HN := Lib.hid hn; clear hn
    by_cases hlt : k < d
    · obtain ⟨wo, rfl⟩ : ∃ wo : World, wo = wr := ⟨_, rfl⟩
      have hgl : g < wo.heap.size := RowI.lt hT
      have hnf : (n : Int) + (f : Int) = ((n + f : Nat) : Int) := by omega
      obtain ⟨n2, hn2⟩ : ∃ n2, n2 = n + f := ⟨_, rfl⟩
      rw [← hn2] at hnf
      have hn29 : n2 ≤ 109 := by omega
      have hn21 : 1 ≤ n2 := by omega
      have HN2 := Lib.hid hn2
      clear hn2
      go_wp2_with (at_make; refine wpList_make_full _ rfl _ _ 25 rfl wo.heap.size 3 i0 _ 1 Try.underlying25 hi hz0 hz1 _ _ _ _ n2 rfl rfl rfl rfl (by rw [hz2]; omega) (by unfold maxLen; omega) (Nat.le_refl _) ?_; intro w1 hown hgrow)
      have hrow : TallyAt w1 wo.heap.size n2 (fun _ => 0) := madeI hown rfl
      have hT1 : TallyAt w1 g n (cv k f) := RowI.grown hT hgrow (by simp)
      have hB1 : Below w.heap.size w w1 := hB.grown hgrow hB.size (fun j h => by cases h)
      obtain ⟨g2, hg2⟩ : ∃ g2, g2 = wo.heap.size := ⟨_, rfl⟩
      have hsz := hB.size
      rw [← hg2] at hrow hgl hsz ⊢
      have hne : g ≠ g2 := by omega
      clear hown hgrow hT hB hg2
      go_loopw [8, 9, 10, 24] (fun _ _ _ i wi => ∃ s : Nat, s ≤ n ∧ i = .int .i64 s ∧ TallyAt wi g n (cv k f) ∧ TallyAt wi g2 n2 (ptS (cv k f) f s) ∧ Below w.heap.size w wi) (fun _ _ _ i _ => n - (intOf i).toNat)
      case atStart => exact ⟨0, Nat.zero_le _, rfl, hT1, hrow.congr (fun i _ => (ptS_zero _ _ _).symm), hB1⟩
      case round =>
        clear hT1 hrow hB1
        obtain ⟨s, hs, rfl, hT, hP, hB⟩ := hrel
        by_cases hls : s < n
        · obtain ⟨wp, rfl⟩ : ∃ wp : World, wp = wr := ⟨_, rfl⟩
          have c1 : wp.cell? ⟨g, s, none⟩ = some (.int .i64 (cv k f s : Nat)) := RowI.cell hT hls
          have hc := cv_small (show k ≤ 8 by omega) hf s
          obtain ⟨b, hb⟩ : ∃ b, b = cv k f s := ⟨_, rfl⟩
          rw [← hb] at c1 hc
          have HB := Lib.hid hb; clear hb
          go_wp2_with fail
          go_loopw [10] (fun j wj => ∃ m : Nat, m ≤ f ∧ j = .int .i64 ((m : Int) + 1) ∧ TallyAt wj g n (cv k f) ∧ TallyAt wj g2 n2 (nxS (cv k f) f s m) ∧ Below w.heap.size w wj) (fun j _ => f + 1 - (intOf j).toNat)
          case atStart => exact ⟨0, Nat.zero_le _, rfl, hT, hP.congr (fun i _ => (nxS_zero _ _ _ _).symm), hB⟩
          case round =>
            clear hT hP hB c1
            obtain ⟨m, hm, rfl, hT, hP, hB⟩ := hrel
            by_cases hlm : m < f
            · have h1 : (m : Int) + 1 ≤ (f : Int) := by omega
              have hidx : s + (m + 1) < n2 := by have := HN2.out; omega
              have c2 : wr.cell? ⟨g2, s + (m + 1), none⟩ = some (.int .i64 (nxS (cv k f) f s m (s + (m + 1)) : Nat)) := RowI.cell hP hidx
              have f2 := RowI.free hP (s + (m + 1))
              have hle := nxS_le (cv k f) 429981696 f s m (s + (m + 1)) (fun j => cv_small (by omega) hf j)
              have hfm : f * 429981696 ≤ 12 * 429981696 := Nat.mul_le_mul_right _ hf
              obtain ⟨a, ha⟩ : ∃ a, a = nxS (cv k f) f s m (s + (m + 1)) := ⟨_, rfl⟩
              rw [← ha] at c2 hle
              have ha9 : a ≤ 6000000000 := by omega
              have HA := Lib.hid ha
              have hix : (s : Int) + ((m : Int) + 1) = ((s + (m + 1) : Nat) : Int) := by omega
              have hlt2 : ((s + (m + 1) : Nat) : Int) < (n2 : Int) := by omega
              obtain ⟨x, hx⟩ : ∃ x, x = s + (m + 1) := ⟨_, rfl⟩
              rw [← hx] at hix c2 f2 hlt2 hidx
              have HX := Lib.hid hx
              clear ha hle hfm hx
              go_wp2
              go_roundw
              case rel =>
                have hgg : w.heap.size ≤ g2 := by omega
                refine ⟨m + 1, by omega, by go_num, RowI.far hT hne _, RowI.congr (RowI.set hP hidx ((a : Int) + b)) (fun i _ => ?_), hB.setCell hgg _⟩
                rw [nxS_step, ← HX.out]
                by_cases e : i = x
                · rw [if_pos e, if_pos e, e, HX.out, ← HA.out, ← HB.out]; push_cast; rfl
                · rw [if_neg e, if_neg e]
              case measure => simp [intOf]; omega
            · have h1 : ¬ (m : Int) + 1 ≤ (f : Int) := by omega
              obtain rfl : m = f := by omega
              go_wp2
              go_roundw
              case rel => exact ⟨s + 1, by omega, by go_num, hT, hP.congr (fun i _ => nxS_done _ _ _ _), hB⟩
              case measure => simp [intOf]; omega
        · obtain rfl : s = n := by omega
          have hlen : n2 = (k + 1) * f + 1 := by rw [HN2.out, HN.out, Nat.add_mul]; omega
          have hall := fun i => ptS_all k f s (by have := HN.out; omega) i
          have HL := Lib.hid hlen; have HALL := Lib.hid hall
          clear hlen hall
          go_wp2
          go_roundw
          case rel => exact ⟨k + 1, g2, n2, by omega, HL.out, by go_num, rfl, by omega, hP.congr (fun i _ => HALL.out i), hB⟩
          case measure => simp [intOf]; omega
    · obtain rfl : k = d := by omega
      go_wp2
      go_ret
      refine ⟨g, ?_, hg, ?_, hB⟩
      · rw [← HN.out]; rfl
      · rw [← HN.out]; exact hT
end Go.Proofs.Ytblpfjjnlfjloab

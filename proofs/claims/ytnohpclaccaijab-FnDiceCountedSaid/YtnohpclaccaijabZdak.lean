/- Several texts, one behind the other: C6r C6s. -/
import Derived.WalkLawsBesides
import Derived.Test.YtnohpclaccaijabZdaj

namespace Go.Proofs.Ytnohpclaccaijab
open Go.RowKit

theorem index_thr0 (T : Nat → Nat) (w : World) : (Instr.index 67 (.agg (thC T)) (.int .i64 0)).run Try.prog w = .ok (.int .i64 (T 0)) w := by kernel_rfl
theorem index_thr1 (T : Nat → Nat) (w : World) : (Instr.index 67 (.agg (thC T)) (.int .i64 1)).run Try.prog w = .ok (.int .i64 (T 1)) w := by kernel_rfl
theorem index_thr2 (T : Nat → Nat) (w : World) : (Instr.index 67 (.agg (thC T)) (.int .i64 2)).run Try.prog w = .ok (.int .i64 (T 2)) w := by kernel_rfl
theorem index_thr3 (T : Nat → Nat) (w : World) : (Instr.index 67 (.agg (thC T)) (.int .i64 3)).run Try.prog w = .ok (.int .i64 (T 3)) w := by kernel_rfl
theorem index_thr4 (T : Nat → Nat) (w : World) : (Instr.index 67 (.agg (thC T)) (.int .i64 4)).run Try.prog w = .ok (.int .i64 (T 4)) w := by kernel_rfl
theorem index_thr5 (T : Nat → Nat) (w : World) : (Instr.index 67 (.agg (thC T)) (.int .i64 5)).run Try.prog w = .ok (.int .i64 (T 5)) w := by kernel_rfl
theorem index_thr6 (T : Nat → Nat) (w : World) : (Instr.index 67 (.agg (thC T)) (.int .i64 6)).run Try.prog w = .ok (.int .i64 (T 6)) w := by kernel_rfl
theorem index_thr7 (T : Nat → Nat) (w : World) : (Instr.index 67 (.agg (thC T)) (.int .i64 7)).run Try.prog w = .ok (.int .i64 (T 7)) w := by kernel_rfl
theorem index_thr (T : Nat → Nat) (k : Nat) (hk : k < 8) (w : World) : (Instr.index 67 (.agg (thC T)) (.int .i64 (k : Int))).run Try.prog w = .ok (.int .i64 (T k)) w := by
  match k, hk with
  | 0, _ => exact index_thr0 T w
  | 1, _ => exact index_thr1 T w
  | 2, _ => exact index_thr2 T w
  | 3, _ => exact index_thr3 T w
  | 4, _ => exact index_thr4 T w
  | 5, _ => exact index_thr5 T w
  | 6, _ => exact index_thr6 T w
  | 7, _ => exact index_thr7 T w
theorem count_step (t : List Nat) (face k : Nat) (hf : 1 ≤ face) : (t.take (k + 1)).count face = if gt t k = face then (t.take k).count face + 1 else (t.take k).count face := by
  rcases Nat.lt_or_ge k t.length with h | h
  · rw [gt_take t k h, List.count_append]
    by_cases e : gt t k = face
    · rw [if_pos e, e]; simp
    · rw [if_neg e]
      have : [gt t k].count face = 0 := List.count_eq_zero_of_not_mem (by simpa using fun h => e h.symm)
      omega
  · rw [List.take_of_length_le (by omega), List.take_of_length_le h, gt_over t k h, if_neg (by omega)]

set_option maxRecDepth 100000 in
set_option maxHeartbeats 1000000 in
theorem times_any (d f face : Nat) (t : List Nat) (w : World) (hd : d ≤ 8) (_ : f ≤ 12) (ht : t ∈ ups d f) (h1 : 1 ≤ face) (h2 : face ≤ 12) :
    Calls Try.prog 77 #[.agg (thC (gt t)), .int .i64 face] w fun e w' => e = .returned (.int .i64 (t.count face : Nat)) ∧ Below w.heap.size w w' := by
  have kb : TA (w.alloc (.cells (thC (gt t)) 67)) w.heap.size 67 (gt t) := heap_alloc_at _ _ _ rfl
  have hB := below1 w (.cells (thC (gt t)) 67)
  have hall : (t.take 8) = t := List.take_of_length_le (by rw [ups_len d f t ht]; omega)
  have HALL := Lib.hid hall
  clear hall
  go_enter Try.func77, Try.ntmps77
  go_wp2_with (refine wpList_load_row rfl 67 (.tmp 2) rfl w.heap.size rfl _ _ _ _ kb Try.underlying67 rfl ?_ ?_; (rw [thC_size]; exact sizeThr))
  go_loop [5, 7, 9] (fun v _ i => ∃ k V : Nat, k ≤ 8 ∧ i = .int .i64 k ∧ v = .int .i64 V ∧ V = (t.take k).count face ∧ V ≤ k) (fun _ _ i => 8 - (intOf i).toNat)
  case atStart => exact ⟨0, 0, Nat.zero_le _, rfl, rfl, by simp, Nat.le_refl _⟩
  case round =>
    obtain ⟨k, V, hk, rfl, rfl, hV, hVk⟩ := hrel
    by_cases hlt : k < 8
    · have hlt8 : (k : Int) < 8 := by omega
      have hix := index_thr (gt t) k hlt
      have hst := count_step t face k h1
      rw [← hV] at hst
      have hgl := gt_le ht k
      obtain ⟨a, ha⟩ : ∃ a, a = gt t k := ⟨_, rfl⟩
      rw [← ha] at hix hst hgl
      by_cases e : a = face
      · subst e
        rw [if_pos rfl] at hst
        have HST := Lib.hid hst
        clear hV hst ha
        go_wp2
        go_round
        case rel => exact ⟨k + 1, V + 1, by omega, by go_num, by go_num, HST.out.symm, by omega⟩
        case measure => simp [intOf]; omega
      · rw [if_neg e] at hst
        have HST := Lib.hid hst
        have hne : ((a : Int) == (face : Int)) = false := beq_eq_false_iff_ne.2 (by omega)
        clear hV hst ha e
        go_wp2
        go_round
        case rel => exact ⟨k + 1, V, by omega, by go_num, rfl, HST.out.symm, by omega⟩
        case measure => simp [intOf]; omega
    · obtain rfl : k = 8 := by omega
      rw [HALL.out] at hV
      have HV := Lib.hid hV
      clear hV
      go_wp2
      go_ret
      exact ⟨ret_int (by rw [HV.out]), hB⟩
end Go.Proofs.Ytnohpclaccaijab

namespace Go.Proofs.Ytnohpclaccaijab
open Go.RowKit

def faceB (f face : Int) : Bool := decide (1 ≤ face ∧ face ≤ f)
theorem faceB_iff {f face : Int} : faceB f face = true ↔ 1 ≤ face ∧ face ≤ f := by simp [faceB]
theorem hasFace_any (d f face : Int) (w : World) : Calls Try.prog 59 #[.agg #[.int .i64 d, .int .i64 f], .int .i64 face] w fun e w' => e = .returned (.bool (faceB f face)) ∧ Below w.heap.size w w' := by
  by_cases h : 1 ≤ face
  · have hb : faceB f face = decide (face ≤ f) := by simp [faceB, h]
    rw [hb]
    clear hb
    go_enter Try.func59, Try.ntmps59
    go_wp2
    go_ret
    exact ⟨rfl, below1 _ _⟩
  · have hb : faceB f face = false := by simp [faceB, h]
    rw [hb]
    clear hb
    go_enter Try.func59, Try.ntmps59
    go_wp2
    go_ret
    exact ⟨rfl, below1 _ _⟩

set_option maxRecDepth 100000 in
set_option maxHeartbeats 1000000 in
theorem most_any (d f : Nat) (t : List Nat) (w : World) (hd : d ≤ 8) (hf : f ≤ 12) (ht : t ∈ ups d f) :
    Calls Try.prog 80 #[.agg #[.int .i64 d, .int .i64 f], .agg (thC (gt t))] w fun e w' => e = .returned (.int .i64 (mostN t f : Nat)) ∧ Below w.heap.size w w' := by
  have hB0 := below2 w (.cells #[.int .i64 d, .int .i64 f] 61) (.cells (thC (gt t)) 67)
  have hT0 : TA ((w.alloc (.cells #[.int .i64 d, .int .i64 f] 61)).alloc (.cells (thC (gt t)) 67)) (w.heap.size + 1) 67 (gt t) := heap_alloc_at _ _ _ (by simp)
  have hC0 : ((w.alloc (.cells #[.int .i64 d, .int .i64 f] 61)).alloc (.cells (thC (gt t)) 67)).heap[w.heap.size]? = some (.cells #[.int .i64 d, .int .i64 f] 61 (0, 0)) := (Below.heap_alloc _ _ _ (by simp)).trans (heap_alloc_at _ _ _ rfl)
  have hlen := ups_len d f t ht
  have HT0 := Lib.hid hT0; have HC0 := Lib.hid hC0; have HL := Lib.hid hlen
  clear hT0 hC0 hlen
  go_enter Try.func80, Try.ntmps80
  go_wp2_with fail
  go_loopw [5, 6] (fun v i wr => ∃ n V : Nat, n ≤ f ∧ i = .int .i64 ((n : Int) + 1) ∧ v = .int .i64 V ∧ V = mostN t n ∧ Below w.heap.size w wr ∧ TA wr (w.heap.size + 1) 67 (gt t) ∧ wr.heap[w.heap.size]? = some (.cells #[.int .i64 d, .int .i64 f] 61 (0, 0))) (fun _ i _ => f + 1 - (intOf i).toNat)
  case atStart => exact ⟨0, 0, Nat.zero_le _, rfl, rfl, rfl, hB0, HT0.out, HC0.out⟩
  case round =>
    clear HT0 HC0 hB0
    obtain ⟨n, V, hn, rfl, rfl, hV, hB, hT, hC⟩ := hrel
    have q0 := fun i => cell_of_row wr w.heap.size i _ _ _ hC
    by_cases hlt : n < f
    · have h1 : (n : Int) + 1 ≤ (f : Int) := by omega
      have hle := mostN_le t n
      rw [← hV, HL.out] at hle
      have hc8 : t.count (n + 1) ≤ 8 := by have := List.count_le_length (a := n + 1) (l := t); have := HL.out; omega
      have hst : mostN t (n + 1) = max V (t.count (n + 1)) := by rw [hV]; rfl
      have htm := fun w => times_any d f (n + 1) t w hd hf ht (by omega) (by omega)
      obtain ⟨c, hc⟩ : ∃ c, c = t.count (n + 1) := ⟨_, rfl⟩
      rw [← hc] at hc8 hst htm
      have htm' : ∀ w, Calls Try.prog 77 #[.agg (thC (gt t)), .int .i64 ((n : Int) + 1)] w fun e w' => e = .returned (.int .i64 (c : Nat)) ∧ Below w.heap.size w w' := htm
      have HTM := Lib.hid htm'; have HST := Lib.hid hst
      clear hV htm htm' hst hc
      go_wp2_with (refine wpList_load_row rfl 67 (.tmp 3) rfl (w.heap.size + 1) rfl _ _ _ _ hT Try.underlying67 rfl ?_ ?_; (rw [thC_size]; exact sizeThr))
      refine (HTM.out _).mono ?_
      rintro e w2 ⟨rfl, hx2⟩
      have hB2 := hB.trans (hx2.mono hB.size)
      have hT2 := hT.below hx2 hT.lt
      have hC2 := (hx2.block _ (heap_lt hC)).trans hC
      go_wp2
      go_roundw
      case rel => exact ⟨n + 1, max V c, by omega, by go_num, by
        by_cases h : V < c
        · rw [if_pos h, Nat.max_eq_right (by omega)]
        · rw [if_neg h, Nat.max_eq_left (by omega)], HST.out.symm, hB2, hT2, hC2⟩
      case measure => simp [intOf]; omega
    · have h1 : ¬ (n : Int) + 1 ≤ (f : Int) := by omega
      obtain rfl : n = f := by omega
      have HV := Lib.hid hV
      clear hV
      go_wp2
      go_ret
      exact ⟨ret_int (by rw [HV.out]), hB⟩

set_option maxRecDepth 100000 in
set_option maxHeartbeats 1000000 in
theorem longest_any (d f : Nat) (t : List Nat) (w : World) (hd : d ≤ 8) (hf : f ≤ 12) (ht : t ∈ ups d f) :
    Calls Try.prog 83 #[.agg #[.int .i64 d, .int .i64 f], .agg (thC (gt t))] w fun e w' => e = .returned (.int .i64 (lonN t f : Nat)) ∧ Below w.heap.size w w' := by
  have hB0 := below2 w (.cells #[.int .i64 d, .int .i64 f] 61) (.cells (thC (gt t)) 67)
  have hT0 : TA ((w.alloc (.cells #[.int .i64 d, .int .i64 f] 61)).alloc (.cells (thC (gt t)) 67)) (w.heap.size + 1) 67 (gt t) := heap_alloc_at _ _ _ (by simp)
  have hC0 : ((w.alloc (.cells #[.int .i64 d, .int .i64 f] 61)).alloc (.cells (thC (gt t)) 67)).heap[w.heap.size]? = some (.cells #[.int .i64 d, .int .i64 f] 61 (0, 0)) := (Below.heap_alloc _ _ _ (by simp)).trans (heap_alloc_at _ _ _ rfl)
  have HT0 := Lib.hid hT0; have HC0 := Lib.hid hC0
  clear hT0 hC0
  go_enter Try.func83, Try.ntmps83
  go_wp2_with fail
  go_loopw [5, 6, 7] (fun v r i wr => ∃ n V R : Nat, n ≤ f ∧ i = .int .i64 ((n : Int) + 1) ∧ v = .int .i64 V ∧ r = .int .i64 R ∧ V = lonN t n ∧ R = runN t n ∧ Below w.heap.size w wr ∧ TA wr (w.heap.size + 1) 67 (gt t) ∧ wr.heap[w.heap.size]? = some (.cells #[.int .i64 d, .int .i64 f] 61 (0, 0))) (fun _ _ i _ => f + 1 - (intOf i).toNat)
  case atStart => exact ⟨0, 0, 0, Nat.zero_le _, rfl, rfl, rfl, rfl, rfl, hB0, HT0.out, HC0.out⟩
  case round =>
    clear HT0 HC0 hB0
    obtain ⟨n, V, R, hn, rfl, rfl, rfl, hV, hR, hB, hT, hC⟩ := hrel
    have q0 := fun i => cell_of_row wr w.heap.size i _ _ _ hC
    by_cases hlt : n < f
    · have h1 : (n : Int) + 1 ≤ (f : Int) := by omega
      have hle := lonN_le t n
      have hre := runN_le t n
      rw [← hV] at hle
      rw [← hR] at hre
      have hst : lonN t (n + 1) = max V (runN t (n + 1)) := by rw [hV]; rfl
      have hrs : runN t (n + 1) = if t.count (n + 1) = 0 then 0 else R + 1 := by rw [hR]; rfl
      have htm := fun w => times_any d f (n + 1) t w hd hf ht (by omega) (by omega)
      obtain ⟨c, hc⟩ : ∃ c, c = t.count (n + 1) := ⟨_, rfl⟩
      rw [← hc] at hrs htm
      have htm' : ∀ w, Calls Try.prog 77 #[.agg (thC (gt t)), .int .i64 ((n : Int) + 1)] w fun e w' => e = .returned (.int .i64 (c : Nat)) ∧ Below w.heap.size w w' := htm
      have HTM := Lib.hid htm'
      by_cases h0 : c = 0
      · subst h0
        rw [if_pos rfl] at hrs
        rw [hrs] at hst
        have HST := Lib.hid hst; have HRS := Lib.hid hrs
        clear hV hR htm htm' hst hc hrs
        go_wp2_with (refine wpList_load_row rfl 67 (.tmp 3) rfl (w.heap.size + 1) rfl _ _ _ _ hT Try.underlying67 rfl ?_ ?_; (rw [thC_size]; exact sizeThr))
        refine (HTM.out _).mono ?_
        rintro e w2 ⟨rfl, hx2⟩
        have hB2 := hB.trans (hx2.mono hB.size)
        have hT2 := hT.below hx2 hT.lt
        have hC2 := (hx2.block _ (heap_lt hC)).trans hC
        go_wp2
        go_roundw
        case rel => exact ⟨n + 1, V, 0, by omega, by go_num, rfl, rfl, by rw [HST.out]; simp, HRS.out.symm, hB2, hT2, hC2⟩
        case measure => simp [intOf]; omega
      · rw [if_neg h0] at hrs
        rw [hrs] at hst
        have hc0 : ((c : Int) == 0) = false := beq_eq_false_iff_ne.2 (by omega)
        have HST := Lib.hid hst; have HRS := Lib.hid hrs
        clear hV hR htm htm' hst hc hrs h0
        go_wp2_with (refine wpList_load_row rfl 67 (.tmp 3) rfl (w.heap.size + 1) rfl _ _ _ _ hT Try.underlying67 rfl ?_ ?_; (rw [thC_size]; exact sizeThr))
        refine (HTM.out _).mono ?_
        rintro e w2 ⟨rfl, hx2⟩
        have hB2 := hB.trans (hx2.mono hB.size)
        have hT2 := hT.below hx2 hT.lt
        have hC2 := (hx2.block _ (heap_lt hC)).trans hC
        go_wp2
        go_roundw
        case rel => exact ⟨n + 1, max V (R + 1), R + 1, by omega, by go_num, by
          by_cases h : V < R + 1
          · first | (rw [if_pos h, Nat.max_eq_right (by omega)]; go_num) | (rw [if_pos (by omega), Nat.max_eq_right (by omega)]; go_num)
          · first | rw [if_neg h, Nat.max_eq_left (by omega)] | rw [if_neg (by omega), Nat.max_eq_left (by omega)], by go_num, HST.out.symm, HRS.out.symm, hB2, hT2, hC2⟩
        case measure => simp [intOf]; omega
    · have h1 : ¬ (n : Int) + 1 ≤ (f : Int) := by omega
      obtain rfl : n = f := by omega
      have HV := Lib.hid hV
      clear hV hR
      go_wp2
      go_ret
      exact ⟨ret_int (by rw [HV.out]), hB⟩
end Go.Proofs.Ytnohpclaccaijab

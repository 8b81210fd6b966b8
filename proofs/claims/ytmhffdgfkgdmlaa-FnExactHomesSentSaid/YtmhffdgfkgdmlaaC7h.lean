/-
  Tracks: the program's hasPawn, alike.
-/
import Derived.Test.YtmhffdgfkgdmlaaC7e
import Derived.Test.YtmhffdgfkgdmlaaWB
import Derived.BigRegion
namespace Go.Proofs.Ytmhffdgfkgdmlaa
open Go.RowKit

section
variable (g : Nat) (q f k : Int) (A : Option Addr) (n c : Nat) (S : Nat → Bool) (w : World) (hR : RA w g 75 q f k A n c S)
include hR

set_option maxHeartbeats 400000 in
theorem hasPawn_any (p t : Int) (hn : n ≤ 1048576) (hk : 0 ≤ k) (hk4 : k ≤ 4) : Calls Try.prog 108 #[.pointer (some ⟨g, 0, none⟩), .agg #[.int .i64 p, .int .i64 t]] w fun e w' => e = .returned (.bool (inB p 0 ((n : Int) - 1) && inB t 0 (k - 1))) ∧ Below w.heap.size w w' := by
  have hgw := hR.lt
  have c2 := hR.c2
  have R1 := hR.alloc (.cells #[.int .i64 p, .int .i64 t] 163)
  have i4 : IntKind.i64.wrap (k - 1) = k - 1 := IntWalk.i64_in _ (by omega)
  cases hp : inB p 0 ((n : Int) - 1)
  · have HP := Lib.hid hp
    have hc1 : ∀ m, Calls Try.prog 127 #[.pointer (some ⟨g, 0, none⟩), .int .i64 p] ((w.alloc (.cells #[.int .i64 p, .int .i64 t] 163)).drewN m) fun e w' => e = .returned (.bool false) ∧ w' = (w.alloc (.cells #[.int .i64 p, .int .i64 t] 163)).drewN m := fun m => (hasPlayer_any _ _ _ _ _ _ _ _ _ (R1.drewN m) p hn).mono fun _ _ h => ⟨by rw [← hp]; exact h.1, h.2.symm⟩
    clear hp
    go_enter Try.func108, Try.ntmps108
    go_wp2_with fail
    go_quiet (first | (go_at_call 127; with_reducible refine Calls.quiet_of_same (hc1 _)))
    go_wp2
    go_ret
    exact ⟨rfl, drewB (below1 _ _) _⟩
  · have HP := Lib.hid hp
    have hc1 : ∀ m, Calls Try.prog 127 #[.pointer (some ⟨g, 0, none⟩), .int .i64 p] ((w.alloc (.cells #[.int .i64 p, .int .i64 t] 163)).drewN m) fun e w' => e = .returned (.bool true) ∧ w' = (w.alloc (.cells #[.int .i64 p, .int .i64 t] 163)).drewN m := fun m => (hasPlayer_any _ _ _ _ _ _ _ _ _ (R1.drewN m) p hn).mono fun _ _ h => ⟨by rw [← hp]; exact h.1, h.2.symm⟩
    obtain ⟨r, hr⟩ : ∃ r, r = inB t 0 (k - 1) := ⟨_, rfl⟩
    have hc2 : ∀ m, Calls Try.prog 123 #[.int .i64 t, .int .i64 0, .int .i64 (k - 1)] ((w.alloc (.cells #[.int .i64 p, .int .i64 t] 163)).drewN m) fun e w' => e = .returned (.bool r) ∧ w' = (w.alloc (.cells #[.int .i64 p, .int .i64 t] 163)).drewN m := fun m => (isWithin_any _ _ _ _).mono fun _ _ h => ⟨by rw [hr]; exact h.1, h.2.symm⟩
    rw [← hr, Bool.true_and]
    clear hp hr
    go_enter Try.func108, Try.ntmps108
    go_wp2_with fail
    go_quiet (first | (go_at_call 127; with_reducible refine Calls.quiet_of_same (hc1 _)) | (go_at_call 123; with_reducible refine Calls.quiet_of_same (hc2 _)))
    go_wp2
    go_ret
    exact ⟨rfl, drewB (below1 _ _) _⟩
end

set_option maxRecDepth 100000 in
theorem zeroStand : (#[.int .i64 0, .int .i64 0, .int .i64 0, .int .i64 0, .int .i64 0, .int .i64 0, .int .i64 0, .int .i64 0, .int .i64 0, .int .i64 0, .int .i64 0, .int .i64 0, .int .i64 0, .int .i64 0, .int .i64 0, .int .i64 0] : Array Value) = standC (fun _ _ => 0) := by kernel_rfl
theorem sizeStand : (Try.prog.info? 78).map (·.size) = some 16 := by kernel_rfl

/-- All tokens that there are have v steps, the others q. -/
def alikeF (n : Nat) (k q v : Int) (p t : Nat) : Int := if p < n ∧ (t : Int) < k then v else q
/-- What is written ahead of (p, t). -/
def aheadF (G : Nat → Nat → Int) (p t : Nat) (a b : Nat) : Int := if a < p ∨ (a = p ∧ b < t) then G a b else 0

set_option maxRecDepth 100000 in
set_option maxHeartbeats 1000000 in
theorem alike_any (g : Nat) (q f k : Int) (A : Option Addr) (n c : Nat) (S : Nat → Bool) (w : World) (hR : RA w g 75 q f k A n c S) (v : Int) (hn : n ≤ 1048576) (hk : 0 ≤ k) (hk4 : k ≤ 4) :
    Calls Try.prog 85 #[.pointer (some ⟨g, 0, none⟩), .int .i64 v] w fun e w' => e = .returned (.agg (standC (alikeF n k q v))) ∧ Below w.heap.size w w' := by
  have hgw := hR.lt
  have hz := zeroStand
  obtain ⟨G, hG⟩ : ∃ G, G = alikeF n k q v := ⟨_, rfl⟩
  rw [← hG]
  have hGy : ∀ p t : Nat, (inB (p : Int) 0 ((n : Int) - 1) && inB (t : Int) 0 (k - 1)) = true → G p t = v := fun p t h => by
    rw [Bool.and_eq_true, inB_iff, inB_iff] at h
    rw [hG, alikeF, if_pos ⟨by omega, by omega⟩]
  have hGn : ∀ p t : Nat, (inB (p : Int) 0 ((n : Int) - 1) && inB (t : Int) 0 (k - 1)) = false → G p t = q := fun p t h => by
    rw [Bool.and_eq_false_iff, inB_false, inB_false] at h
    rw [hG, alikeF, if_neg (by omega)]
  have HGy := Lib.hid hGy; have HGn := Lib.hid hGn
  clear hG hGy hGn
  go_enter Try.func85, Try.ntmps85
  go_wp2_with fail
  have D0 : DA ((w.alloc (.cells (standC (fun _ _ => 0)) 78)).alloc (.cells (standC (fun _ _ => 0)) 78)) w.heap.size 78 (fun _ _ => 0) := (Below.heap_alloc _ _ _ (by simp)).trans (heap_alloc_at w _ _ rfl)
  have D1 : DA ((w.alloc (.cells (standC (fun _ _ => 0)) 78)).alloc (.cells (standC (fun _ _ => 0)) 78)) (w.heap.size + 1) 78 (aheadF G 0 0) := DA.congr (F := fun _ _ => 0) (heap_alloc_at _ _ _ (by simp)) (fun x _ y _ => by simp [aheadF])
  have hb0 := below2 w (.cells (standC (fun _ _ => 0)) 78) (.cells (standC (fun _ _ => 0)) 78)
  go_loopw [8] (fun i wr => ∃ p : Nat, p ≤ 4 ∧ i = .int .i64 p ∧ Below w.heap.size w wr ∧ DA wr w.heap.size 78 (fun _ _ => 0) ∧ DA wr (w.heap.size + 1) 78 (aheadF G p 0)) (fun i _ => 4 - (intOf i).toNat)
  case atStart => exact ⟨0, by omega, rfl, hb0, D0, D1⟩
  case round =>
    clear hb0 D0 D1
    obtain ⟨p, hp, rfl, hb, D0, D1⟩ := hrel
    by_cases hlt : p < 4
    · have q1 : (p : Int) < 4 := by omega
      go_wp2_with fail
      go_loopw [11] (fun i wr => ∃ t : Nat, t ≤ 4 ∧ i = .int .i64 t ∧ Below w.heap.size w wr ∧ DA wr w.heap.size 78 (fun _ _ => 0) ∧ DA wr (w.heap.size + 1) 78 (aheadF G p t)) (fun i _ => 4 - (intOf i).toNat)
      case atStart => exact ⟨0, by omega, rfl, hb, D0, D1⟩
      case round =>
        clear hb D0 D1
        obtain ⟨t, ht, rfl, hb, D0, D1⟩ := hrel
        by_cases htl : t < 4
        · have q2 : (t : Int) < 4 := by omega
          have R1 := hR.below hb hgw
          have c0 := R1.c0
          have d1 := D1.at_ hlt htl
          have d2 := D1.free (p * 4 + t)
          have hl1 := D1.lt
          have hgs : g < wr.heap.size := by omega
          have hgn : g ≠ w.heap.size + 1 := by omega
          go_wp2_with fail
          go_region
          have D1' := (D1.set hlt htl q).drew
          have D0' := (D0.far (p := ⟨w.heap.size + 1, p * 4 + t, none⟩) (by dsimp only; omega) (.int .i64 q)).drew
          have R1' := (R1.far (p := ⟨w.heap.size + 1, p * 4 + t, none⟩) hgn (.int .i64 q)).drew
          have hb' : Below w.heap.size w (wr.setCell ⟨w.heap.size + 1, p * 4 + t, none⟩ (.int .i64 q)).drew := (hb.setCell (by dsimp only; omega) _).drew
          generalize (wr.setCell ⟨w.heap.size + 1, p * 4 + t, none⟩ (.int .i64 q)).drew = w3 at *
          clear hb D0 D1 R1 c0 d1 d2
          go_wp2_with fail
          refine (hasPawn_any _ _ _ _ _ _ _ _ _ R1' (p : Int) (t : Int) hn hk hk4).mono ?_
          rintro e w4 ⟨rfl, hx⟩
          have hb := hb'.trans (hx.mono hb'.size)
          have D0 := D0'.go hx
          have D1 := D1'.go hx
          clear hb' D0' D1' R1'
          cases hon : (inB (p : Int) 0 ((n : Int) - 1) && inB (t : Int) 0 (k - 1))
          · have hv := HGn.out p t hon
            have HV := Lib.hid hv
            clear hv hon
            go_wp2_with fail
            go_roundw
            case rel => exact ⟨t + 1, by omega, by go_num, hb, D0, D1.congr (fun a _ b _ => by
              simp only [updP, aheadF]
              by_cases e : a = p ∧ b = t
              · rw [if_pos e, if_pos (by omega), e.1, e.2, HV.out]
              · rw [if_neg e]
                by_cases e2 : a < p ∨ (a = p ∧ b < t)
                · rw [if_pos e2, if_pos (by omega)]
                · rw [if_neg e2, if_neg (by omega)])⟩
            case measure => simp [intOf]; omega
          · have hv := HGy.out p t hon
            have HV := Lib.hid hv
            clear hv hon
            have d1 := D1.at_ hlt htl
            have d2 := D1.free (p * 4 + t)
            go_wp2_with fail
            go_roundw
            case rel => exact ⟨t + 1, by omega, by go_num, hb.setCell (by dsimp only; omega) _, D0.far (by dsimp only; omega) _, (D1.set hlt htl v).congr (fun a _ b _ => by
              simp only [updP, aheadF]
              by_cases e : a = p ∧ b = t
              · rw [if_pos e, if_pos (by omega), e.1, e.2, HV.out]
              · rw [if_neg e, if_neg e]
                by_cases e2 : a < p ∨ (a = p ∧ b < t)
                · rw [if_pos e2, if_pos (by omega)]
                · rw [if_neg e2, if_neg (by omega)])⟩
            case measure => simp [intOf]; omega
        · have q2 : ¬ (t : Int) < 4 := by omega
          obtain rfl : t = 4 := by omega
          go_wp2_with fail
          go_roundw
          case rel => exact ⟨p + 1, by omega, by go_num, hb, D0, D1.congr (fun a _ b hb4 => by
            simp only [aheadF]
            by_cases e2 : a < p ∨ (a = p ∧ b < 4)
            · rw [if_pos e2, if_pos (by omega)]
            · rw [if_neg e2, if_neg (by omega)])⟩
          case measure => simp [intOf]; omega
    · have q1 : ¬ (p : Int) < 4 := by omega
      obtain rfl : p = 4 := by omega
      have D2 : DA wr (w.heap.size + 1) 78 G := D1.congr (fun a ha b _ => by simp only [aheadF]; rw [if_pos (by omega)])
      clear D1
      go_wp2_with (first | (refine wpList_load_row rfl 78 (.tmp 5) rfl (w.heap.size + 1) rfl _ _ _ _ D2 Try.underlying78 rfl ?_ ?_; (rw [stand_size]; exact sizeStand)) | (refine wpList_store_row rfl 78 (.tmp 4) _ rfl w.heap.size rfl _ _ _ rfl D0 ?_ ?_ (stand_one _) ?_; (simp only [stand_size]); (rw [stand_size]; exact sizeStand); intro w4 hC4 hg4 hs4))
      exact bodyPost_ret (v := .agg (standC G)) (results_cell1k Try.results85 _ _ _ _ _ _ _ rfl hC4 Try.underlying78 rfl (by rw [stand_size]; exact sizeStand)) rfl
        ⟨rfl, hb.grown hg4 hb.size (fun k h => by cases h; omega)⟩
end Go.Proofs.Ytmhffdgfkgdmlaa

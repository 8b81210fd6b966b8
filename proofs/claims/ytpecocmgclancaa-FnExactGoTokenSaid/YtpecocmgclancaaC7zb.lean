/-
  Tracks: slices.Clone of a row of numbers; the program's stateOf.
-/
import Derived.Test.YtpecocmgclancaaC7y
import Derived.Test.YtpecocmgclancaaWGridN
import Derived.Deep.RegionHeld3
import Derived.BigRegion
import Derived.Lib.SliceRun
namespace Go.Proofs.Ytpecocmgclancaa
open Go.RowKit

set_option maxRecDepth 100000 in
theorem cloneI_any (b off c n : Nat) (xs : List Int) (w : World) (hn : n = xs.length) (hb : b < w.heap.size) (hc : ∀ k (h : k < xs.length), w.cell? ⟨b, off + k, none⟩ = some (.int .i64 xs[k])) (hl : xs.length ≤ 1048576) :
    Calls Try.prog 88 #[.slice (some ⟨b, off, none⟩) n c] w fun e w' => ∃ A c', e = .returned (.slice A n c') ∧ OI w' w.heap.size 3 A n (fun k => xs.getD k 0) ∧ Below w.heap.size w w' := by
  subst hn
  obtain ⟨i0, hi, hz0, hz1, hz2⟩ := info_parts infoInt1
  have hcell : ∀ j u, (xs.map (Value.int .i64))[j]? = some u → (w.alloc (.cells #[] 3)).cell? ((⟨b, off, none⟩ : Addr).add j) = some u := by
    intro j u h
    have hj : j < xs.length := by
      rcases Nat.lt_or_ge j xs.length with h1 | h1
      · exact h1
      · rw [List.getElem?_eq_none (by simpa using h1)] at h; cases h
    simp only [List.getElem?_map, List.getElem?_eq_getElem hj, Option.map_some, Option.some.injEq] at h
    rw [← h]
    rw [show (⟨b, off, none⟩ : Addr).add j = ⟨b, off + j, none⟩ by simp [Addr.add]]
    exact (bcell (below1 w _) hb).trans (hc j hj)
  have hone : ∀ u ∈ xs.map (Value.int .i64), u.oneCell' = true := by
    intro u hu
    rw [List.mem_map] at hu
    obtain ⟨i, _, rfl⟩ := hu
    rfl
  have qnil : ∀ (w : World) (a : Option Addr) (n c n' c' : Nat), (binOp .eql 22 (.slice a n c) (.slice none n' c')).run Try.prog w = .ok (.bool a.isNone) w := fun w a n c n' c' => Lib.run_eql_slice_nil w _ _ a n c n' c' Try.underlying22
  go_enter Try.func88, Try.ntmps88
  go_wp2_with (at_builtin; go_loud (refine wpList_append_own _ rfl _ _ 22 rfl w.heap.size 3 i0 (.int .i64 0) 1 8 Try.underlying22 hi hz0 hz1 hz2 rfl (by decide) _ 0 [] rfl (own_made1 (Nat.le_refl _) _ _ rfl) ⟨b, off, none⟩ xs.length c (xs.map (Value.int .i64)) rfl (by simp) hcell hone (by unfold maxLen; omega) (by omega) (by simp) ?_; intro v1 w6 hown6 hg6 _))
  have hown7 : w6.ownsRow w.heap.size 3 1 v1 xs.length (xs.map (Value.int .i64)) := by simpa using hown6
  obtain ⟨A, c', rfl, hO⟩ := own_oi hown7 rfl
  go_wp2_with fail
  go_ret
  exact ⟨A, c', rfl, hO, (below1 w _).grown hg6 (by simp) (fun k h => own_from (own_made1 (Nat.le_refl w.heap.size) 3 _ rfl) k h)⟩

set_option maxRecDepth 100000 in
set_option maxHeartbeats 2000000 in
theorem stateOf_any (g : Nat) (q f k : Int) (A : Option Addr) (n c : Nat) (S : Nat → Bool) (w : World) (hR : RA w g 62 q f k A n c S) (F : Nat → Nat → Int) (hn : n ≤ 4) (hk : 1 ≤ k) (hk4 : k ≤ 4) :
    Calls Try.prog 69 #[.pointer (some ⟨g, 0, none⟩), .agg (standC F)] w fun e w' => ∃ g2 Bk C, e = .returned (.slice (some ⟨g2, 0, none⟩) n n) ∧ Grid w' w.heap.size 22 3 (.slice (some ⟨g2, 0, none⟩) n n) n (fun _ => k.toNat) F Bk C ∧ Below w.heap.size w w' := by
  have hgw := hR.lt
  obtain ⟨i0, hi, hz0, hz1, hz2⟩ := info_parts infoSl1
  obtain ⟨K, hK⟩ : ∃ K, K = k.toNat := ⟨_, rfl⟩
  have hKk : (K : Int) = k := by omega
  have hK4 : K ≤ 4 := by omega
  have hK1 : 1 ≤ K := by omega
  rw [← hK]
  have HK := Lib.hid hK; have HKk := Lib.hid hKk
  subst hKk
  clear hK
  have c3 := hR.c3
  go_enter Try.func69, Try.ntmps69
  have R1 := hR.alloc (.cells (standC F) 68)
  have c3' := R1.c3
  go_wp2_with (at_make; refine wpList_make_full _ rfl _ _ 31 rfl (w.heap.size + 1) 22 i0 _ 1 Try.underlying31 hi hz0 hz1 _ _ _ _ n rfl rfl rfl rfl (by rw [hz2]; omega) (by unfold maxLen; omega) (by simp) ?_; intro w1 hown hgrow)
  have hm0 : GridN w1 (w.heap.size + 1) 22 3 (w.heap.size + 1) n 0 (fun _ => K) F (fun _ => 0) (fun _ => 0) := GridN.start (by have h := hown; simp only [World.size_alloc] at h; exact h)
  have hB0 : Below (w.heap.size + 1) (w.alloc (.cells (standC F) 68)) w1 := (Below.refl _ _).grown hgrow (by simp) (fun j h => by cases h)
  clear hown hgrow c3 c3' R1
  go_loopw [15] (fun i wr => ∃ (p : Nat) (Bk C : Nat → Nat), p ≤ n ∧ i = .int .i64 p ∧ Below (w.heap.size + 1) (w.alloc (.cells (standC F) 68)) wr ∧ GridN wr (w.heap.size + 1) 22 3 (w.heap.size + 1) n p (fun _ => K) F Bk C) (fun i _ => n - (intOf i).toNat)
  case atStart => exact ⟨0, fun _ => 0, fun _ => 0, Nat.zero_le _, rfl, hB0, hm0⟩
  case round =>
    clear hB0 hm0
    obtain ⟨p, Bk, C, hp, rfl, hB, hm⟩ := hrel
    have hbw := (below1 w (.cells (standC F) 68)).trans (hB.mono (by omega))
    by_cases hpn : p < n
    · have hp4 : p < 4 := by omega
      have hp4i : (p : Int) < 4 := by omega
      have Rr := hR.below hbw hgw
      have c2 := Rr.c2
      have Dr : DA wr w.heap.size 68 F := (hB.block _ (by omega)).trans (heap_alloc_at w _ _ rfl)
      obtain ⟨xs, hxs⟩ : ∃ xs : List Int, xs = (List.range K).map (F p) := ⟨_, rfl⟩
      have hxl : K = xs.length := by rw [hxs]; simp
      have hxg : ∀ j (h : j < xs.length), xs[j] = F p j := fun j h => by subst hxs; simp
      have hcx : ∀ j (h : j < xs.length), wr.drew.cell? ⟨w.heap.size, p * 4 + j, none⟩ = some (.int .i64 xs[j]) := fun j h => by rw [hxg j h]; exact Dr.at_ hp4 (by omega)
      have HXL := Lib.hid hxl; have HXG := Lib.hid hxg; have HCX := Lib.hid hcx
      have hx4 : xs.length ≤ 1048576 := by omega
      have hwz : w.heap.size < wr.heap.size := Dr.lt
      have hmz := hm.lt
      have hs1 : w.heap.size + 1 ≤ wr.heap.size := Nat.le_of_lt hmz
      have hKi : (K : Int) ≤ 4 := by omega
      clear hxs hxl hxg hcx
      go_wp2_with fail
      go_region_with (go_at_call 88; refine (cloneI_any w.heap.size (p * 4) 4 K xs wr.drew HXL.out hwz HCX.out hx4).mono ?_; rintro e w5 ⟨A5, c5, rfl, hO5, hx5⟩; obtain ⟨g5, rfl, hg5, hr5⟩ := hO5.get (k := 0) (by omega); have hx6 : Below wr.heap.size wr w5 := (Below.refl _ wr).drew.trans hx5; have hm5 := hm.below hx6; have hc1 := (hm5.cell hpn).1; have hc2 := (hm5.cell hpn).2)
      go_wp2_with fail
      go_roundw
      case rel =>
        have hg6 : wr.heap.size ≤ g5 := hg5
        have hst := hm5.step (c := c5) hpn hr5 (by omega) (by omega) (fun y hy => by have := (hm.2.1 y hy).2.2.lt; omega)
        simp only [ite_self] at hst
        refine ⟨p + 1, _, _, by omega, by go_num, (hB.trans (hx6.mono hs1)).setCell (by dsimp only; omega) _, hst.congr (fun y _ j hj => ?_)⟩
        by_cases e : y = p
        · subst e
          have hj2 : j < xs.length := by have := HXL.out; omega
          simp only [if_true]
          rw [List.getD_eq_getElem?_getD, List.getElem?_eq_getElem hj2]
          exact HXG.out j hj2
        · simp only [e, if_false]
      case measure => simp [intOf]; omega
    · obtain rfl : p = n := by omega
      go_wp2
      go_ret
      exact ⟨w.heap.size + 1, Bk, C, rfl, hm.grid.mono (by omega), hbw⟩

end Go.Proofs.Ytpecocmgclancaa

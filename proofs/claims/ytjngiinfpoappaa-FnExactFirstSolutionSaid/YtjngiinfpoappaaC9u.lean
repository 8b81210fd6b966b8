/-
  Puzzles: the solutions, counted: Solutions (the program's), CountSolutions, IsSolved, HiddenBoards on both sides.
-/
import Derived.Test.YtjngiinfpoappaaC9t
namespace Go.Proofs.Ytjngiinfpoappaa
open Go.RowKit

theorem pz_yes {q f : Int} {L : List Qd} (h : pzB q f L = true) : ∃ S : Nat, q = (S : Int) ∧ (1 ≤ S ∧ S ≤ 10) ∧ (1 ≤ f ∧ f ≤ 8) ∧ ∀ c ∈ L, clQ (S : Int) f c = true := by
  obtain ⟨hq, hf, _, hc⟩ := pzB_parts h
  refine ⟨q.toNat, by omega, by omega, hf, fun c hm => ?_⟩
  obtain ⟨k, hk, rfl⟩ := List.mem_iff_getElem.1 hm
  rw [show ((q.toNat : Nat) : Int) = q by omega]
  exact hc k hk
/-- How many boards fit all clues: 0 for what is no puzzle. -/
noncomputable def solN (q f : Int) (L : List Qd) : Nat := if pzB q f L then (keepL (oversL q f q.toNat 3) L).length else 0
theorem solN_no {q f : Int} {L : List Qd} (h : pzB q f L = false) : solN q f L = 0 := by rw [solN, h]; rfl
theorem solN_yes {S : Nat} {f : Int} {L : List Qd} (h : pzB (S : Int) f L = true) : solN (S : Int) f L = (keepL (oversL (S : Int) f S 3) L).length := by rw [solN, h]; rfl

set_option maxRecDepth 100000 in
set_option maxHeartbeats 1000000 in
theorem implSolutions_no (q f : Int) (A : Option Addr) (cp : Nat) (L : List Qd) (w : World) (hL : RQ w w.heap.size A L) (h : pzB q f L = false) :
    Calls Try.prog 20 #[.agg #[.int .i64 q, .int .i64 f, .slice A L.length cp]] w fun e w' => e = .returned (.tuple #[.slice none 0 0, .bool false]) ∧ Below w.heap.size w w' := by
  have hl := hL.1
  have H := Lib.hid h
  clear h
  go_enter Try.func20, Try.ntmps20
  go_wp2_with fail
  refine (hiddenOf_no q f A cp L _ (hL.go (below1 _ _)) H.out).mono ?_
  rintro e w2 ⟨rfl, hx⟩
  have hb := (below1 w _).trans (hx.mono (by simp))
  have hb1 := box_on (Below.refl _ _) hx (by simp)
  have qq := boxcells hb1
  go_wp2
  go_ret2
  exact ⟨rfl, hb.alloc hb.size _⟩

set_option maxRecDepth 100000 in
set_option maxHeartbeats 1000000 in
theorem implSolutions_yes (S : Nat) (f : Int) (A : Option Addr) (cp : Nat) (L : List Qd) (w : World) (hL : RQ w w.heap.size A L) (h : pzB (S : Int) f L = true) :
    Calls Try.prog 20 #[.agg #[.int .i64 (S : Int), .int .i64 f, .slice A L.length cp]] w fun e w' => ∃ v, e = .returned (.tuple #[v, .bool true]) ∧ OwnB w' w.heap.size w.heap.size 44 101 v (keepL (oversL S f S 3) L) ∧ Below w.heap.size w w' := by
  have hl := hL.1
  obtain ⟨S0, hS0, hS, hf, hq⟩ := pz_yes h
  obtain rfl : S0 = S := by omega
  have HQ := Lib.hid hq
  have H := Lib.hid h
  clear h hS0 hq
  go_enter Try.func20, Try.ntmps20
  go_wp2_with fail
  refine (hiddenOf_yes (S0 : Int) f A cp L _ (hL.go (below1 _ _)) H.out).mono ?_
  rintro e w2 ⟨rfl, hx⟩
  have hb := (below1 w _).trans (hx.mono (by simp))
  have hs := hb.size
  have hs2 : w.heap.size < w2.heap.size := by have := hx.size; simp at this; omega
  have hb1 := box_on (Below.refl _ _) hx (by simp)
  have qq := boxcells hb1
  go_wp2_with fail
  refine (thatFit_any S0 f A cp L _ hS hf (hL.go (hb.alloc hb.size _)) HQ.out).mono ?_
  rintro e w3 ⟨v, rfl, hO, hx3⟩
  simp only [World.size_alloc] at hO hx3
  have HO := Lib.hid (hO.lower (lo' := w.heap.size) (lj' := w.heap.size) (by omega) (by omega))
  have hb3 := (hb.alloc hb.size _).trans (hx3.mono (by omega))
  clear hO hb1 qq
  go_wp2
  go_ret2
  exact ⟨v, rfl, HO.out, hb3⟩

set_option maxRecDepth 100000 in
set_option maxHeartbeats 1000000 in
theorem specCountSolutions_any (q f : Int) (L : List Qd) (A : Option Addr) (cp : Nat) (w : World) (hL : RQ w w.heap.size A L) : Calls Try.prog 26 #[.agg #[.int .i64 q, .int .i64 f, .slice A L.length cp]] w fun e w' => e = .returned (.tuple #[.int .i64 (solN q f L : Int), .bool (pzB q f L)]) ∧ Below w.heap.size w w' := by
  have hl := hL.1
  cases h : pzB q f L
  · rw [solN_no h]
    have H := Lib.hid h
    clear h
    go_enter Try.func26, Try.ntmps26
    go_wp2_with fail
    refine (pzGood_any q f A cp L _ (hL.go (below1 _ _))).mono ?_
    rintro e w2 ⟨rfl, hx⟩
    rw [H.out]
    go_wp2
    go_ret2
    exact ⟨rfl, (below1 w _).trans (hx.mono (by simp))⟩
  · obtain ⟨S, rfl, hS, hf, hq⟩ := pz_yes h
    rw [solN_yes h]
    have HQ := Lib.hid hq
    have H := Lib.hid h
    have hkl := keepL_len S f L hS.2
    obtain ⟨n, hn⟩ : ∃ n, n = (keepL (oversL (S : Int) f S 3) L).length := ⟨_, rfl⟩
    rw [← hn] at hkl ⊢
    have HN := Lib.hid hn
    clear h hq hn
    go_enter Try.func26, Try.ntmps26
    go_wp2_with fail
    refine (pzGood_any (S : Int) f A cp L _ (hL.go (below1 _ _))).mono ?_
    rintro e w2 ⟨rfl, hx⟩
    rw [H.out]
    have hb := (below1 w _).trans (hx.mono (by simp))
    have hb1 := box_on (Below.refl _ _) hx (by simp)
    have qq := boxcells hb1
    go_wp2_with fail
    refine (pzAll_any S f A A L.length cp cp L _ hS hf (hL.go hb) HQ.out).mono ?_
    rintro e w3 ⟨v, rfl, hO, hx3⟩
    obtain ⟨A3, c3, rfl, _⟩ := hO.slice
    rw [← HN.out]
    have hb3 := hb.trans (hx3.mono hb.size)
    clear hO
    go_wp2
    go_ret2
    exact ⟨rfl, hb3⟩

set_option maxRecDepth 100000 in
set_option maxHeartbeats 1000000 in
theorem implCountSolutions_any (q f : Int) (L : List Qd) (A : Option Addr) (cp : Nat) (w : World) (hL : RQ w w.heap.size A L) : Calls Try.prog 27 #[.agg #[.int .i64 q, .int .i64 f, .slice A L.length cp]] w fun e w' => e = .returned (.tuple #[.int .i64 (solN q f L : Int), .bool (pzB q f L)]) ∧ Below w.heap.size w w' := by
  have hl := hL.1
  cases h : pzB q f L
  · rw [solN_no h]
    have H := Lib.hid h
    clear h
    go_enter Try.func27, Try.ntmps27
    go_wp2_with fail
    refine (implSolutions_no q f A cp L _ (hL.go (below1 _ _)) H.out).mono ?_
    rintro e w2 ⟨rfl, hx⟩
    go_wp2
    go_ret2
    exact ⟨rfl, (below1 _ _).trans (hx.mono (by simp))⟩
  · obtain ⟨S, rfl, hS, hf, hq⟩ := pz_yes h
    rw [solN_yes h]
    have HQ := Lib.hid hq
    have H := Lib.hid h
    have hkl := keepL_len S f L hS.2
    obtain ⟨n, hn⟩ : ∃ n, n = (keepL (oversL (S : Int) f S 3) L).length := ⟨_, rfl⟩
    rw [← hn] at hkl ⊢
    have HN := Lib.hid hn
    clear h hq hn
    go_enter Try.func27, Try.ntmps27
    go_wp2_with fail
    refine (implSolutions_yes S f A cp L _ (hL.go (below1 _ _)) H.out).mono ?_
    rintro e w2 ⟨v, rfl, hO, hx⟩
    obtain ⟨A3, c3, rfl, _⟩ := hO.slice
    rw [← HN.out]
    clear hO
    go_wp2
    go_ret2
    exact ⟨rfl, (below1 _ _).trans (hx.mono (by simp))⟩

theorem countSolutions_both (q f : Int) (L : List Qd) : ∃ (n : Int) (ok : Bool),
    (∀ (A : Option Addr) (cp : Nat) (w : World), RQ w w.heap.size A L → Calls Try.prog 26 #[.agg #[.int .i64 q, .int .i64 f, .slice A L.length cp]] w fun e w' => e = .returned (.tuple #[.int .i64 n, .bool ok]) ∧ Below w.heap.size w w') ∧
    (∀ (A : Option Addr) (cp : Nat) (w : World), RQ w w.heap.size A L → Calls Try.prog 27 #[.agg #[.int .i64 q, .int .i64 f, .slice A L.length cp]] w fun e w' => e = .returned (.tuple #[.int .i64 n, .bool ok]) ∧ Below w.heap.size w w') :=
  ⟨_, _, fun A cp w hL => specCountSolutions_any q f L A cp w hL, fun A cp w hL => implCountSolutions_any q f L A cp w hL⟩

set_option maxRecDepth 100000 in
set_option maxHeartbeats 1000000 in
theorem pzSolved_any (S : Nat) (f : Int) (A0 A : Option Addr) (n0 c0 cp : Nat) (cs : List Qd) (w : World) (hS : 1 ≤ S ∧ S ≤ 10) (hf : 1 ≤ f ∧ f ≤ 8) (hL : RQ w w.heap.size A cs) (hq : ∀ q ∈ cs, clQ (S : Int) f q = true) :
    Calls Try.prog 71 #[.agg #[.int .i64 (S : Int), .int .i64 f, .slice A0 n0 c0], .slice A cs.length cp] w fun e w' => e = .returned (.bool ((keepL (oversL S f S 3) cs).length == 1)) ∧ Below w.heap.size w w' := by
  have hl := hL.1
  have hk := keepL_len S f cs hS.2
  obtain ⟨n, hn⟩ : ∃ n, n = (keepL (oversL S f S 3) cs).length := ⟨_, rfl⟩
  rw [← hn] at hk ⊢
  have HN := Lib.hid hn; have HQ := Lib.hid hq
  clear hn hq
  go_enter Try.func71, Try.ntmps71
  go_wp2_with fail
  refine (pzAll_any S f A0 A n0 c0 cp cs _ hS hf (hL.go (below1 _ _)) HQ.out).mono ?_
  rintro e w2 ⟨v, rfl, hO, hx⟩
  obtain ⟨A3, c3, rfl, _⟩ := hO.slice
  rw [← HN.out]
  clear hO
  go_wp2
  go_ret
  exact ⟨ret_bool (by rw [Bool.eq_iff_iff]; simp; omega), (below1 _ _).trans (hx.mono (by simp))⟩

set_option maxRecDepth 100000 in
set_option maxHeartbeats 1000000 in
theorem specIsSolved_any (q f : Int) (L : List Qd) (A : Option Addr) (cp : Nat) (w : World) (hL : RQ w w.heap.size A L) : Calls Try.prog 35 #[.agg #[.int .i64 q, .int .i64 f, .slice A L.length cp]] w fun e w' => e = .returned (.tuple #[.bool (solN q f L == 1), .bool (pzB q f L)]) ∧ Below w.heap.size w w' := by
  have hl := hL.1
  cases h : pzB q f L
  · rw [solN_no h]
    have H := Lib.hid h
    clear h
    go_enter Try.func35, Try.ntmps35
    go_wp2_with fail
    refine (pzGood_any q f A cp L _ (hL.go (below1 _ _))).mono ?_
    rintro e w2 ⟨rfl, hx⟩
    rw [H.out]
    go_wp2
    go_ret2
    exact ⟨rfl, (below1 w _).trans (hx.mono (by simp))⟩
  · obtain ⟨S, rfl, hS, hf, hq⟩ := pz_yes h
    rw [solN_yes h]
    have HQ := Lib.hid hq
    have H := Lib.hid h
    have hkl := keepL_len S f L hS.2
    obtain ⟨n, hn⟩ : ∃ n, n = (keepL (oversL (S : Int) f S 3) L).length := ⟨_, rfl⟩
    rw [← hn] at hkl ⊢
    have HN := Lib.hid hn
    clear h hq hn
    go_enter Try.func35, Try.ntmps35
    go_wp2_with fail
    refine (pzGood_any (S : Int) f A cp L _ (hL.go (below1 _ _))).mono ?_
    rintro e w2 ⟨rfl, hx⟩
    rw [H.out]
    have hb := (below1 w _).trans (hx.mono (by simp))
    have hb1 := box_on (Below.refl _ _) hx (by simp)
    have qq := boxcells hb1
    go_wp2_with fail
    refine (pzSolved_any S f A A L.length cp cp L _ hS hf (hL.go hb) HQ.out).mono ?_
    rintro e w3 ⟨rfl, hx3⟩
    rw [← HN.out]
    have hb3 := hb.trans (hx3.mono hb.size)
    go_wp2
    go_ret2
    exact ⟨rfl, hb3⟩

set_option maxRecDepth 100000 in
set_option maxHeartbeats 1000000 in
theorem implIsSolved_any (q f : Int) (L : List Qd) (A : Option Addr) (cp : Nat) (w : World) (hL : RQ w w.heap.size A L) : Calls Try.prog 36 #[.agg #[.int .i64 q, .int .i64 f, .slice A L.length cp]] w fun e w' => e = .returned (.tuple #[.bool (solN q f L == 1), .bool (pzB q f L)]) ∧ Below w.heap.size w w' := by
  have hl := hL.1
  cases h : pzB q f L
  · rw [solN_no h]
    have H := Lib.hid h
    clear h
    go_enter Try.func36, Try.ntmps36
    go_wp2_with fail
    refine (hiddenOf_no q f A cp L _ (hL.go (below1 _ _)) H.out).mono ?_
    rintro e w2 ⟨rfl, hx⟩
    have hb := (below1 w _).trans (hx.mono (by simp))
    have hb1 := box_on (Below.refl _ _) hx (by simp)
    have qq := boxcells hb1
    go_wp2
    go_ret2
    exact ⟨rfl, hb.alloc hb.size _⟩
  · obtain ⟨S, rfl, hS, hf, hq⟩ := pz_yes h
    rw [solN_yes h]
    have HQ := Lib.hid hq
    have H := Lib.hid h
    have hkl := keepL_len S f L hS.2
    obtain ⟨n, hn⟩ : ∃ n, n = (keepL (oversL (S : Int) f S 3) L).length := ⟨_, rfl⟩
    rw [← hn] at hkl ⊢
    have HN := Lib.hid hn
    clear h hq hn
    go_enter Try.func36, Try.ntmps36
    go_wp2_with fail
    refine (hiddenOf_yes (S : Int) f A cp L _ (hL.go (below1 _ _)) H.out).mono ?_
    rintro e w2 ⟨rfl, hx⟩
    have hb := (below1 w _).trans (hx.mono (by simp))
    have hs := hb.size
    have hs2 : w.heap.size < w2.heap.size := by have := hx.size; simp at this; omega
    have hb1 := box_on (Below.refl _ _) hx (by simp)
    have qq := boxcells hb1
    go_wp2_with fail
    refine (areSolved_any S f A cp L _ hS hf (hL.go (hb.alloc hb.size _)) HQ.out).mono ?_
    rintro e w3 ⟨rfl, hx3⟩
    rw [← HN.out]
    have hb3 := (hb.alloc hb.size _).trans (hx3.mono (by simp; omega))
    clear hb1 qq
    go_wp2
    go_ret2
    exact ⟨rfl, hb3⟩

theorem isSolved_both (q f : Int) (L : List Qd) : ∃ (v ok : Bool),
    (∀ (A : Option Addr) (cp : Nat) (w : World), RQ w w.heap.size A L → Calls Try.prog 35 #[.agg #[.int .i64 q, .int .i64 f, .slice A L.length cp]] w fun e w' => e = .returned (.tuple #[.bool v, .bool ok]) ∧ Below w.heap.size w w') ∧
    (∀ (A : Option Addr) (cp : Nat) (w : World), RQ w w.heap.size A L → Calls Try.prog 36 #[.agg #[.int .i64 q, .int .i64 f, .slice A L.length cp]] w fun e w' => e = .returned (.tuple #[.bool v, .bool ok]) ∧ Below w.heap.size w w') :=
  ⟨_, _, fun A cp w hL => specIsSolved_any q f L A cp w hL, fun A cp w hL => implIsSolved_any q f L A cp w hL⟩

end Go.Proofs.Ytjngiinfpoappaa

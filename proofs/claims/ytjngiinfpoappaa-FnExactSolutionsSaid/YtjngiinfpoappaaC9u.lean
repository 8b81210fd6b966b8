/-
  Puzzles: the solutions, counted: Solutions (the program's), CountSolutions, IsSolved, HiddenBoards on both sides. Puzzles: mathematics of the tops: the solutions are in the order of Over; the numbers left by clues; the best clue; clues taken out.
-/
import Derived.Test.YtjngiinfpoappaaC9t
import Derived.Test.YtjngiinfpoappaaC9q
import Derived.Test.YtjngiinfpoappaaC9f
namespace Go.Proofs.Ytjngiinfpoappaa
open Go.RowKit

theorem pz_yes {q f : Int} {L : List Qd} (h : pzB q f L = true) : ∃ S : Nat, q = (S : Int) ∧ (1 ≤ S ∧ S ≤ 10) ∧ (1 ≤ f ∧ f ≤ 8) ∧ ∀ c ∈ L, clQ (S : Int) f c = true := by
  obtain ⟨hq, hf, _, hc⟩ := pzB_parts h
  refine ⟨q.toNat, by omega, by omega, hf, fun c hm => ?_⟩
  obtain ⟨k, hk, rfl⟩ := List.mem_iff_getElem.1 hm
  rw [show ((q.toNat : Nat) : Int) = q by omega]
  exact hc k hk
/-- How many boards fit all clues: 0 for what is no puzzle. -/
noncomputable def solN (q f : Int) (L : List Qd) : Nat := if pzB q f L then (keepL (oversL q f q.toNat 3) L).length else 0
theorem solN_no {q f : Int} {L : List Qd} (h : pzB q f L = false) : solN q f L = 0 := by rw [solN, h]; rfl
theorem solN_yes {S : Nat} {f : Int} {L : List Qd} (h : pzB (S : Int) f L = true) : solN (S : Int) f L = (keepL (oversL (S : Int) f S 3) L).length := by rw [solN, h]; rfl

set_option maxRecDepth 100000 in
set_option maxHeartbeats 1000000 in
theorem implSolutions_no (q f : Int) (A : Option Addr) (cp : Nat) (L : List Qd) (w : World) (hL : RQ w w.heap.size A L) (h : pzB q f L = false) :
    Calls Try.prog 20 #[.agg #[.int .i64 q, .int .i64 f, .slice A L.length cp]] w fun e w' => e = .returned (.tuple #[.slice none 0 0, .bool false]) ∧ Below w.heap.size w w' := by
  have hl := hL.1
  have H := Lib.hid h
  clear h
  go_enter Try.func20, Try.ntmps20
  go_wp2_with fail
  refine (hiddenOf_no q f A cp L _ (hL.go (below1 _ _)) H.out).mono ?_
  rintro e w2 ⟨rfl, hx⟩
  have hb := (below1 w _).trans (hx.mono (by simp))
  have hb1 := box_on (Below.refl _ _) hx (by simp)
  have qq := boxcells hb1
  go_wp2
  go_ret2
  exact ⟨rfl, hb.alloc hb.size _⟩

set_option maxRecDepth 100000 in
set_option maxHeartbeats 1000000 in
theorem implSolutions_yes (S : Nat) (f : Int) (A : Option Addr) (cp : Nat) (L : List Qd) (w : World) (hL : RQ w w.heap.size A L) (h : pzB (S : Int) f L = true) :
    Calls Try.prog 20 #[.agg #[.int .i64 (S : Int), .int .i64 f, .slice A L.length cp]] w fun e w' => ∃ v, e = .returned (.tuple #[v, .bool true]) ∧ OwnB w' w.heap.size w.heap.size 44 101 v (keepL (oversL S f S 3) L) ∧ Below w.heap.size w w' := by
  have hl := hL.1
  obtain ⟨S0, hS0, hS, hf, hq⟩ := pz_yes h
  obtain rfl : S0 = S := by omega
  have HQ := Lib.hid hq
  have H := Lib.hid h
  clear h hS0 hq
  go_enter Try.func20, Try.ntmps20
  go_wp2_with fail
  refine (hiddenOf_yes (S0 : Int) f A cp L _ (hL.go (below1 _ _)) H.out).mono ?_
  rintro e w2 ⟨rfl, hx⟩
  have hb := (below1 w _).trans (hx.mono (by simp))
  have hs := hb.size
  have hs2 : w.heap.size < w2.heap.size := by have := hx.size; simp at this; omega
  have hb1 := box_on (Below.refl _ _) hx (by simp)
  have qq := boxcells hb1
  go_wp2_with fail
  refine (thatFit_any S0 f A cp L _ hS hf (hL.go (hb.alloc hb.size _)) HQ.out).mono ?_
  rintro e w3 ⟨v, rfl, hO, hx3⟩
  simp only [World.size_alloc] at hO hx3
  have HO := Lib.hid (hO.lower (lo' := w.heap.size) (lj' := w.heap.size) (by omega) (by omega))
  have hb3 := (hb.alloc hb.size _).trans (hx3.mono (by omega))
  clear hO hb1 qq
  go_wp2
  go_ret2
  exact ⟨v, rfl, HO.out, hb3⟩

set_option maxRecDepth 100000 in
set_option maxHeartbeats 1000000 in
theorem specCountSolutions_any (q f : Int) (L : List Qd) (A : Option Addr) (cp : Nat) (w : World) (hL : RQ w w.heap.size A L) : Calls Try.prog 26 #[.agg #[.int .i64 q, .int .i64 f, .slice A L.length cp]] w fun e w' => e = .returned (.tuple #[.int .i64 (solN q f L : Int), .bool (pzB q f L)]) ∧ Below w.heap.size w w' := by
  have hl := hL.1
  cases h : pzB q f L
  · rw [solN_no h]
    have H := Lib.hid h
    clear h
    go_enter Try.func26, Try.ntmps26
    go_wp2_with fail
    refine (pzGood_any q f A cp L _ (hL.go (below1 _ _))).mono ?_
    rintro e w2 ⟨rfl, hx⟩
    rw [H.out]
    go_wp2
    go_ret2
    exact ⟨rfl, (below1 w _).trans (hx.mono (by simp))⟩
  · obtain ⟨S, rfl, hS, hf, hq⟩ := pz_yes h
    rw [solN_yes h]
    have HQ := Lib.hid hq
    have H := Lib.hid h
    have hkl := keepL_len S f L hS.2
    obtain ⟨n, hn⟩ : ∃ n, n = (keepL (oversL (S : Int) f S 3) L).length := ⟨_, rfl⟩
    rw [← hn] at hkl ⊢
    have HN := Lib.hid hn
    clear h hq hn
    go_enter Try.func26, Try.ntmps26
    go_wp2_with fail
    refine (pzGood_any (S : Int) f A cp L _ (hL.go (below1 _ _))).mono ?_
    rintro e w2 ⟨rfl, hx⟩
    rw [H.out]
    have hb := (below1 w _).trans (hx.mono (by simp))
    have hb1 := box_on (Below.refl _ _) hx (by simp)
    have qq := boxcells hb1
    go_wp2_with fail
    refine (pzAll_any S f A A L.length cp cp L _ hS hf (hL.go hb) HQ.out).mono ?_
    rintro e w3 ⟨v, rfl, hO, hx3⟩
    obtain ⟨A3, c3, rfl, _⟩ := hO.slice
    rw [← HN.out]
    have hb3 := hb.trans (hx3.mono hb.size)
    clear hO
    go_wp2
    go_ret2
    exact ⟨rfl, hb3⟩

set_option maxRecDepth 100000 in
set_option maxHeartbeats 1000000 in
theorem implCountSolutions_any (q f : Int) (L : List Qd) (A : Option Addr) (cp : Nat) (w : World) (hL : RQ w w.heap.size A L) : Calls Try.prog 27 #[.agg #[.int .i64 q, .int .i64 f, .slice A L.length cp]] w fun e w' => e = .returned (.tuple #[.int .i64 (solN q f L : Int), .bool (pzB q f L)]) ∧ Below w.heap.size w w' := by
  have hl := hL.1
  cases h : pzB q f L
  · rw [solN_no h]
    have H := Lib.hid h
    clear h
    go_enter Try.func27, Try.ntmps27
    go_wp2_with fail
    refine (implSolutions_no q f A cp L _ (hL.go (below1 _ _)) H.out).mono ?_
    rintro e w2 ⟨rfl, hx⟩
    go_wp2
    go_ret2
    exact ⟨rfl, (below1 _ _).trans (hx.mono (by simp))⟩
  · obtain ⟨S, rfl, hS, hf, hq⟩ := pz_yes h
    rw [solN_yes h]
    have HQ := Lib.hid hq
    have H := Lib.hid h
    have hkl := keepL_len S f L hS.2
    obtain ⟨n, hn⟩ : ∃ n, n = (keepL (oversL (S : Int) f S 3) L).length := ⟨_, rfl⟩
    rw [← hn] at hkl ⊢
    have HN := Lib.hid hn
    clear h hq hn
    go_enter Try.func27, Try.ntmps27
    go_wp2_with fail
    refine (implSolutions_yes S f A cp L _ (hL.go (below1 _ _)) H.out).mono ?_
    rintro e w2 ⟨v, rfl, hO, hx⟩
    obtain ⟨A3, c3, rfl, _⟩ := hO.slice
    rw [← HN.out]
    clear hO
    go_wp2
    go_ret2
    exact ⟨rfl, (below1 _ _).trans (hx.mono (by simp))⟩

theorem countSolutions_both (q f : Int) (L : List Qd) : ∃ (n : Int) (ok : Bool),
    (∀ (A : Option Addr) (cp : Nat) (w : World), RQ w w.heap.size A L → Calls Try.prog 26 #[.agg #[.int .i64 q, .int .i64 f, .slice A L.length cp]] w fun e w' => e = .returned (.tuple #[.int .i64 n, .bool ok]) ∧ Below w.heap.size w w') ∧
    (∀ (A : Option Addr) (cp : Nat) (w : World), RQ w w.heap.size A L → Calls Try.prog 27 #[.agg #[.int .i64 q, .int .i64 f, .slice A L.length cp]] w fun e w' => e = .returned (.tuple #[.int .i64 n, .bool ok]) ∧ Below w.heap.size w w') :=
  ⟨_, _, fun A cp w hL => specCountSolutions_any q f L A cp w hL, fun A cp w hL => implCountSolutions_any q f L A cp w hL⟩

set_option maxRecDepth 100000 in
set_option maxHeartbeats 1000000 in
theorem pzSolved_any (S : Nat) (f : Int) (A0 A : Option Addr) (n0 c0 cp : Nat) (cs : List Qd) (w : World) (hS : 1 ≤ S ∧ S ≤ 10) (hf : 1 ≤ f ∧ f ≤ 8) (hL : RQ w w.heap.size A cs) (hq : ∀ q ∈ cs, clQ (S : Int) f q = true) :
    Calls Try.prog 71 #[.agg #[.int .i64 (S : Int), .int .i64 f, .slice A0 n0 c0], .slice A cs.length cp] w fun e w' => e = .returned (.bool ((keepL (oversL S f S 3) cs).length == 1)) ∧ Below w.heap.size w w' := by
  have hl := hL.1
  have hk := keepL_len S f cs hS.2
  obtain ⟨n, hn⟩ : ∃ n, n = (keepL (oversL S f S 3) cs).length := ⟨_, rfl⟩
  rw [← hn] at hk ⊢
  have HN := Lib.hid hn; have HQ := Lib.hid hq
  clear hn hq
  go_enter Try.func71, Try.ntmps71
  go_wp2_with fail
  refine (pzAll_any S f A0 A n0 c0 cp cs _ hS hf (hL.go (below1 _ _)) HQ.out).mono ?_
  rintro e w2 ⟨v, rfl, hO, hx⟩
  obtain ⟨A3, c3, rfl, _⟩ := hO.slice
  rw [← HN.out]
  clear hO
  go_wp2
  go_ret
  exact ⟨ret_bool (by rw [Bool.eq_iff_iff]; simp; omega), (below1 _ _).trans (hx.mono (by simp))⟩

set_option maxRecDepth 100000 in
set_option maxHeartbeats 1000000 in
theorem specIsSolved_any (q f : Int) (L : List Qd) (A : Option Addr) (cp : Nat) (w : World) (hL : RQ w w.heap.size A L) : Calls Try.prog 35 #[.agg #[.int .i64 q, .int .i64 f, .slice A L.length cp]] w fun e w' => e = .returned (.tuple #[.bool (solN q f L == 1), .bool (pzB q f L)]) ∧ Below w.heap.size w w' := by
  have hl := hL.1
  cases h : pzB q f L
  · rw [solN_no h]
    have H := Lib.hid h
    clear h
    go_enter Try.func35, Try.ntmps35
    go_wp2_with fail
    refine (pzGood_any q f A cp L _ (hL.go (below1 _ _))).mono ?_
    rintro e w2 ⟨rfl, hx⟩
    rw [H.out]
    go_wp2
    go_ret2
    exact ⟨rfl, (below1 w _).trans (hx.mono (by simp))⟩
  · obtain ⟨S, rfl, hS, hf, hq⟩ := pz_yes h
    rw [solN_yes h]
    have HQ := Lib.hid hq
    have H := Lib.hid h
    have hkl := keepL_len S f L hS.2
    obtain ⟨n, hn⟩ : ∃ n, n = (keepL (oversL (S : Int) f S 3) L).length := ⟨_, rfl⟩
    rw [← hn] at hkl ⊢
    have HN := Lib.hid hn
    clear h hq hn
    go_enter Try.func35, Try.ntmps35
    go_wp2_with fail
    refine (pzGood_any (S : Int) f A cp L _ (hL.go (below1 _ _))).mono ?_
    rintro e w2 ⟨rfl, hx⟩
    rw [H.out]
    have hb := (below1 w _).trans (hx.mono (by simp))
    have hb1 := box_on (Below.refl _ _) hx (by simp)
    have qq := boxcells hb1
    go_wp2_with fail
    refine (pzSolved_any S f A A L.length cp cp L _ hS hf (hL.go hb) HQ.out).mono ?_
    rintro e w3 ⟨rfl, hx3⟩
    rw [← HN.out]
    have hb3 := hb.trans (hx3.mono hb.size)
    go_wp2
    go_ret2
    exact ⟨rfl, hb3⟩

set_option maxRecDepth 100000 in
set_option maxHeartbeats 1000000 in
theorem implIsSolved_any (q f : Int) (L : List Qd) (A : Option Addr) (cp : Nat) (w : World) (hL : RQ w w.heap.size A L) : Calls Try.prog 36 #[.agg #[.int .i64 q, .int .i64 f, .slice A L.length cp]] w fun e w' => e = .returned (.tuple #[.bool (solN q f L == 1), .bool (pzB q f L)]) ∧ Below w.heap.size w w' := by
  have hl := hL.1
  cases h : pzB q f L
  · rw [solN_no h]
    have H := Lib.hid h
    clear h
    go_enter Try.func36, Try.ntmps36
    go_wp2_with fail
    refine (hiddenOf_no q f A cp L _ (hL.go (below1 _ _)) H.out).mono ?_
    rintro e w2 ⟨rfl, hx⟩
    have hb := (below1 w _).trans (hx.mono (by simp))
    have hb1 := box_on (Below.refl _ _) hx (by simp)
    have qq := boxcells hb1
    go_wp2
    go_ret2
    exact ⟨rfl, hb.alloc hb.size _⟩
  · obtain ⟨S, rfl, hS, hf, hq⟩ := pz_yes h
    rw [solN_yes h]
    have HQ := Lib.hid hq
    have H := Lib.hid h
    have hkl := keepL_len S f L hS.2
    obtain ⟨n, hn⟩ : ∃ n, n = (keepL (oversL (S : Int) f S 3) L).length := ⟨_, rfl⟩
    rw [← hn] at hkl ⊢
    have HN := Lib.hid hn
    clear h hq hn
    go_enter Try.func36, Try.ntmps36
    go_wp2_with fail
    refine (hiddenOf_yes (S : Int) f A cp L _ (hL.go (below1 _ _)) H.out).mono ?_
    rintro e w2 ⟨rfl, hx⟩
    have hb := (below1 w _).trans (hx.mono (by simp))
    have hs := hb.size
    have hs2 : w.heap.size < w2.heap.size := by have := hx.size; simp at this; omega
    have hb1 := box_on (Below.refl _ _) hx (by simp)
    have qq := boxcells hb1
    go_wp2_with fail
    refine (areSolved_any S f A cp L _ hS hf (hL.go (hb.alloc hb.size _)) HQ.out).mono ?_
    rintro e w3 ⟨rfl, hx3⟩
    rw [← HN.out]
    have hb3 := (hb.alloc hb.size _).trans (hx3.mono (by simp; omega))
    clear hb1 qq
    go_wp2
    go_ret2
    exact ⟨rfl, hb3⟩

theorem isSolved_both (q f : Int) (L : List Qd) : ∃ (v ok : Bool),
    (∀ (A : Option Addr) (cp : Nat) (w : World), RQ w w.heap.size A L → Calls Try.prog 35 #[.agg #[.int .i64 q, .int .i64 f, .slice A L.length cp]] w fun e w' => e = .returned (.tuple #[.bool v, .bool ok]) ∧ Below w.heap.size w w') ∧
    (∀ (A : Option Addr) (cp : Nat) (w : World), RQ w w.heap.size A L → Calls Try.prog 36 #[.agg #[.int .i64 q, .int .i64 f, .slice A L.length cp]] w fun e w' => e = .returned (.tuple #[.bool v, .bool ok]) ∧ Below w.heap.size w w') :=
  ⟨_, _, fun A cp w hL => specIsSolved_any q f L A cp w hL, fun A cp w hL => implIsSolved_any q f L A cp w hL⟩

end Go.Proofs.Ytjngiinfpoappaa

namespace Go.Proofs.Ytjngiinfpoappaa

theorem tosL_over {s f o a : Int} : ∀ (t : Nat), ∀ x ∈ tosL s f o a t, x.1.2.2 = o
  | 0, x, hx => by cases hx
  | t + 1, x, hx => by
    rw [tosL, List.mem_append] at hx
    rcases hx with hx | hx
    · exact tosL_over t x hx
    · split at hx
      · cases hx
      · obtain rfl := List.mem_singleton.1 hx; rfl
theorem fromsL_over {s f o : Int} {S : Nat} : ∀ (k : Nat), ∀ x ∈ fromsL s f o S k, x.1.2.2 = o
  | 0, x, hx => by cases hx
  | k + 1, x, hx => by
    rw [fromsL, List.mem_append] at hx
    rcases hx with hx | hx
    · exact fromsL_over k x hx
    · exact tosL_over _ x hx
theorem oversL_over {s f : Int} {S : Nat} : ∀ (m : Nat), ∀ x ∈ oversL s f S m, 0 ≤ x.1.2.2 ∧ x.1.2.2 < (m : Int)
  | 0, x, hx => by cases hx
  | m + 1, x, hx => by
    rw [oversL, List.mem_append, List.mem_append] at hx
    rcases hx with (hx | hx) | hx
    · have := oversL_over m x hx; exact ⟨this.1, by omega⟩
    · obtain rfl := List.mem_singleton.1 hx; exact ⟨by dsimp only; omega, by dsimp only; omega⟩
    · rw [fromsL_over _ x hx]; exact ⟨by omega, by omega⟩
theorem oversL_sorted {s f : Int} {S : Nat} : ∀ (m : Nat), (oversL s f S m).Pairwise (fun x y => x.1.2.2 ≤ y.1.2.2)
  | 0 => List.Pairwise.nil
  | m + 1 => by
    rw [oversL, List.pairwise_append, List.pairwise_append]
    refine ⟨⟨oversL_sorted m, List.pairwise_singleton _ _, fun x hx y hy => ?_⟩, ?_, fun x hx y hy => ?_⟩
    · obtain rfl := List.mem_singleton.1 hy
      have := oversL_over m x hx
      dsimp only
      omega
    · rw [List.pairwise_iff_forall_sublist]
      intro x y hs
      have h1 := fromsL_over _ x (hs.subset (by simp))
      have h2 := fromsL_over _ y (hs.subset (by simp))
      omega
    · rw [fromsL_over _ y hy]
      rcases List.mem_append.1 hx with hx | hx
      · have := oversL_over m x hx; omega
      · obtain rfl := List.mem_singleton.1 hx; dsimp only; omega
theorem keepL_sorted {s f : Int} {S m : Nat} (cs : List Qd) : (keepL (oversL s f S m) cs).Pairwise (fun x y => x.1.2.2 ≤ y.1.2.2) := (oversL_sorted m).sublist List.filter_sublist
theorem keepL_over {s f : Int} {S m : Nat} {cs : List Qd} {x : Brd} (hx : x ∈ keepL (oversL s f S m) cs) : 0 ≤ x.1.2.2 ∧ x.1.2.2 < (m : Int) := oversL_over m x (List.mem_filter.1 hx).1
theorem sorted_at {K : List Brd} (h : K.Pairwise (fun x y => x.1.2.2 ≤ y.1.2.2)) {i j : Nat} (hij : i ≤ j) (hj : j < K.length) : (K[i]'(by omega)).1.2.2 ≤ K[j].1.2.2 := by
  rcases Nat.lt_or_ge i j with h1 | h1
  · exact List.pairwise_iff_getElem.1 h i j (by omega) hj h1
  · obtain rfl : i = j := by omega
    exact Int.le_refl _

/-- The Over that all boards of a row have, or -1; none if there is no board. -/
def sureV (K : List Brd) : Int × Bool := if h : 0 < K.length then (if (K[K.length - 1]'(by omega)).1.2.2 = (K[0]'h).1.2.2 then (K[0]'h).1.2.2 else -1, true) else (0, false)
theorem sureV_nil {K : List Brd} (h : K.length = 0) : sureV K = (0, false) := by rw [sureV, dif_neg (by omega)]
theorem sureV_cons {K : List Brd} (h : 0 < K.length) : sureV K = (if (K[K.length - 1]'(by omega)).1.2.2 = (K[0]'h).1.2.2 then (K[0]'h).1.2.2 else -1, true) := by rw [sureV, dif_pos h]
/-- A board with another Over than the first one: there is none that all have. -/
theorem sureV_differ {K : List Brd} (hs : K.Pairwise (fun x y => x.1.2.2 ≤ y.1.2.2)) {k : Nat} (hk : k < K.length) (hne : ¬ K[k].1.2.2 = (K[0]'(by omega)).1.2.2) : sureV K = (-1, true) := by
  have h0 : 0 < K.length := by omega
  have h1 := sorted_at hs (Nat.zero_le k) hk
  have h2 := sorted_at hs (show k ≤ K.length - 1 by omega) (by omega)
  rw [sureV_cons h0, if_neg (by omega)]
theorem sureV_same {K : List Brd} (h0 : 0 < K.length) (h : ∀ k (hk : k < K.length), K[k].1.2.2 = (K[0]'h0).1.2.2) : sureV K = ((K[0]'h0).1.2.2, true) := by
  rw [sureV_cons h0, if_pos (h _ (by omega))]
/-- How many boards fit the first n clues, for n below k. -/
noncomputable def leftL (s f : Int) (S : Nat) (L : List Qd) : Nat → List Int
  | 0 => []
  | n + 1 => leftL s f S L n ++ [((keepL (oversL s f S 3) (L.take n)).length : Int)]
theorem leftL_len (s f : Int) (S : Nat) (L : List Qd) : ∀ n, (leftL s f S L n).length = n
  | 0 => rfl
  | n + 1 => by rw [leftL, List.length_append, leftL_len s f S L n]; rfl
/-- The clues below k without which as many boards fit. -/
noncomputable def needL (s f : Int) (S : Nat) (L : List Qd) : Nat → List Int
  | 0 => []
  | n + 1 => needL s f S L n ++ (if (keepL (oversL s f S 3) (dropQ L n)).length = (keepL (oversL s f S 3) L).length then [(n : Int)] else [])
theorem needL_len (s f : Int) (S : Nat) (L : List Qd) : ∀ n, (needL s f S L n).length ≤ n
  | 0 => Nat.le_refl _
  | n + 1 => by
    have := needL_len s f S L n
    rw [needL, List.length_append]
    split <;> simp <;> omega
/-- How many boards fit the k-th clue alone. -/
noncomputable def oneN (s f : Int) (S : Nat) (L : List Qd) (k : Nat) : Nat := (keepL (oversL s f S 3) ((L.drop k).take 1)).length
/-- The best of the clues below k and how many boards fit it. -/
noncomputable def bestC (s f : Int) (S : Nat) (L : List Qd) : Nat → Nat × Nat
  | 0 => (0, 0)
  | k + 1 => if k = 0 ∨ oneN s f S L k < (bestC s f S L k).2 then (k, oneN s f S L k) else bestC s f S L k
theorem bestC_lt (s f : Int) (S : Nat) (L : List Qd) : ∀ k, (bestC s f S L k).1 ≤ k
  | 0 => Nat.le_refl _
  | k + 1 => by
    have := bestC_lt s f S L k
    rw [bestC]
    split
    · exact Nat.le_succ _
    · omega
/-- The clues that are left when those from the k-th on are taken out where the puzzle is solved still; n rounds. -/
noncomputable def hardF (s f : Int) (S : Nat) : Nat → List Qd → Nat → List Qd
  | 0, C, _ => C
  | n + 1, C, k => if (keepL (oversL s f S 3) (dropQ C k)).length = 1 then hardF s f S n (dropQ C k) k else hardF s f S n C (k + 1)
end Go.Proofs.Ytjngiinfpoappaa

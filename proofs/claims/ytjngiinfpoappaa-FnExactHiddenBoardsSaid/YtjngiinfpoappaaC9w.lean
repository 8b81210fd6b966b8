/-
  Puzzles: HiddenBoards on both sides.
-/
import Derived.Test.YtjngiinfpoappaaC9u
namespace Go.Proofs.Ytjngiinfpoappaa
open Go.RowKit

theorem keepL_nil (L : List Brd) : keepL L [] = L := by rw [keepL, List.filter_eq_self]; intro a _; rfl
theorem pzB_nil (q f : Int) : pzB q f [] = szB q f := by simp [pzB]
set_option maxRecDepth 100000 in
set_option maxHeartbeats 1000000 in
theorem hiddenBoards_both (q f : Int) : ∃ (x : Int) (ok : Bool),
    (∀ w : World, Calls Try.prog 15 #[.int .i64 q, .int .i64 f] w fun e w' => e = .returned (.tuple #[.int .i64 x, .bool ok]) ∧ Below w.heap.size w w') ∧
    (∀ w : World, Calls Try.prog 16 #[.int .i64 q, .int .i64 f] w fun e w' => e = .returned (.tuple #[.int .i64 x, .bool ok]) ∧ Below w.heap.size w w') := by
  refine ⟨(solN q f [] : Int), pzB q f [], fun w => ?_, fun w => ?_⟩
  · cases h : pzB q f []
    · rw [solN_no h]
      have h2 := h
      rw [pzB_nil] at h2
      have H := Lib.hid h2
      clear h h2
      go_enter Try.func15, Try.ntmps15
      go_wp2_with fail
      refine (pzSize_any q f _).mono ?_
      rintro e w2 ⟨rfl, rfl⟩
      rw [H.out]
      go_wp2
      go_ret2
      exact ⟨rfl, Below.refl _ _⟩
    · obtain ⟨S, rfl, hS, hf, hq⟩ := pz_yes h
      rw [solN_yes h, keepL_nil]
      have h2 := h
      rw [pzB_nil] at h2
      have H := Lib.hid h2
      obtain ⟨n, hn⟩ : ∃ n, n = (oversL (S : Int) f S 3).length := ⟨_, rfl⟩
      have hkl : n ≤ 300 := by rw [hn]; have := oversL_len (S : Int) f S hS.2 3; omega
      rw [← hn]
      have HN := Lib.hid hn
      clear h h2 hn hq
      go_enter Try.func15, Try.ntmps15
      go_wp2_with fail
      refine (pzSize_any (S : Int) f _).mono ?_
      rintro e w2 ⟨rfl, rfl⟩
      rw [H.out]
      go_wp2_with fail
      refine (pzBoards_any S f _ hS).mono ?_
      rintro e w3 ⟨v, rfl, hO, hx⟩
      obtain ⟨A3, c3, rfl, _⟩ := hO.slice
      rw [← HN.out]
      clear hO
      go_wp2
      go_ret2
      exact ⟨rfl, hx⟩
  · go_enter Try.func16, Try.ntmps16
    go_wp2_with fail
    refine (implCountSolutions_any q f [] none 0 _ ⟨Nat.zero_le _, .inl rfl⟩).mono ?_
    rintro e w2 ⟨rfl, hx⟩
    go_wp2
    go_ret2
    exact ⟨rfl, hx⟩
end Go.Proofs.Ytjngiinfpoappaa

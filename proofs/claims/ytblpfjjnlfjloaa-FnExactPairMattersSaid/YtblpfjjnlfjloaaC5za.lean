/-
  Pairs: the model's mean by a rule.
-/
import Derived.Test.YtblpfjjnlfjloaaC5z
namespace Go.Proofs.Ytblpfjjnlfjloaa
open Go.RowKit

set_option maxRecDepth 100000 in
set_option maxHeartbeats 2000000 in
theorem oiMean_any (r : Int) (ch : Tab → Nat → Nat → Nat → Nat) (G : Tab → Nat → Nat → Nat → Prop) (s f x y : Nat) (T : Tab) (w : World) (hR : RuleS r s ch G) (hT : TabOkS ch s f T) (hG : GoodS G s f T) (hb : ∀ u v, (T u v).1 ≤ 10000000 ∧ (T u v).2 ≤ 10000000) (hs : s ≤ 6) (hf1 : 1 ≤ f) (hf : f ≤ 8) (hx : x ≤ s) (hy : y ≤ s) :
    Calls Try.prog 38 #[.int .i64 s, .int .i64 f, .int .i64 x, .int .i64 y, .int .i64 r] w fun e w' => e = .returned (.tuple #[.int .i64 ((T x y).1 : Nat), .int .i64 ((T x y).2 : Nat)]) ∧ Below w.heap.size w w' := by
  have ws : IntKind.i64.wrap ((s : Int) + 1) = ((s + 1 : Nat) : Int) := by rw [IntWalk.i64_in _ (by omega)]; omega
  have hxS : x * (s + 1) ≤ 6 * 7 := Nat.mul_le_mul (by omega) (by omega)
  have wx : IntKind.i64.wrap ((x : Int) * ((s + 1 : Nat) : Int)) = ((x * (s + 1) : Nat) : Int) := by rw [← Int.natCast_mul]; exact IntWalk.i64_in _ (by omega)
  obtain ⟨I1, hI1⟩ : ∃ I1, I1 = x * (s + 1) := ⟨_, rfl⟩
  rw [← hI1] at wx hxS
  obtain ⟨I, hI⟩ : ∃ I, I = I1 + y := ⟨_, rfl⟩
  have wI : IntKind.i64.wrap ((I1 : Int) + (y : Int)) = (I : Int) := by rw [hI, IntWalk.i64_in _ (by omega)]; omega
  obtain ⟨S, hS⟩ : ∃ S : Nat, S = s + 1 := ⟨_, rfl⟩
  rw [← hS] at ws wx
  have HI := Lib.hid (show I = x * (s + 1) + y by rw [hI, hI1])
  clear hI hI1 hS
  obtain ⟨n, hn⟩ : ∃ n : Nat, n = (s + 1) * (s + 1) := ⟨_, rfl⟩
  have hcall := fun W => oiTable_any r ch G s f T W hR hT hG hb hs hf1 hf
  simp only [← hn] at hcall
  have HC := Lib.hid hcall; have HN := Lib.hid hn
  clear hcall hn
  have hall : allT T s x y = T x y := by unfold allT; rw [if_pos ⟨hx, hy⟩]
  have HA := Lib.hid hall; clear hall
  go_enter Try.func38, Try.ntmps38
  go_wp2_with (go_at_call 42; go_loud (refine (HC.out _).mono ?_; rintro e w1 ⟨gw, rfl, hx1, hT1, _⟩; obtain ⟨hIn, c1, c2⟩ := TabS.at_ hT1 hx hy; rw [HA.out, ← HI.out] at c1 c2; rw [← HI.out, ← HN.out] at hIn; have bI : (I : Int) < (n : Int) := by omega))
  first | go_quiet (fail) | skip
  go_wp2
  go_ret2
  exact ⟨rfl, by first | exact hx1 | exact drewB hx1 _ | exact drewB (hx1.trans (below1 _ _)) _ | exact drewB (hx1.trans ((below1 _ _).mono hx1.size)) _ | exact (hx1.trans ((below1 _ _).mono hx1.size))⟩
end Go.Proofs.Ytblpfjjnlfjloaa

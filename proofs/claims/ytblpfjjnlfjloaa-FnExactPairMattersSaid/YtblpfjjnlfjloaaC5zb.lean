/-
  Pairs: the model's PairByRule.
-/
import Derived.Test.YtblpfjjnlfjloaaC5za
import Derived.Test.YtblpfjjnlfjloaaC5a
namespace Go.Proofs.Ytblpfjjnlfjloaa
open Go.RowKit

/-- The rule that a bool names. -/
def chBool (l : Bool) : Tab → Nat → Nat → Nat → Nat := if l then chLead else chFoll
set_option maxRecDepth 100000 in
set_option maxHeartbeats 1000000 in
theorem specByRule_no (s f a b : Int) (l : Bool) (w : World) (hp : pairOk s f a b = false) :
    Calls Try.prog 16 #[.int .i64 s, .int .i64 f, .int .i64 a, .int .i64 b, .bool l] w fun e w' => e = .returned (.tuple #[.int .i64 0, .int .i64 0, .bool false]) ∧ Below w.heap.size w w' := by
  have HP := Lib.hid hp; clear hp
  go_enter Try.func16, Try.ntmps16
  go_wp2_with (go_at_call 37; go_loud (refine (oiGood_any _ _ _ _ _).mono ?_; rintro e w1 ⟨rfl, rfl⟩; rw [HP.out]))
  exact bodyPost_ret (v := .tuple #[.int .i64 0, .int .i64 0, .bool false]) (by simp [results, Try.results16]) rfl ⟨rfl, Below.refl _ _⟩
set_option maxRecDepth 100000 in
set_option maxHeartbeats 1000000 in
theorem specByRule_yes (s f x y : Nat) (l : Bool) (T : Tab) (w : World) (hp : pairOk s f x y = true) (hT : TabOkS (chBool l) s f T) (hb : ∀ u v, (T u v).1 ≤ 10000000 ∧ (T u v).2 ≤ 10000000) (hs : s ≤ 6) (hf1 : 1 ≤ f) (hf : f ≤ 8) (hx : x ≤ s) (hy : y ≤ s) :
    Calls Try.prog 16 #[.int .i64 s, .int .i64 f, .int .i64 x, .int .i64 y, .bool l] w fun e w' => e = .returned (.tuple #[.int .i64 ((T x y).1 : Nat), .int .i64 ((T x y).2 : Nat), .bool true]) ∧ Below w.heap.size w w' := by
  have HP := Lib.hid hp; clear hp
  cases l with
  | true =>
    have HC := Lib.hid (fun W => oiMean_any 2 chLead noG s f x y T W (lead_ruleS s hs) hT (fun _ _ _ _ _ _ _ _ _ => trivial) hb hs hf1 hf hx hy)
    go_enter Try.func16, Try.ntmps16
    go_wp2_with (first | (go_at_call 37; go_loud (refine (oiGood_any _ _ _ _ _).mono ?_; rintro e w1 ⟨rfl, rfl⟩; rw [HP.out])) | (go_at_call 38; go_loud (refine (HC.out _).mono ?_; rintro e w2 ⟨rfl, hx2⟩)))
    exact bodyPost_ret (v := .tuple #[.int .i64 ((T x y).1 : Nat), .int .i64 ((T x y).2 : Nat), .bool true]) (by simp [results, Try.results16]) rfl ⟨rfl, hx2⟩
  | false =>
    have HC := Lib.hid (fun W => oiMean_any 3 chFoll noG s f x y T W (other_ruleS s hs) hT (fun _ _ _ _ _ _ _ _ _ => trivial) hb hs hf1 hf hx hy)
    go_enter Try.func16, Try.ntmps16
    go_wp2_with (first | (go_at_call 37; go_loud (refine (oiGood_any _ _ _ _ _).mono ?_; rintro e w1 ⟨rfl, rfl⟩; rw [HP.out])) | (go_at_call 38; go_loud (refine (HC.out _).mono ?_; rintro e w2 ⟨rfl, hx2⟩)))
    exact bodyPost_ret (v := .tuple #[.int .i64 ((T x y).1 : Nat), .int .i64 ((T x y).2 : Nat), .bool true]) (by simp [results, Try.results16]) rfl ⟨rfl, hx2⟩
end Go.Proofs.Ytblpfjjnlfjloaa

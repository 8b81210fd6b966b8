/-
  Pairs: the program's PairByRule, and both.
-/
import Derived.Test.YtblpfjjnlfjloaaC5zb
import Derived.Test.YtblpfjjnlfjloaaC5t
namespace Go.Proofs.Ytblpfjjnlfjloaa
open Go.RowKit

theorem lead_enters : EntersF 46 := fun _ _ => Try.call46 _ _
theorem foll_enters : EntersF 47 := fun _ _ => Try.call47 _ _
theorem lead_le (T : Tab) (x y face : Nat) : chLead T x y face ≤ 1 := by unfold chLead; split <;> omega
theorem foll_le (T : Tab) (x y face : Nat) : chFoll T x y face ≤ 1 := by unfold chFoll; split <;> omega
set_option maxRecDepth 100000 in
set_option maxHeartbeats 1000000 in
theorem implByRule_no (s f a b : Int) (l : Bool) (w : World) (hp : pairOk s f a b = false) :
    Calls Try.prog 17 #[.int .i64 s, .int .i64 f, .int .i64 a, .int .i64 b, .bool l] w fun e w' => e = .returned (.tuple #[.int .i64 0, .int .i64 0, .bool false]) ∧ Below w.heap.size w w' := by
  have HC := Lib.hid (fun R W => meanBy_no s f a b R W hp)
  clear hp
  cases l
  all_goals
    go_enter Try.func17, Try.ntmps17
    go_wp2_with (go_at_call 39; go_loud (refine (HC.out _ _).mono ?_; rintro e w2 ⟨rfl, hx2⟩))
    exact bodyPost_ret (v := .tuple #[.int .i64 0, .int .i64 0, .bool false]) (by simp [results, Try.results17]) rfl ⟨rfl, hx2⟩
set_option maxRecDepth 100000 in
set_option maxHeartbeats 1000000 in
theorem implByRule_yes (s f x y : Nat) (l : Bool) (T : Tab) (w : World) (hp : pairOk s f x y = true) (hT : TabOk (chBool l) s f T) :
    Calls Try.prog 17 #[.int .i64 s, .int .i64 f, .int .i64 x, .int .i64 y, .bool l] w fun e w' => e = .returned (.tuple #[.int .i64 ((T x y).1 : Nat), .int .i64 ((T x y).2 : Nat), .bool true]) ∧ Below w.heap.size w w' := by
  cases l with
  | true =>
    have HC := Lib.hid (fun W => meanBy_yes s f x y _ chLead noG T W hp lead_rule lead_enters lead_le hT (fun _ _ _ _ _ _ _ => trivial))
    go_enter Try.func17, Try.ntmps17
    go_wp2_with (go_at_call 39; go_loud (refine (HC.out _).mono ?_; rintro e w2 ⟨rfl, hx2⟩))
    exact bodyPost_ret (v := .tuple #[.int .i64 ((T x y).1 : Nat), .int .i64 ((T x y).2 : Nat), .bool true]) (by simp [results, Try.results17]) rfl ⟨rfl, hx2⟩
  | false =>
    have HC := Lib.hid (fun W => meanBy_yes s f x y _ chFoll noG T W hp foll_rule foll_enters foll_le hT (fun _ _ _ _ _ _ _ => trivial))
    go_enter Try.func17, Try.ntmps17
    go_wp2_with (go_at_call 39; go_loud (refine (HC.out _).mono ?_; rintro e w2 ⟨rfl, hx2⟩))
    exact bodyPost_ret (v := .tuple #[.int .i64 ((T x y).1 : Nat), .int .i64 ((T x y).2 : Nat), .bool true]) (by simp [results, Try.results17]) rfl ⟨rfl, hx2⟩
end Go.Proofs.Ytblpfjjnlfjloaa

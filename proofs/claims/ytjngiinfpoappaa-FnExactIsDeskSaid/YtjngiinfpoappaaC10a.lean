/-
  The console: IsDesk on both sides.
-/
import Derived.Test.YtjngiinfpoappaaC1d
import Derived.Test.YtjngiinfpoappaaC1e
namespace Go.Proofs.Ytjngiinfpoappaa
open Go.RowKit

set_option maxRecDepth 100000 in
set_option maxHeartbeats 400000 in
theorem coGood_any (s f o sq : Int) (A : Option Addr) (c : Nat) (js : List (Int × Int)) (w : World) (hj : RJ w w.heap.size A js) :
    Calls Try.prog 80 #[.agg #[.int .i64 s, .int .i64 f, .int .i64 o, .slice A js.length c, .int .i64 sq]] w fun e w' => e = .returned (.bool (asked s f o js sq)) ∧ Below w.heap.size w w' := by
  have hl := hj.1
  go_enter Try.func80, Try.ntmps80
  go_wp2_with (go_at_call 99; go_loud (refine (sqAsked_any s f o A c sq js _ (hj.go (below1 _ _))).mono ?_; rintro e w2 ⟨rfl, hx⟩))
  go_ret
  exact ⟨rfl, (below1 _ _).trans (hx.mono (by simp))⟩
set_option maxRecDepth 100000 in
set_option maxHeartbeats 400000 in
theorem isDesk_both (s f o sq : Int) (js : List (Int × Int)) : ∃ ok : Bool,
    (∀ (A : Option Addr) (c : Nat) (w : World), RJ w w.heap.size A js → Calls Try.prog 50 #[.agg #[.int .i64 s, .int .i64 f, .int .i64 o, .slice A js.length c, .int .i64 sq]] w fun e w' => e = .returned (.bool ok) ∧ Below w.heap.size w w') ∧
    (∀ (A : Option Addr) (c : Nat) (w : World), RJ w w.heap.size A js → Calls Try.prog 52 #[.agg #[.int .i64 s, .int .i64 f, .int .i64 o, .slice A js.length c, .int .i64 sq]] w fun e w' => e = .returned (.bool ok) ∧ Below w.heap.size w w') := by
  refine ⟨asked s f o js sq, fun A c w hj => ?_, fun A c w hj => ?_⟩
  · have hl := hj.1
    go_enter Try.func50, Try.ntmps50
    go_wp2_with fail
    refine (coGood_any s f o sq A c js _ (hj.go (below1 _ _))).mono ?_
    rintro e w2 ⟨rfl, hx⟩
    go_wp2
    go_ret
    exact ⟨rfl, (below1 _ _).trans (hx.mono (by simp))⟩
  · have hl := hj.1
    cases ha : asked s f o js sq
    · have HA := Lib.hid ha
      clear ha
      have hst := storeCourse 0 0 0 (fun _ => 0)
      go_enter Try.func52, Try.ntmps52
      go_wp2_with fail
      refine (courseAt_no s f o A c js sq _ (hj.go (below1 _ _)) HA.out).mono ?_
      rintro e w2 ⟨rfl, hx⟩
      go_wp2
      go_ret
      exact ⟨rfl, ((below1 _ _).trans (hx.mono (by simp))).alloc (by have := hx.size; simp at this; omega) _⟩
    · have HA := Lib.hid ha
      clear ha
      have hst := storeCourse s f o (fun i => jumpOf js i)
      go_enter Try.func52, Try.ntmps52
      go_wp2_with fail
      refine (courseAt_yes s f o A c js sq _ (hj.go (below1 _ _)) HA.out).mono ?_
      rintro e w2 ⟨rfl, hx⟩
      go_wp2
      go_ret
      exact ⟨rfl, ((below1 _ _).trans (hx.mono (by simp))).alloc (by have := hx.size; simp at this; omega) _⟩
end Go.Proofs.Ytjngiinfpoappaa

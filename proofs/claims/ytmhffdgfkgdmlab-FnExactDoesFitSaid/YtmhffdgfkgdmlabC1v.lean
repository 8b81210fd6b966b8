/-
  PlayThrows, the model's and the program's.
-/
import Derived.Test.YtmhffdgfkgdmlabC1u
namespace Go.Proofs.Ytmhffdgfkgdmlab
open Go.RowKit

theorem pathTo_at (s o : Int) (js : List (Int × Int)) (sq : Int) (xs : List Int) (n : Nat) (h : n < (pathTo s o js sq xs n).length) : (pathTo s o js sq xs n)[n] = walkTo s o js sq xs n := by
  have := pathTo_last s o js sq xs n
  rw [List.getElem?_eq_getElem h] at this
  exact Option.some.inj this


set_option maxHeartbeats 400000 in
theorem implPlayThrows_any (s f o : Int) (A A' : Option Addr) (c c' : Nat) (sq : Int) (xs : List Int) (js : List (Int × Int)) (w : World) (hj : RJ w w.heap.size A js) (hx : RI w w.heap.size A' xs) :
    Calls Try.prog 113 #[.agg #[.int .i64 s, .int .i64 f, .int .i64 o, .slice A js.length c], .int .i64 sq, .slice A' xs.length c'] w fun e w' => e = .returned (.tuple #[.int .i64 (playR s f o js sq xs).1, .bool (playR s f o js sq xs).2]) ∧ Below w.heap.size w w' := by
  have hl := hj.1
  have hl' := hx.1
  cases hk : (asked s f o js sq && throwsOk f xs)
  · have ht : playR s f o js sq xs = (0, false) := by rw [playR, hk]; rfl
    have ht2 : pathR s f o js sq xs = ([], false) := by rw [pathR, hk]; rfl
    have HT2 := Lib.hid ht2
    rw [ht]
    clear hk ht2
    go_enter Try.func113, Try.ntmps113
    go_wp2_with fail
    refine (implPathOfThrows_any _ _ _ _ _ _ _ _ _ _ _ (hj.go (below1 _ _)) (hx.go (below1 _ _))).mono ?_
    rintro e w3 ⟨A2, c2, rfl, ho, hx3⟩
    rw [HT2.out]
    go_wp2
    go_ret2
    exact ⟨rfl, (below1 _ _).trans (hx3.mono (by simp))⟩
  · have ht : playR s f o js sq xs = (walkTo s o js sq xs xs.length, true) := by rw [playR, hk]; rfl
    have ht2 : pathR s f o js sq xs = (pathTo s o js sq xs xs.length, true) := by rw [pathR, hk]; rfl
    have HT2 := Lib.hid ht2
    have hn : xs.length ≤ 200 := by rw [Bool.and_eq_true] at hk; exact throwsOk_len hk.2
    rw [ht]
    clear hk ht2
    go_enter Try.func113, Try.ntmps113
    go_wp2_with fail
    refine (implPathOfThrows_any _ _ _ _ _ _ _ _ _ _ _ (hj.go (below1 _ _)) (hx.go (below1 _ _))).mono ?_
    rintro e w3 ⟨A2, c2, rfl, ho, hx3⟩
    rw [HT2.out] at ho ⊢
    simp only at ho ⊢
    have R3 := ho.ri (by rw [pathTo_len]; omega)
    obtain ⟨b, off, rfl, hBB, h3⟩ := R3.at_ (Below.refl _ _) (k := xs.length) (by rw [pathTo_len]; omega)
    rw [pathTo_at] at h3
    have hpl := pathTo_len s o js sq xs xs.length
    rw [hpl]
    clear R3 ho
    go_wp2
    go_ret2
    exact ⟨rfl, (below1 _ _).trans (hx3.mono (by simp))⟩
end Go.Proofs.Ytmhffdgfkgdmlab

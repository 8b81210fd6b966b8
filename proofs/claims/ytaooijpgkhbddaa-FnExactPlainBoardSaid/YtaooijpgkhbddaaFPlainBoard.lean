/-
  The law FnExactPlainBoard, walked.
-/
import Derived.Test.YtaooijpgkhbddaaC1p
import Derived.Test.YtaooijpgkhbddaaL2
namespace Go.Proofs.Ytaooijpgkhbddaa
open Go.RowKit

set_option maxHeartbeats 2000000 in
set_option maxRecDepth 100000 in
theorem lawPlainBoard (s f o : Int) (w : World) :
    Calls Try.prog 4 #[.int .i64 s, .int .i64 f, .int .i64 o] w fun e w' => e = .returned (.bool true) ∧ Below w.heap.size w w' := by
  have hn : ∀ W : World, RJ W W.heap.size none [] := fun W => ⟨by simp, fun j hj => by simp at hj, .inl rfl⟩
  obtain ⟨r1, r2, r3, r4, HR⟩ : ∃ r1 r2 r3 r4, plainR s f o = ((r1, r2, r3), r4) := ⟨_, _, _, _, rfl⟩
  have hS : ∀ W : World, Calls Try.prog 26 #[.int .i64 s, .int .i64 f, .int .i64 o] W fun e w' => e = .returned (.tuple #[.agg #[.int .i64 r1, .int .i64 r2, .int .i64 r3, .slice none 0 0], .bool r4]) ∧ Below W.heap.size W w' := fun W => by
    have := specPlainBoard_any s f o W
    rw [HR] at this
    exact this
  have hI : ∀ W : World, Calls Try.prog 27 #[.int .i64 s, .int .i64 f, .int .i64 o] W fun e w' => e = .returned (.tuple #[.agg #[.int .i64 r1, .int .i64 r2, .int .i64 r3, .slice none 0 0], .bool r4]) ∧ Below W.heap.size W w' := fun W => by
    have := implPlainBoard_any s f o W
    rw [HR] at this
    exact this
  clear HR
  have hS := Lib.hid hS
  have hI := Lib.hid hI
  have he : (r1 == r1 && r2 == r2 && r3 == r3 && ([] : List (Int × Int)) == []) = true := by simp
  go_enter Try.func4, Try.ntmps4
  go_wp2_with fail
  refine (hS.out _).mono ?_
  rintro e w1 ⟨rfl, hx1⟩
  go_wp2_with fail
  have B1 : Below w.heap.size w (w1.alloc (.cells #[.int .i64 r1, .int .i64 r2, .int .i64 r3, .slice none 0 0] 29)) := hx1.alloc hx1.size _
  have hs1 := hx1.size
  refine (hI.out _).mono ?_
  rintro e w2 ⟨rfl, hx2⟩
  have b1 : Below (w1.heap.size + 1) (w1.alloc (.cells #[.int .i64 r1, .int .i64 r2, .int .i64 r3, .slice none 0 0] 29)) w2 := box_on (Below.refl _ _) hx2 (by simp)
  have hs2 : w1.heap.size < w2.heap.size := by have := b1.size; simp at this; omega
  have B2 : Below w.heap.size w (w2.alloc (.cells #[.int .i64 r1, .int .i64 r2, .int .i64 r3, .slice none 0 0] 29)) := (B1.trans (b1.mono (by omega))).alloc (by omega) _
  have b1a := b1.alloc (by omega) (.cells #[.int .i64 r1, .int .i64 r2, .int .i64 r3, .slice none 0 0] 29)
  have q1 := boxcells b1a
  go_wp2_with fail
  refine (eqBoard_any r1 r2 r3 r1 r2 r3 none none 0 0 [] [] _ (hn _) (hn _)).mono ?_
  rintro e w3 ⟨rfl, hx3⟩
  have b1c := box_on b1a hx3 (by simp; omega)
  have b2c : Below (w2.heap.size + 1) (w2.alloc _) w3 := box_on (Below.refl _ _) hx3 (by simp)
  have B3 := B2.trans (hx3.mono (by simp; omega))
  have hs3 : w2.heap.size < w3.heap.size := by have := b2c.size; simp at this; omega
  have q1c := boxcells b1c
  have q2c := boxcells b2c
  clear q1 b1a
  go_wp2_with fail
  -- marks on what was handed back
  refine (markBoard_any r1 r2 r3 none 0 0 0 (fun _ => (0, 0)) 1 _ (.inl rfl) (by omega) (by omega) (by omega)).mono ?_
  rintro e w4 ⟨rfl, _, hg4⟩
  have hx4 : Below w3.heap.size w3 w4 := grown_below hg4 (Nat.le_refl _) (fun k h => by cases h)
  have b1d := box_on b1c hx4 (by omega)
  have b2d := box_on b2c hx4 (by omega)
  have B4 := B3.trans (hx4.mono (by omega))
  have hs4 := hx4.size
  have q1d := boxcells b1d
  have q2d := boxcells b2d
  clear q1c q2c b1c b2c hg4
  go_wp2_with fail
  refine (heldBoard_any r1 r2 r3 none 0 0 0 1 _ (.inl rfl) (by omega) (by omega) (by omega)).mono ?_
  rintro e w5 ⟨rfl, hx5⟩
  have b1e := box_on b1d hx5 (by omega)
  have b2e := box_on b2d hx5 (by omega)
  have B5 := B4.trans (hx5.mono (by omega))
  have hs5 := hx5.size
  have q1e := boxcells b1e
  have q2e := boxcells b2e
  clear q1d q2d b1d b2d
  go_wp2_with fail
  -- the call once more
  refine (hI.out _).mono ?_
  rintro e w6 ⟨rfl, hx6⟩
  have b1f := box_on b1e hx6 (by omega)
  have b2f := box_on b2e hx6 (by omega)
  have B6 := B5.trans (hx6.mono (by omega))
  have hs6 := hx6.size
  have b1g := b1f.alloc (by omega) (.cells #[.int .i64 r1, .int .i64 r2, .int .i64 r3, .slice none 0 0] 29)
  have b2g := b2f.alloc (by omega) (.cells #[.int .i64 r1, .int .i64 r2, .int .i64 r3, .slice none 0 0] 29)
  have B7 := B6.alloc (by omega) (.cells #[.int .i64 r1, .int .i64 r2, .int .i64 r3, .slice none 0 0] 29)
  have q1g := boxcells b1g
  clear q1e q2e b1e b2e b1f b2f
  go_wp2_with fail
  refine (eqBoard_any r1 r2 r3 r1 r2 r3 none none 0 0 [] [] _ (hn _) (hn _)).mono ?_
  rintro e w8 ⟨rfl, hx8⟩
  have b2h := box_on b2g hx8 (by simp; omega)
  have B8 := B7.trans (hx8.mono (by simp; omega))
  have hs8 : w6.heap.size < w8.heap.size := by have := hx8.size; simp at this; omega
  have q2h := boxcells b2h
  clear q1g b1g b2g
  go_wp2_with fail
  refine (heldBoard_any r1 r2 r3 none 0 0 0 1 _ (.inl rfl) (by omega) (by omega) (by omega)).mono ?_
  rintro e w9 ⟨rfl, hx9⟩
  have B9 := B8.trans (hx9.mono (by omega))
  go_wp2
  go_ret
  exact ⟨rfl, B9⟩
end Go.Proofs.Ytaooijpgkhbddaa

/-
  Puzzles: hidden boards; how many jumps begin at a square; what a clue tells, the program's toldBy but for plays.
-/
import Derived.Test.YteogfondnpfklaaC9i
import Derived.Test.YteogfondnpfklaaC1a
import Derived.Test.YteogfondnpfklaaC1b
import Derived.Test.YteogfondnpfklaaC1ba
import Derived.Test.YteogfondnpfklaaC1f
namespace Go.Proofs.Yteogfondnpfklaa
open Go.RowKit

/-- A hidden board. -/
def hidB (s f o : Int) (js : List (Int × Int)) : Bool := good ⟨s, f, o, js⟩ && decide (s ≤ 10) && decide (js.length ≤ 1)
def isFrom (x : Int) (j : Int × Int) : Bool := j.1 == x

theorem cloFrom_any (a b x : Int) (gx : Nat) (w : World) (hx : w.cell? ⟨gx, 0, none⟩ = some (.int .i64 x)) : Calls Try.prog 118 #[.agg #[.int .i64 a, .int .i64 b], .pointer (some ⟨gx, 0, none⟩)] w fun e w' => e = .returned (.bool (isFrom x (a, b))) ∧ Below w.heap.size w w' := by
  have hx2 := keepcell (below1 w (.cells #[.int .i64 a, .int .i64 b] 113)) hx
  go_enter Try.func118, Try.ntmps118
  go_wp2
  go_ret
  exact ⟨rfl, below1 _ _⟩

set_option maxHeartbeats 400000 in
theorem thatFrom_any (s f o : Int) (A : Option Addr) (c : Nat) (js : List (Int × Int)) (x : Int) (gx : Nat) (w : World) (hj : RJ w w.heap.size A js) (hx0 : w.cell? ⟨gx, 0, none⟩ = some (.int .i64 x)) :
    Calls Try.prog 117 #[.agg #[.int .i64 s, .int .i64 f, .int .i64 o, .slice A js.length c], .func (.func 118) #[] #[.pointer (some ⟨gx, 0, none⟩)]] w fun e w' => ∃ v, e = .returned v ∧ w'.ownsRow (w.heap.size + 1) 113 2 v (js.filter (isFrom x)).length (flatJ (js.filter (isFrom x))) ∧ Below w.heap.size w w' := by
  have hl := hj.1
  obtain ⟨i0, hi, hz0, hz1, hz2⟩ := info_parts infoJump1
  go_enter Try.func117, Try.ntmps117
  go_wp2
  go_loopw [5, 11] (fun v i wr => ∃ k : Nat, k ≤ js.length ∧ i = .int .i64 k ∧ Below (w.heap.size + 1) (w.alloc (.cells #[.int .i64 s, .int .i64 f, .int .i64 o, .slice A js.length c] 33)) wr ∧ wr.ownsRow (w.heap.size + 1) 113 2 v ((js.take k).filter (isFrom x)).length (flatJ ((js.take k).filter (isFrom x)))) (fun _ i _ => js.length - (intOf i).toNat)
  case atStart => exact ⟨0, Nat.zero_le _, rfl, Below.refl _ _, World.ownsRow_nil _ _ _ _⟩
  case round =>
    obtain ⟨k, hk, rfl, hb, hown⟩ := hrel
    have hb' := (below1 w (.cells #[.int .i64 s, .int .i64 f, .int .i64 o, .slice A js.length c] 33)).trans (hb.mono (by omega))
    have hs : w.heap.size < wr.heap.size := by have := hb.size; simp at this; omega
    have hgx := cell_lt hx0
    have hxr : wr.cell? ⟨gx, 0, none⟩ = some (.int .i64 x) := (bcell hb' hgx).trans hx0
    by_cases hlt : k < js.length
    · obtain ⟨b, off, rfl, hB, h1, h2⟩ := hj.at_ hb' hlt
      have hlen : ((js.take k).filter (isFrom x)).length ≤ k := Nat.le_trans (List.length_filter_le _ _) (List.length_take_le _ _)
      have hxc : (wr.alloc (.cells #[.int .i64 js[k].1, .int .i64 js[k].2] 113)).cell? ⟨gx, 0, none⟩ = some (.int .i64 x) := (bcell (below1 wr _) (by omega)).trans hxr
      have hbj := hb.alloc (by omega) (.cells #[.int .i64 js[k].1, .int .i64 js[k].2] 113)
      cases hp : (isFrom x) js[k]
      · have HP := Lib.hid hp
        have hp' : (isFrom x) (js[k].1, js[k].2) = false := hp
        go_wp2_with (go_at_call 118; refine (cloFrom_any _ _ x gx _ hxc).mono ?_; rintro e w2 ⟨rfl, hx⟩)
        go_roundw
        case rel => exact ⟨k + 1, by omega, by go_num, box_on hbj hx (by simp; omega), by rw [filter_snoc _ _ _ hlt, HP.out]; simpa using own_below (hown.alloc _) hx⟩
        case measure => simp [intOf]; omega
      · have HP := Lib.hid hp
        have hp' : (isFrom x) (js[k].1, js[k].2) = true := hp
        have hw1 : wr.heap.size < (wr.alloc (.cells #[.int .i64 js[k].1, .int .i64 js[k].2] 113)).heap.size := by simp
        go_wp2_with (first | (go_at_call 118; refine (cloFrom_any _ _ x gx _ hxc).mono ?_; rintro e w2 ⟨rfl, hx⟩; have cj := fun i => cell_of_row w2 wr.heap.size i _ _ _ ((hx.block wr.heap.size hw1).trans (heap_alloc_at wr (.cells #[.int .i64 js[k].1, .int .i64 js[k].2] 113) _ rfl))) | (at_builtin; go_loud (refine wpList_append_own _ rfl _ _ 31 rfl (w.heap.size + 1) 113 i0 (.agg #[.int .i64 0, .int .i64 0]) 2 16 Try.underlying31 hi hz0 hz1 hz2 rfl (by decide) _ _ _ rfl ((own_below (hown.alloc _) hx).alloc _) ⟨w2.heap.size, 0, none⟩ 1 1 [.int .i64 js[k].1, .int .i64 js[k].2] rfl rfl (cell_new2 _ _ _ _) (two_int _ _) (by unfold maxLen; omega) (by omega) (by have := hx.size; simp at *; omega) ?_; intro v1 w4 hown4 hg4 _)))
        go_roundw
        case rel =>
          have hs2 := hx.size
          simp only [World.size_alloc] at hs2
          refine ⟨k + 1, by omega, by go_num, ((box_on hbj hx (by simp; omega)).alloc (by omega) _).grown hg4 (by simp; omega) (fun g hg => by have := own_from hown g hg; omega), ?_⟩
          rw [filter_snoc _ _ _ hlt, HP.out, if_pos rfl, flatJ_app, List.length_append]
          exact hown4
        case measure => simp [intOf]; omega
    · obtain rfl : k = js.length := by omega
      go_wp2
      go_ret
      exact ⟨_, rfl, by simpa using hown, hb'⟩


set_option maxRecDepth 100000 in
theorem pzHidden_any (s f o : Int) (A : Option Addr) (c : Nat) (js : List (Int × Int)) (w : World) (hj : RJ w w.heap.size A js) : Calls Try.prog 49 #[.agg #[.int .i64 s, .int .i64 f, .int .i64 o, .slice A js.length c]] w fun e w' => e = .returned (.bool (hidB s f o js)) ∧ Below w.heap.size w w' := by
  have hl := hj.1
  cases hg : good ⟨s, f, o, js⟩
  · have hh : hidB s f o js = false := by rw [hidB, hg]; rfl
    have HH := Lib.hid hh; have HG := Lib.hid hg
    clear hh hg
    go_enter Try.func49, Try.ntmps49
    go_wp2_with fail
    refine (sqGood_any s f o A c js _ (hj.go (below1 _ _))).mono ?_
    rintro e w2 ⟨rfl, hx⟩
    rw [HG.out]
    go_wp2
    go_ret
    exact ⟨ret_bool HH.out.symm, (below1 _ _).trans (hx.mono (by simp))⟩
  · have hh : hidB s f o js = (decide (s ≤ 10) && decide (js.length ≤ 1)) := by rw [hidB, hg, Bool.true_and]
    have HH := Lib.hid hh; have HG := Lib.hid hg
    clear hh hg
    go_enter Try.func49, Try.ntmps49
    go_wp2_with fail
    refine (sqGood_any s f o A c js _ (hj.go (below1 _ _))).mono ?_
    rintro e w2 ⟨rfl, hx⟩
    have qq := boxcells (hx.mono (show w.heap.size + 1 ≤ _ by simp))
    rw [HG.out]
    by_cases h1 : s ≤ 10
    · have h2 : ((js.length : Int) < 2) ↔ js.length ≤ 1 := by omega
      have h3 : ((js.length : Int) ≤ 1) ↔ js.length ≤ 1 := by omega
      go_wp2
      go_ret
      exact ⟨ret_bool (by rw [HH.out]; simp [h1]; try omega), (below1 _ _).trans (hx.mono (by simp))⟩
    · go_wp2
      go_ret
      exact ⟨ret_bool (by rw [HH.out, decide_eq_false (show ¬ s ≤ 10 by omega)]; rfl), (below1 _ _).trans (hx.mono (by simp))⟩

set_option maxRecDepth 100000 in
theorem isHidden_any (s f o : Int) (A : Option Addr) (c : Nat) (js : List (Int × Int)) (w : World) (hj : RJ w w.heap.size A js) : Calls Try.prog 54 #[.agg #[.int .i64 s, .int .i64 f, .int .i64 o, .slice A js.length c]] w fun e w' => e = .returned (.bool (hidB s f o js)) ∧ Below w.heap.size w w' := by
  have hl := hj.1
  cases hg : good ⟨s, f, o, js⟩
  · have hh : hidB s f o js = false := by rw [hidB, hg]; rfl
    have HH := Lib.hid hh; have HG := Lib.hid hg
    clear hh hg
    go_enter Try.func54, Try.ntmps54
    go_wp2_with fail
    refine (implIsBoard_any s f o A c js _ (hj.go (below1 _ _))).mono ?_
    rintro e w2 ⟨rfl, hx⟩
    rw [HG.out]
    go_wp2
    go_ret
    exact ⟨ret_bool HH.out.symm, (below1 _ _).trans (hx.mono (by simp))⟩
  · have hh : hidB s f o js = (decide (s ≤ 10) && decide (js.length ≤ 1)) := by rw [hidB, hg, Bool.true_and]
    have HH := Lib.hid hh; have HG := Lib.hid hg
    clear hh hg
    go_enter Try.func54, Try.ntmps54
    go_wp2_with fail
    refine (implIsBoard_any s f o A c js _ (hj.go (below1 _ _))).mono ?_
    rintro e w2 ⟨rfl, hx⟩
    have qq := boxcells (hx.mono (show w.heap.size + 1 ≤ _ by simp))
    rw [HG.out]
    by_cases h1 : s ≤ 10
    · have h2 : ((js.length : Int) < 2) ↔ js.length ≤ 1 := by omega
      have h3 : ((js.length : Int) ≤ 1) ↔ js.length ≤ 1 := by omega
      go_wp2
      go_ret
      exact ⟨ret_bool (by rw [HH.out]; simp [h1]; try omega), (below1 _ _).trans (hx.mono (by simp))⟩
    · go_wp2
      go_ret
      exact ⟨ret_bool (by rw [HH.out, decide_eq_false (show ¬ s ≤ 10 by omega)]; rfl), (below1 _ _).trans (hx.mono (by simp))⟩

set_option maxRecDepth 100000 in
theorem jumpsFrom_any (s f o : Int) (A : Option Addr) (c : Nat) (js : List (Int × Int)) (x : Int) (w : World) (hj : RJ w w.heap.size A js) : Calls Try.prog 90 #[.agg #[.int .i64 s, .int .i64 f, .int .i64 o, .slice A js.length c], .int .i64 x] w fun e w' => e = .returned (.int .i64 (jcnt js x)) ∧ Below w.heap.size w w' := by
  have hl := hj.1
  obtain ⟨n, hn⟩ : ∃ n, n = (js.filter (isFrom x)).length := ⟨_, rfl⟩
  have e : jcnt js x = (n : Int) := by rw [hn]; rfl
  have HE := Lib.hid e; have HN := Lib.hid hn
  clear e hn
  go_enter Try.func90, Try.ntmps90
  go_wp2_with fail
  refine (thatFrom_any s f o A c js x (w.heap.size + 1) _ (hj.go (below2 _ _ _)) (cell_of_row _ (w.heap.size + 1) 0 #[.int .i64 x] 3 _ (heap_alloc_at _ _ _ (by simp)))).mono ?_
  rintro e w2 ⟨v, rfl, ho, hx⟩
  rw [← HN.out] at ho
  obtain ⟨A2, c2, rfl⟩ : ∃ A c, v = .slice A n c := by
    rcases ho.2 with ⟨rfl, h0⟩ | ⟨g', cap, cs, rfl, _⟩
    · exact ⟨none, 0, by rw [h0]⟩
    · exact ⟨_, _, rfl⟩
  go_wp2
  go_ret
  exact ⟨ret_int HE.out.symm, (below2 _ _ _).trans (hx.mono (by simp; omega))⟩

set_option maxRecDepth 100000 in
theorem toldBy0 (s f o : Int) (A : Option Addr) (c : Nat) (js : List (Int × Int)) (a b d : Int) (w : World) (hj : RJ w w.heap.size A js) : Calls Try.prog 91 #[.agg #[.int .i64 s, .int .i64 f, .int .i64 o, .slice A js.length c], .agg #[.int .i64 0, .int .i64 a, .int .i64 b, .int .i64 d]] w fun e w' => e = .returned (.tuple #[.int .i64 (o), .bool true]) ∧ Below w.heap.size w w' := by
  have hl := hj.1
  go_enter Try.func91, Try.ntmps91
  go_wp2
  go_ret2
  exact ⟨rfl, below2 _ _ _⟩

set_option maxRecDepth 100000 in
theorem toldBy1 (s f o : Int) (A : Option Addr) (c : Nat) (js : List (Int × Int)) (a b d : Int) (w : World) (hj : RJ w w.heap.size A js) : Calls Try.prog 91 #[.agg #[.int .i64 s, .int .i64 f, .int .i64 o, .slice A js.length c], .agg #[.int .i64 1, .int .i64 a, .int .i64 b, .int .i64 d]] w fun e w' => e = .returned (.tuple #[.int .i64 ((throwTo s f o js a b).1), .bool (throwTo s f o js a b).2]) ∧ Below w.heap.size w w' := by
  have hl := hj.1
  go_enter Try.func91, Try.ntmps91
  go_wp2_with fail
  refine (implThrowTo_any s f o A c a b js _ (hj.go (below2 _ _ _))).mono ?_
  rintro e w2 ⟨rfl, hx⟩
  go_wp2
  go_ret2
  exact ⟨rfl, (below2 _ _ _).trans (hx.mono (by simp; omega))⟩

set_option maxRecDepth 100000 in
theorem toldBy2 (s f o : Int) (A : Option Addr) (c : Nat) (js : List (Int × Int)) (a b d : Int) (w : World) (hj : RJ w w.heap.size A js) (R : Int × Bool) (hg : good ⟨s, f, o, js⟩ = true) (hR : FewR s f o js 0 R) : Calls Try.prog 91 #[.agg #[.int .i64 s, .int .i64 f, .int .i64 o, .slice A js.length c], .agg #[.int .i64 2, .int .i64 a, .int .i64 b, .int .i64 d]] w fun e w' => e = .returned (.tuple #[.int .i64 (R.1), .bool true]) ∧ Below w.heap.size w w' := by
  have hl := hj.1
  go_enter Try.func91, Try.ntmps91
  go_wp2_with fail
  refine (implFewestThrows_yes s f o A c 0 js R _ (hj.go (below2 _ _ _)) (asked_zero hg) hR).mono ?_
  rintro e w2 ⟨rfl, hx⟩
  go_wp2
  go_ret2
  exact ⟨rfl, (below2 _ _ _).trans (hx.mono (by simp; omega))⟩

set_option maxRecDepth 100000 in
theorem toldBy3 (s f o : Int) (A : Option Addr) (c : Nat) (js : List (Int × Int)) (a b d : Int) (w : World) (hj : RJ w w.heap.size A js) (P : Nat → Bool) (hg : good ⟨s, f, o, js⟩ = true) (hP : HopeIs s f o js P) : Calls Try.prog 91 #[.agg #[.int .i64 s, .int .i64 f, .int .i64 o, .slice A js.length c], .agg #[.int .i64 3, .int .i64 a, .int .i64 b, .int .i64 d]] w fun e w' => e = .returned (.tuple #[.int .i64 (((selL P (s.toNat + 1)).length : Int)), .bool true]) ∧ Below w.heap.size w w' := by
  have hl := hj.1
  go_enter Try.func91, Try.ntmps91
  go_wp2_with fail
  refine (implHopelessSquares_yes s f o A c js P _ (hj.go (below2 _ _ _)) hg hP).mono ?_
  rintro e w2 ⟨A2, c2, rfl, _, hx⟩
  go_wp2
  go_ret2
  exact ⟨rfl, (below2 _ _ _).trans (hx.mono (by simp; omega))⟩

set_option maxRecDepth 100000 in
theorem toldBy4 (s f o : Int) (A : Option Addr) (c : Nat) (js : List (Int × Int)) (a b d : Int) (w : World) (hj : RJ w w.heap.size A js) : Calls Try.prog 91 #[.agg #[.int .i64 s, .int .i64 f, .int .i64 o, .slice A js.length c], .agg #[.int .i64 4, .int .i64 a, .int .i64 b, .int .i64 d]] w fun e w' => e = .returned (.tuple #[.int .i64 (jcnt js a), .bool true]) ∧ Below w.heap.size w w' := by
  have hl := hj.1
  go_enter Try.func91, Try.ntmps91
  go_wp2_with fail
  refine (jumpsFrom_any s f o A c js a _ (hj.go (below2 _ _ _))).mono ?_
  rintro e w2 ⟨rfl, hx⟩
  go_wp2
  go_ret2
  exact ⟨rfl, (below2 _ _ _).trans (hx.mono (by simp; omega))⟩
end Go.Proofs.Yteogfondnpfklaa

/-
  jumpsThat with the closures of AddJump and DropJump.
-/
import Derived.Test.YtndodohngeaklaaC1a
import Derived.Test.YtndodohngeaklaaC1b
import Derived.Test.YtndodohngeaklaaC1ba
import Derived.Test.YtndodohngeaklaaM12
namespace Go.Proofs.Ytndodohngeaklaa
open Go.RowKit

def allJ (_ : Int × Int) : Bool := true
theorem filter_allJ (js : List (Int × Int)) : js.filter allJ = js := List.filter_eq_self.2 fun _ _ => rfl
theorem cloAll_any (a b : Int) (w : World) : Calls Try.prog 41 #[.agg #[.int .i64 a, .int .i64 b]] w fun e w' => e = .returned (.bool (allJ (a, b))) ∧ Below w.heap.size w w' := by
  go_enter Try.func41, Try.ntmps41
  go_wp2
  go_ret
  exact ⟨rfl, below1 _ _⟩

set_option maxHeartbeats 400000 in
theorem thatAll_any (s f o : Int) (A : Option Addr) (c : Nat) (js : List (Int × Int)) (w : World) (hj : RJ w w.heap.size A js) :
    Calls Try.prog 40 #[.agg #[.int .i64 s, .int .i64 f, .int .i64 o, .slice A js.length c], .func (.func 41) #[] #[]] w fun e w' => ∃ v, e = .returned v ∧ w'.ownsRow (w.heap.size + 1) 38 2 v (js.filter allJ).length (flatJ (js.filter allJ)) ∧ Below w.heap.size w w' := by
  have hl := hj.1
  obtain ⟨i0, hi, hz0, hz1, hz2⟩ := info_parts infoJump1
  go_enter Try.func40, Try.ntmps40
  go_wp2
  go_loopw [5, 11] (fun v i wr => ∃ k : Nat, k ≤ js.length ∧ i = .int .i64 k ∧ Below (w.heap.size + 1) (w.alloc (.cells #[.int .i64 s, .int .i64 f, .int .i64 o, .slice A js.length c] 30)) wr ∧ wr.ownsRow (w.heap.size + 1) 38 2 v ((js.take k).filter allJ).length (flatJ ((js.take k).filter allJ))) (fun _ i _ => js.length - (intOf i).toNat)
  case atStart => exact ⟨0, Nat.zero_le _, rfl, Below.refl _ _, World.ownsRow_nil _ _ _ _⟩
  case round =>
    obtain ⟨k, hk, rfl, hb, hown⟩ := hrel
    have hb' := (below1 w (.cells #[.int .i64 s, .int .i64 f, .int .i64 o, .slice A js.length c] 30)).trans (hb.mono (by omega))
    have hs : w.heap.size < wr.heap.size := by have := hb.size; simp at this; omega
    by_cases hlt : k < js.length
    · obtain ⟨b, off, rfl, hB, h1, h2⟩ := hj.at_ hb' hlt
      have hlen : ((js.take k).filter allJ).length ≤ k := Nat.le_trans (List.length_filter_le _ _) (List.length_take_le _ _)
      have hbj := hb.alloc (by omega) (.cells #[.int .i64 js[k].1, .int .i64 js[k].2] 38)
      cases hp : allJ js[k]
      · have HP := Lib.hid hp
        have hp' : allJ (js[k].1, js[k].2) = false := hp
        go_wp2_with (go_at_call 41; refine (cloAll_any _ _ _).mono ?_; rintro e w2 ⟨rfl, hx⟩)
        go_roundw
        case rel => exact ⟨k + 1, by omega, by go_num, box_on hbj hx (by simp; omega), by rw [filter_snoc _ _ _ hlt, HP.out]; simpa using own_below (hown.alloc _) hx⟩
        case measure => simp [intOf]; omega
      · have HP := Lib.hid hp
        have hp' : allJ (js[k].1, js[k].2) = true := hp
        have hw1 : wr.heap.size < (wr.alloc (.cells #[.int .i64 js[k].1, .int .i64 js[k].2] 38)).heap.size := by simp
        go_wp2_with (first | (go_at_call 41; refine (cloAll_any _ _ _).mono ?_; rintro e w2 ⟨rfl, hx⟩; have cj := fun i => cell_of_row w2 wr.heap.size i _ _ _ ((hx.block wr.heap.size hw1).trans (heap_alloc_at wr (.cells #[.int .i64 js[k].1, .int .i64 js[k].2] 38) _ rfl))) | (at_builtin; go_loud (refine wpList_append_own _ rfl _ _ 28 rfl (w.heap.size + 1) 38 i0 (.agg #[.int .i64 0, .int .i64 0]) 2 16 Try.underlying28 hi hz0 hz1 hz2 rfl (by decide) _ _ _ rfl ((own_below (hown.alloc _) hx).alloc _) ⟨w2.heap.size, 0, none⟩ 1 1 [.int .i64 js[k].1, .int .i64 js[k].2] rfl rfl (cell_new2 _ _ _ _) (two_int _ _) (by unfold maxLen; omega) (by omega) (by have := hx.size; simp at *; omega) ?_; intro v1 w4 hown4 hg4 _)))
        go_roundw
        case rel =>
          have hs2 := hx.size
          simp only [World.size_alloc] at hs2
          refine ⟨k + 1, by omega, by go_num, ((box_on hbj hx (by simp; omega)).alloc (by omega) _).grown hg4 (by simp; omega) (fun g hg => by have := own_from hown g hg; omega), ?_⟩
          rw [filter_snoc _ _ _ hlt, HP.out, if_pos rfl, flatJ_app, List.length_append]
          exact hown4
        case measure => simp [intOf]; omega
    · obtain rfl : k = js.length := by omega
      go_wp2
      go_ret
      exact ⟨_, rfl, by simpa using hown, hb'⟩

theorem cloNot_any (a b x : Int) (gx : Nat) (w : World) (hx : w.cell? ⟨gx, 0, none⟩ = some (.int .i64 x)) : Calls Try.prog 45 #[.agg #[.int .i64 a, .int .i64 b], .pointer (some ⟨gx, 0, none⟩)] w fun e w' => e = .returned (.bool (notFrom x (a, b))) ∧ Below w.heap.size w w' := by
  have hx2 := keepcell (below1 w (.cells #[.int .i64 a, .int .i64 b] 38)) hx
  go_enter Try.func45, Try.ntmps45
  go_wp2
  go_ret
  exact ⟨rfl, below1 _ _⟩

set_option maxHeartbeats 400000 in
theorem thatNot_any (s f o : Int) (A : Option Addr) (c : Nat) (js : List (Int × Int)) (x : Int) (gx : Nat) (w : World) (hj : RJ w w.heap.size A js) (hx0 : w.cell? ⟨gx, 0, none⟩ = some (.int .i64 x)) :
    Calls Try.prog 40 #[.agg #[.int .i64 s, .int .i64 f, .int .i64 o, .slice A js.length c], .func (.func 45) #[] #[.pointer (some ⟨gx, 0, none⟩)]] w fun e w' => ∃ v, e = .returned v ∧ w'.ownsRow (w.heap.size + 1) 38 2 v (js.filter (notFrom x)).length (flatJ (js.filter (notFrom x))) ∧ Below w.heap.size w w' := by
  have hl := hj.1
  obtain ⟨i0, hi, hz0, hz1, hz2⟩ := info_parts infoJump1
  go_enter Try.func40, Try.ntmps40
  go_wp2
  go_loopw [5, 11] (fun v i wr => ∃ k : Nat, k ≤ js.length ∧ i = .int .i64 k ∧ Below (w.heap.size + 1) (w.alloc (.cells #[.int .i64 s, .int .i64 f, .int .i64 o, .slice A js.length c] 30)) wr ∧ wr.ownsRow (w.heap.size + 1) 38 2 v ((js.take k).filter (notFrom x)).length (flatJ ((js.take k).filter (notFrom x)))) (fun _ i _ => js.length - (intOf i).toNat)
  case atStart => exact ⟨0, Nat.zero_le _, rfl, Below.refl _ _, World.ownsRow_nil _ _ _ _⟩
  case round =>
    obtain ⟨k, hk, rfl, hb, hown⟩ := hrel
    have hb' := (below1 w (.cells #[.int .i64 s, .int .i64 f, .int .i64 o, .slice A js.length c] 30)).trans (hb.mono (by omega))
    have hs : w.heap.size < wr.heap.size := by have := hb.size; simp at this; omega
    have hgx := cell_lt hx0
    have hxr : wr.cell? ⟨gx, 0, none⟩ = some (.int .i64 x) := (bcell hb' hgx).trans hx0
    by_cases hlt : k < js.length
    · obtain ⟨b, off, rfl, hB, h1, h2⟩ := hj.at_ hb' hlt
      have hlen : ((js.take k).filter (notFrom x)).length ≤ k := Nat.le_trans (List.length_filter_le _ _) (List.length_take_le _ _)
      have hxc : (wr.alloc (.cells #[.int .i64 js[k].1, .int .i64 js[k].2] 38)).cell? ⟨gx, 0, none⟩ = some (.int .i64 x) := (bcell (below1 wr _) (by omega)).trans hxr
      have hbj := hb.alloc (by omega) (.cells #[.int .i64 js[k].1, .int .i64 js[k].2] 38)
      cases hp : (notFrom x) js[k]
      · have HP := Lib.hid hp
        have hp' : (notFrom x) (js[k].1, js[k].2) = false := hp
        go_wp2_with (go_at_call 45; refine (cloNot_any _ _ x gx _ hxc).mono ?_; rintro e w2 ⟨rfl, hx⟩)
        go_roundw
        case rel => exact ⟨k + 1, by omega, by go_num, box_on hbj hx (by simp; omega), by rw [filter_snoc _ _ _ hlt, HP.out]; simpa using own_below (hown.alloc _) hx⟩
        case measure => simp [intOf]; omega
      · have HP := Lib.hid hp
        have hp' : (notFrom x) (js[k].1, js[k].2) = true := hp
        have hw1 : wr.heap.size < (wr.alloc (.cells #[.int .i64 js[k].1, .int .i64 js[k].2] 38)).heap.size := by simp
        go_wp2_with (first | (go_at_call 45; refine (cloNot_any _ _ x gx _ hxc).mono ?_; rintro e w2 ⟨rfl, hx⟩; have cj := fun i => cell_of_row w2 wr.heap.size i _ _ _ ((hx.block wr.heap.size hw1).trans (heap_alloc_at wr (.cells #[.int .i64 js[k].1, .int .i64 js[k].2] 38) _ rfl))) | (at_builtin; go_loud (refine wpList_append_own _ rfl _ _ 28 rfl (w.heap.size + 1) 38 i0 (.agg #[.int .i64 0, .int .i64 0]) 2 16 Try.underlying28 hi hz0 hz1 hz2 rfl (by decide) _ _ _ rfl ((own_below (hown.alloc _) hx).alloc _) ⟨w2.heap.size, 0, none⟩ 1 1 [.int .i64 js[k].1, .int .i64 js[k].2] rfl rfl (cell_new2 _ _ _ _) (two_int _ _) (by unfold maxLen; omega) (by omega) (by have := hx.size; simp at *; omega) ?_; intro v1 w4 hown4 hg4 _)))
        go_roundw
        case rel =>
          have hs2 := hx.size
          simp only [World.size_alloc] at hs2
          refine ⟨k + 1, by omega, by go_num, ((box_on hbj hx (by simp; omega)).alloc (by omega) _).grown hg4 (by simp; omega) (fun g hg => by have := own_from hown g hg; omega), ?_⟩
          rw [filter_snoc _ _ _ hlt, HP.out, if_pos rfl, flatJ_app, List.length_append]
          exact hown4
        case measure => simp [intOf]; omega
    · obtain rfl : k = js.length := by omega
      go_wp2
      go_ret
      exact ⟨_, rfl, by simpa using hown, hb'⟩

end Go.Proofs.Ytndodohngeaklaa

/-
  SnakesOf and LaddersOf, the model's and the program's.
-/
import Derived.Test.YtaooijpgkhbddaaC1a
import Derived.Test.YtaooijpgkhbddaaC1b
import Derived.Test.YtaooijpgkhbddaaWRow
namespace Go.Proofs.Ytaooijpgkhbddaa
open Go.RowKit

theorem infoJump1 : (Try.prog.info? 59).map (fun i => (i.zero, i.size, i.bytes)) = some (some (.agg #[.int .i64 0, .int .i64 0]), 2, 16) := by kernel_rfl
theorem cell_new2 (w : World) (u v : Value) (t : TypeId) : ∀ (j : Nat) x, [u, v][j]? = some x → (w.alloc (.cells #[u, v] t)).cell? ((⟨w.heap.size, 0, none⟩ : Addr).add j) = some x := by
  intro j x h
  match j, h with
  | 0, h => simp at h; subst h; simp [Addr.add, World.cell?_alloc_at _ _ _ _ rfl]
  | 1, h => simp at h; subst h; simp [Addr.add, World.cell?_alloc_at _ _ _ _ rfl]
theorem cell_new2' (w : World) (u v : Value) (t : TypeId) {g : Nat} (hg : g = w.heap.size) : ∀ (j : Nat) x, [u, v][j]? = some x → (w.alloc (.cells #[u, v] t)).cell? ((⟨g, 0, none⟩ : Addr).add j) = some x := by subst hg; exact cell_new2 w u v t
theorem two_int (x y : Int) : ∀ u ∈ [Value.int .i64 x, .int .i64 y], u.oneCell' = true := by intro u hu; simp at hu; rcases hu with rfl | rfl <;> rfl

/-- What a function hands back that gives jumps. -/
def JumpsBack (w : World) (R : List (Int × Int) × Bool) (e : Ending) (w' : World) : Prop :=
  ∃ A' c', e = .returned (.tuple #[.slice A' R.1.length c', .bool R.2]) ∧ OJ w' w.heap.size 59 A' R.1.length (fun k => R.1.getD k (0, 0)) ∧ Below w.heap.size w w'

set_option maxHeartbeats 400000 in
theorem sqJumps_any (lad : Bool) (s f o : Int) (A : Option Addr) (c : Nat) (js : List (Int × Int)) (w : World) (hj : RJ w w.heap.size A js) :
    Calls Try.prog 95 #[.agg #[.int .i64 s, .int .i64 f, .int .i64 o, .slice A js.length c], .bool lad] w fun e w' => ∃ v, e = .returned v ∧ w'.ownsRow (w.heap.size + 1) 59 2 v (js.filter (isLad lad)).length (flatJ (js.filter (isLad lad))) ∧ Below w.heap.size w w' := by
  have hl := hj.1
  obtain ⟨i0, hi, hz0, hz1, hz2⟩ := info_parts infoJump1
  go_enter Try.func95, Try.ntmps95
  go_wp2
  go_loopw [5, 11] (fun v i wr => ∃ k : Nat, k ≤ js.length ∧ i = .int .i64 k ∧ Below (w.heap.size + 1) (w.alloc (.cells #[.int .i64 s, .int .i64 f, .int .i64 o, .slice A js.length c] 29)) wr ∧ wr.ownsRow (w.heap.size + 1) 59 2 v ((js.take k).filter (isLad lad)).length (flatJ ((js.take k).filter (isLad lad)))) (fun _ i _ => js.length - (intOf i).toNat)
  case atStart => exact ⟨0, Nat.zero_le _, rfl, Below.refl _ _, World.ownsRow_nil _ _ _ _⟩
  case round =>
    obtain ⟨k, hk, rfl, hb, hown⟩ := hrel
    have hb' := (below1 w (.cells #[.int .i64 s, .int .i64 f, .int .i64 o, .slice A js.length c] 29)).trans (hb.mono (by omega))
    have hs : w.heap.size < wr.heap.size := by have := hb.size; simp at this; omega
    by_cases hlt : k < js.length
    · obtain ⟨b, off, rfl, hB, h1, h2⟩ := hj.at_ hb' hlt
      have hlen : ((js.take k).filter (isLad lad)).length ≤ k := Nat.le_trans (List.length_filter_le _ _) (List.length_take_le _ _)
      have hbj := hb.alloc (by omega) (.cells #[.int .i64 js[k].1, .int .i64 js[k].2] 59)
      cases hp : isLad lad js[k]
      · have HP := Lib.hid hp
        have hp' : (decide (js[k].1 < js[k].2) == lad) = false := hp
        go_wp2
        go_roundw
        case rel => exact ⟨k + 1, by omega, by go_num, hbj, by rw [filter_snoc _ _ _ hlt, HP.out]; simpa using hown.alloc _⟩
        case measure => simp [intOf]; omega
      · have HP := Lib.hid hp
        have hp' : (decide (js[k].1 < js[k].2) == lad) = true := hp
        go_wp2_with (at_builtin; go_loud (refine wpList_append_own _ rfl _ _ 27 rfl (w.heap.size + 1) 59 i0 (.agg #[.int .i64 0, .int .i64 0]) 2 16 Try.underlying27 hi hz0 hz1 hz2 rfl (by decide) _ _ _ rfl ((hown.alloc _).alloc _) ⟨wr.heap.size + 1, 0, none⟩ 1 1 [.int .i64 js[k].1, .int .i64 js[k].2] rfl rfl (cell_new2' _ _ _ _ (by simp)) (two_int _ _) (by unfold maxLen; omega) (by omega) (by simp; omega) ?_; intro v1 w4 hown4 hg4 _))
        go_roundw
        case rel =>
          refine ⟨k + 1, by omega, by go_num, (hbj.alloc (by simp; omega) _).grown hg4 (by simp; omega) (fun g hg => by have := own_from hown g hg; omega), ?_⟩
          rw [filter_snoc _ _ _ hlt, HP.out, if_pos rfl, flatJ_app, List.length_append]
          exact hown4
        case measure => simp [intOf]; omega
    · obtain rfl : k = js.length := by omega
      go_wp2
      go_ret
      exact ⟨_, rfl, by simpa using hown, hb'⟩

theorem cloSnakes_any (a b : Int) (w : World) : Calls Try.prog 97 #[.agg #[.int .i64 a, .int .i64 b]] w fun e w' => e = .returned (.bool (isSnake (a, b))) ∧ Below w.heap.size w w' := by
  go_enter Try.func97, Try.ntmps97
  go_wp2
  go_ret
  exact ⟨rfl, below1 _ _⟩

set_option maxHeartbeats 400000 in
theorem thatSnakes_any (s f o : Int) (A : Option Addr) (c : Nat) (js : List (Int × Int)) (w : World) (hj : RJ w w.heap.size A js) :
    Calls Try.prog 96 #[.agg #[.int .i64 s, .int .i64 f, .int .i64 o, .slice A js.length c], .func (.func 97) #[] #[]] w fun e w' => ∃ v, e = .returned v ∧ w'.ownsRow (w.heap.size + 1) 59 2 v (js.filter isSnake).length (flatJ (js.filter isSnake)) ∧ Below w.heap.size w w' := by
  have hl := hj.1
  obtain ⟨i0, hi, hz0, hz1, hz2⟩ := info_parts infoJump1
  go_enter Try.func96, Try.ntmps96
  go_wp2
  go_loopw [5, 11] (fun v i wr => ∃ k : Nat, k ≤ js.length ∧ i = .int .i64 k ∧ Below (w.heap.size + 1) (w.alloc (.cells #[.int .i64 s, .int .i64 f, .int .i64 o, .slice A js.length c] 29)) wr ∧ wr.ownsRow (w.heap.size + 1) 59 2 v ((js.take k).filter isSnake).length (flatJ ((js.take k).filter isSnake))) (fun _ i _ => js.length - (intOf i).toNat)
  case atStart => exact ⟨0, Nat.zero_le _, rfl, Below.refl _ _, World.ownsRow_nil _ _ _ _⟩
  case round =>
    obtain ⟨k, hk, rfl, hb, hown⟩ := hrel
    have hb' := (below1 w (.cells #[.int .i64 s, .int .i64 f, .int .i64 o, .slice A js.length c] 29)).trans (hb.mono (by omega))
    have hs : w.heap.size < wr.heap.size := by have := hb.size; simp at this; omega
    by_cases hlt : k < js.length
    · obtain ⟨b, off, rfl, hB, h1, h2⟩ := hj.at_ hb' hlt
      have hlen : ((js.take k).filter isSnake).length ≤ k := Nat.le_trans (List.length_filter_le _ _) (List.length_take_le _ _)
      have hbj := hb.alloc (by omega) (.cells #[.int .i64 js[k].1, .int .i64 js[k].2] 59)
      cases hp : isSnake js[k]
      · have HP := Lib.hid hp
        have hp' : isSnake (js[k].1, js[k].2) = false := hp
        go_wp2_with (go_at_call 97; refine (cloSnakes_any _ _ _).mono ?_; rintro e w2 ⟨rfl, hx⟩)
        go_roundw
        case rel => exact ⟨k + 1, by omega, by go_num, box_on hbj hx (by simp; omega), by rw [filter_snoc _ _ _ hlt, HP.out]; simpa using own_below (hown.alloc _) hx⟩
        case measure => simp [intOf]; omega
      · have HP := Lib.hid hp
        have hp' : isSnake (js[k].1, js[k].2) = true := hp
        have hw1 : wr.heap.size < (wr.alloc (.cells #[.int .i64 js[k].1, .int .i64 js[k].2] 59)).heap.size := by simp
        go_wp2_with (first | (go_at_call 97; refine (cloSnakes_any _ _ _).mono ?_; rintro e w2 ⟨rfl, hx⟩; have cj := fun i => cell_of_row w2 wr.heap.size i _ _ _ ((hx.block wr.heap.size hw1).trans (heap_alloc_at wr (.cells #[.int .i64 js[k].1, .int .i64 js[k].2] 59) _ rfl))) | (at_builtin; go_loud (refine wpList_append_own _ rfl _ _ 27 rfl (w.heap.size + 1) 59 i0 (.agg #[.int .i64 0, .int .i64 0]) 2 16 Try.underlying27 hi hz0 hz1 hz2 rfl (by decide) _ _ _ rfl ((own_below (hown.alloc _) hx).alloc _) ⟨w2.heap.size, 0, none⟩ 1 1 [.int .i64 js[k].1, .int .i64 js[k].2] rfl rfl (cell_new2 _ _ _ _) (two_int _ _) (by unfold maxLen; omega) (by omega) (by have := hx.size; simp at *; omega) ?_; intro v1 w4 hown4 hg4 _)))
        go_roundw
        case rel =>
          have hs2 := hx.size
          simp only [World.size_alloc] at hs2
          refine ⟨k + 1, by omega, by go_num, ((box_on hbj hx (by simp; omega)).alloc (by omega) _).grown hg4 (by simp; omega) (fun g hg => by have := own_from hown g hg; omega), ?_⟩
          rw [filter_snoc _ _ _ hlt, HP.out, if_pos rfl, flatJ_app, List.length_append]
          exact hown4
        case measure => simp [intOf]; omega
    · obtain rfl : k = js.length := by omega
      go_wp2
      go_ret
      exact ⟨_, rfl, by simpa using hown, hb'⟩

set_option maxRecDepth 100000 in
theorem implSnakesOf_any (s f o : Int) (A : Option Addr) (c : Nat) (js : List (Int × Int)) (w : World) (hj : RJ w w.heap.size A js) :
    Calls Try.prog 55 #[.agg #[.int .i64 s, .int .i64 f, .int .i64 o, .slice A js.length c]] w (JumpsBack w (ladsR false s f o js)) := by
  have hl := hj.1
  cases hg : good ⟨s, f, o, js⟩
  · have ht : ladsR false s f o js = ([], false) := by rw [ladsR, hg]; rfl
    rw [ht]
    have HG := Lib.hid hg; clear hg
    go_enter Try.func55, Try.ntmps55
    go_wp2_with fail
    refine (implIsBoard_any _ _ _ _ _ _ _ (hj.go (below1 _ _))).mono ?_
    rintro e w2 ⟨rfl, hx⟩
    rw [HG.out]
    go_wp2
    go_ret2
    exact ⟨none, 0, rfl, .inl rfl, (below1 _ _).trans (hx.mono (by simp))⟩
  · have ht : ladsR false s f o js = (js.filter isSnake, true) := by rw [ladsR, hg, if_pos rfl, snakes_eq hg]
    rw [ht]
    have HG := Lib.hid hg; clear hg
    go_enter Try.func55, Try.ntmps55
    go_wp2_with fail
    refine (implIsBoard_any _ _ _ _ _ _ _ (hj.go (below1 _ _))).mono ?_
    rintro e w2 ⟨rfl, hx⟩
    rw [HG.out]
    have hb := box_on (Below.refl _ _) hx (by simp)
    have q := boxcells hb
    go_wp2_with fail
    refine (thatSnakes_any _ _ _ _ _ _ _ (hj.go ((below1 _ _).trans (hb.mono (by omega))))).mono ?_
    rintro e w3 ⟨v, rfl, hown, hx3⟩
    obtain ⟨A', c', rfl, ho⟩ := own_oj hown rfl
    go_wp2
    go_ret2
    have z2 : w.heap.size + 1 ≤ w2.heap.size := by have := hb.size; simpa using this
    refine ⟨A', c', rfl, ?_, (below1 _ _).trans ((box_on hb hx3 z2).mono (by omega))⟩
    rcases ho with h | ⟨g, e, hg, hr⟩
    · exact .inl h
    · exact .inr ⟨g, e, by omega, hr⟩

set_option maxRecDepth 100000 in
theorem specSnakesOf_any (s f o : Int) (A : Option Addr) (c : Nat) (js : List (Int × Int)) (w : World) (hj : RJ w w.heap.size A js) :
    Calls Try.prog 54 #[.agg #[.int .i64 s, .int .i64 f, .int .i64 o, .slice A js.length c]] w (JumpsBack w (ladsR false s f o js)) := by
  have hl := hj.1
  cases hg : good ⟨s, f, o, js⟩
  · have ht : ladsR false s f o js = ([], false) := by rw [ladsR, hg]; rfl
    rw [ht]
    have HG := Lib.hid hg; clear hg
    go_enter Try.func54, Try.ntmps54
    go_wp2_with fail
    refine (sqGood_any _ _ _ _ _ _ _ (hj.go (below1 _ _))).mono ?_
    rintro e w2 ⟨rfl, hx⟩
    rw [HG.out]
    go_wp2
    go_ret2
    exact ⟨none, 0, rfl, .inl rfl, (below1 _ _).trans (hx.mono (by simp))⟩
  · have ht : ladsR false s f o js = (js.filter (isLad false), true) := by rw [ladsR, hg, if_pos rfl]
    rw [ht]
    have HG := Lib.hid hg; clear hg
    go_enter Try.func54, Try.ntmps54
    go_wp2_with fail
    refine (sqGood_any _ _ _ _ _ _ _ (hj.go (below1 _ _))).mono ?_
    rintro e w2 ⟨rfl, hx⟩
    rw [HG.out]
    have hb := box_on (Below.refl _ _) hx (by simp)
    have q := boxcells hb
    go_wp2_with fail
    refine (sqJumps_any false _ _ _ _ _ _ _ (hj.go ((below1 _ _).trans (hb.mono (by omega))))).mono ?_
    rintro e w3 ⟨v, rfl, hown, hx3⟩
    obtain ⟨A', c', rfl, ho⟩ := own_oj hown rfl
    go_wp2
    go_ret2
    have z2 : w.heap.size + 1 ≤ w2.heap.size := by have := hb.size; simpa using this
    refine ⟨A', c', rfl, ?_, (below1 _ _).trans ((box_on hb hx3 z2).mono (by omega))⟩
    rcases ho with h | ⟨g, e, hg, hr⟩
    · exact .inl h
    · exact .inr ⟨g, e, by omega, hr⟩

theorem cloLadders_any (a b : Int) (w : World) : Calls Try.prog 98 #[.agg #[.int .i64 a, .int .i64 b]] w fun e w' => e = .returned (.bool (isLadder (a, b))) ∧ Below w.heap.size w w' := by
  go_enter Try.func98, Try.ntmps98
  go_wp2
  go_ret
  exact ⟨rfl, below1 _ _⟩

set_option maxHeartbeats 400000 in
theorem thatLadders_any (s f o : Int) (A : Option Addr) (c : Nat) (js : List (Int × Int)) (w : World) (hj : RJ w w.heap.size A js) :
    Calls Try.prog 96 #[.agg #[.int .i64 s, .int .i64 f, .int .i64 o, .slice A js.length c], .func (.func 98) #[] #[]] w fun e w' => ∃ v, e = .returned v ∧ w'.ownsRow (w.heap.size + 1) 59 2 v (js.filter isLadder).length (flatJ (js.filter isLadder)) ∧ Below w.heap.size w w' := by
  have hl := hj.1
  obtain ⟨i0, hi, hz0, hz1, hz2⟩ := info_parts infoJump1
  go_enter Try.func96, Try.ntmps96
  go_wp2
  go_loopw [5, 11] (fun v i wr => ∃ k : Nat, k ≤ js.length ∧ i = .int .i64 k ∧ Below (w.heap.size + 1) (w.alloc (.cells #[.int .i64 s, .int .i64 f, .int .i64 o, .slice A js.length c] 29)) wr ∧ wr.ownsRow (w.heap.size + 1) 59 2 v ((js.take k).filter isLadder).length (flatJ ((js.take k).filter isLadder))) (fun _ i _ => js.length - (intOf i).toNat)
  case atStart => exact ⟨0, Nat.zero_le _, rfl, Below.refl _ _, World.ownsRow_nil _ _ _ _⟩
  case round =>
    obtain ⟨k, hk, rfl, hb, hown⟩ := hrel
    have hb' := (below1 w (.cells #[.int .i64 s, .int .i64 f, .int .i64 o, .slice A js.length c] 29)).trans (hb.mono (by omega))
    have hs : w.heap.size < wr.heap.size := by have := hb.size; simp at this; omega
    by_cases hlt : k < js.length
    · obtain ⟨b, off, rfl, hB, h1, h2⟩ := hj.at_ hb' hlt
      have hlen : ((js.take k).filter isLadder).length ≤ k := Nat.le_trans (List.length_filter_le _ _) (List.length_take_le _ _)
      have hbj := hb.alloc (by omega) (.cells #[.int .i64 js[k].1, .int .i64 js[k].2] 59)
      cases hp : isLadder js[k]
      · have HP := Lib.hid hp
        have hp' : isLadder (js[k].1, js[k].2) = false := hp
        go_wp2_with (go_at_call 98; refine (cloLadders_any _ _ _).mono ?_; rintro e w2 ⟨rfl, hx⟩)
        go_roundw
        case rel => exact ⟨k + 1, by omega, by go_num, box_on hbj hx (by simp; omega), by rw [filter_snoc _ _ _ hlt, HP.out]; simpa using own_below (hown.alloc _) hx⟩
        case measure => simp [intOf]; omega
      · have HP := Lib.hid hp
        have hp' : isLadder (js[k].1, js[k].2) = true := hp
        have hw1 : wr.heap.size < (wr.alloc (.cells #[.int .i64 js[k].1, .int .i64 js[k].2] 59)).heap.size := by simp
        go_wp2_with (first | (go_at_call 98; refine (cloLadders_any _ _ _).mono ?_; rintro e w2 ⟨rfl, hx⟩; have cj := fun i => cell_of_row w2 wr.heap.size i _ _ _ ((hx.block wr.heap.size hw1).trans (heap_alloc_at wr (.cells #[.int .i64 js[k].1, .int .i64 js[k].2] 59) _ rfl))) | (at_builtin; go_loud (refine wpList_append_own _ rfl _ _ 27 rfl (w.heap.size + 1) 59 i0 (.agg #[.int .i64 0, .int .i64 0]) 2 16 Try.underlying27 hi hz0 hz1 hz2 rfl (by decide) _ _ _ rfl ((own_below (hown.alloc _) hx).alloc _) ⟨w2.heap.size, 0, none⟩ 1 1 [.int .i64 js[k].1, .int .i64 js[k].2] rfl rfl (cell_new2 _ _ _ _) (two_int _ _) (by unfold maxLen; omega) (by omega) (by have := hx.size; simp at *; omega) ?_; intro v1 w4 hown4 hg4 _)))
        go_roundw
        case rel =>
          have hs2 := hx.size
          simp only [World.size_alloc] at hs2
          refine ⟨k + 1, by omega, by go_num, ((box_on hbj hx (by simp; omega)).alloc (by omega) _).grown hg4 (by simp; omega) (fun g hg => by have := own_from hown g hg; omega), ?_⟩
          rw [filter_snoc _ _ _ hlt, HP.out, if_pos rfl, flatJ_app, List.length_append]
          exact hown4
        case measure => simp [intOf]; omega
    · obtain rfl : k = js.length := by omega
      go_wp2
      go_ret
      exact ⟨_, rfl, by simpa using hown, hb'⟩

set_option maxRecDepth 100000 in
theorem implLaddersOf_any (s f o : Int) (A : Option Addr) (c : Nat) (js : List (Int × Int)) (w : World) (hj : RJ w w.heap.size A js) :
    Calls Try.prog 60 #[.agg #[.int .i64 s, .int .i64 f, .int .i64 o, .slice A js.length c]] w (JumpsBack w (ladsR true s f o js)) := by
  have hl := hj.1
  cases hg : good ⟨s, f, o, js⟩
  · have ht : ladsR true s f o js = ([], false) := by rw [ladsR, hg]; rfl
    rw [ht]
    have HG := Lib.hid hg; clear hg
    go_enter Try.func60, Try.ntmps60
    go_wp2_with fail
    refine (implIsBoard_any _ _ _ _ _ _ _ (hj.go (below1 _ _))).mono ?_
    rintro e w2 ⟨rfl, hx⟩
    rw [HG.out]
    go_wp2
    go_ret2
    exact ⟨none, 0, rfl, .inl rfl, (below1 _ _).trans (hx.mono (by simp))⟩
  · have ht : ladsR true s f o js = (js.filter isLadder, true) := by rw [ladsR, hg, if_pos rfl, ladders_eq]
    rw [ht]
    have HG := Lib.hid hg; clear hg
    go_enter Try.func60, Try.ntmps60
    go_wp2_with fail
    refine (implIsBoard_any _ _ _ _ _ _ _ (hj.go (below1 _ _))).mono ?_
    rintro e w2 ⟨rfl, hx⟩
    rw [HG.out]
    have hb := box_on (Below.refl _ _) hx (by simp)
    have q := boxcells hb
    go_wp2_with fail
    refine (thatLadders_any _ _ _ _ _ _ _ (hj.go ((below1 _ _).trans (hb.mono (by omega))))).mono ?_
    rintro e w3 ⟨v, rfl, hown, hx3⟩
    obtain ⟨A', c', rfl, ho⟩ := own_oj hown rfl
    go_wp2
    go_ret2
    have z2 : w.heap.size + 1 ≤ w2.heap.size := by have := hb.size; simpa using this
    refine ⟨A', c', rfl, ?_, (below1 _ _).trans ((box_on hb hx3 z2).mono (by omega))⟩
    rcases ho with h | ⟨g, e, hg, hr⟩
    · exact .inl h
    · exact .inr ⟨g, e, by omega, hr⟩

set_option maxRecDepth 100000 in
theorem specLaddersOf_any (s f o : Int) (A : Option Addr) (c : Nat) (js : List (Int × Int)) (w : World) (hj : RJ w w.heap.size A js) :
    Calls Try.prog 59 #[.agg #[.int .i64 s, .int .i64 f, .int .i64 o, .slice A js.length c]] w (JumpsBack w (ladsR true s f o js)) := by
  have hl := hj.1
  cases hg : good ⟨s, f, o, js⟩
  · have ht : ladsR true s f o js = ([], false) := by rw [ladsR, hg]; rfl
    rw [ht]
    have HG := Lib.hid hg; clear hg
    go_enter Try.func59, Try.ntmps59
    go_wp2_with fail
    refine (sqGood_any _ _ _ _ _ _ _ (hj.go (below1 _ _))).mono ?_
    rintro e w2 ⟨rfl, hx⟩
    rw [HG.out]
    go_wp2
    go_ret2
    exact ⟨none, 0, rfl, .inl rfl, (below1 _ _).trans (hx.mono (by simp))⟩
  · have ht : ladsR true s f o js = (js.filter (isLad true), true) := by rw [ladsR, hg, if_pos rfl]
    rw [ht]
    have HG := Lib.hid hg; clear hg
    go_enter Try.func59, Try.ntmps59
    go_wp2_with fail
    refine (sqGood_any _ _ _ _ _ _ _ (hj.go (below1 _ _))).mono ?_
    rintro e w2 ⟨rfl, hx⟩
    rw [HG.out]
    have hb := box_on (Below.refl _ _) hx (by simp)
    have q := boxcells hb
    go_wp2_with fail
    refine (sqJumps_any true _ _ _ _ _ _ _ (hj.go ((below1 _ _).trans (hb.mono (by omega))))).mono ?_
    rintro e w3 ⟨v, rfl, hown, hx3⟩
    obtain ⟨A', c', rfl, ho⟩ := own_oj hown rfl
    go_wp2
    go_ret2
    have z2 : w.heap.size + 1 ≤ w2.heap.size := by have := hb.size; simpa using this
    refine ⟨A', c', rfl, ?_, (below1 _ _).trans ((box_on hb hx3 z2).mono (by omega))⟩
    rcases ho with h | ⟨g, e, hg, hr⟩
    · exact .inl h
    · exact .inr ⟨g, e, by omega, hr⟩
end Go.Proofs.Ytaooijpgkhbddaa

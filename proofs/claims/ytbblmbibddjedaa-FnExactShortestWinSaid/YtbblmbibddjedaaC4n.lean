/-
  Races: CountRaced on both sides.
-/
import Derived.Test.YtbblmbibddjedaaC4j
import Derived.Test.YtbblmbibddjedaaC4m
import Derived.Test.YtbblmbibddjedaaC4c
namespace Go.Proofs.Ytbblmbibddjedaa
open Go.RowKit

open Classical in
/-- The states that are reached, each once. -/
noncomputable def reachL (s f o : Int) (js : List (Int × Int)) (me : Int) (q0 : Nat) : List Nat := (List.range (2 * ((s.toNat + 1) * (s.toNat + 1)))).filter fun z => decide (Rch (nxS s o js me) f.toNat q0 z)
theorem reachL_nodup (s f o : Int) (js : List (Int × Int)) (me : Int) (q0 : Nat) : (reachL s f o js me q0).Nodup := List.Pairwise.filter _ List.nodup_range
open Classical in
theorem reachL_mem {s f o : Int} {js : List (Int × Int)} {me : Int} {q0 : Nat} (hg : good ⟨s, f, o, js⟩ = true) (h0 : okQ s js q0) (z : Nat) : z ∈ reachL s f o js me q0 ↔ Rch (nxS s o js me) f.toNat q0 z := by
  unfold reachL
  rw [List.mem_filter, List.mem_range]
  simp only [decide_eq_true_eq]
  constructor
  · exact fun h => h.2
  · intro h
    refine ⟨?_, h⟩
    have : okQ s js z := by
      induction h with
      | refl => exact h0
      | step _ h1 _ ih => exact okQ_nxS hg ih h1
    exact okQ_lt this
/-- How many states are reached. -/
noncomputable def countR (s f o : Int) (js : List (Int × Int)) (me fi ot : Int) : Nat := (reachL s f o js me (cd (s.toNat + 1) fi.toNat ot.toNat 0)).length
/-- A number and a Bool handed back. -/
def NumW (w : World) (R : Int × Bool) (e : Ending) (w' : World) : Prop := e = .returned (.tuple #[.int .i64 R.1, .bool R.2]) ∧ Below w.heap.size w w'

set_option maxRecDepth 100000 in
theorem specCountRaced_any (s f o me fi ot : Int) (A : Option Addr) (c : Nat) (js : List (Int × Int)) (w : World) (hj : RJ w w.heap.size A js) :
    Calls Try.prog 20 #[.agg #[.int .i64 s, .int .i64 f, .int .i64 o, .slice A js.length c, .int .i64 me, .int .i64 fi, .int .i64 ot]] w (NumW w (if raceOk s f o js me fi ot then ((countR s f o js me fi ot : Nat), true) else (0, false))) := by
  have hl := hj.1
  have hw0 : Below w.heap.size w (w.alloc (.cells #[.int .i64 s, .int .i64 f, .int .i64 o, .slice A js.length c, .int .i64 me, .int .i64 fi, .int .i64 ot] 33)) := below1 _ _
  cases hg : raceOk s f o js me fi ot
  · go_enter Try.func20, Try.ntmps20
    go_wp2_with (go_at_call 30; refine (raGood_any _ _ _ _ _ _ _ _ _ _ ((hj.below hw0).more (by simp))).mono ?_; rintro e w1 ⟨rfl, hx⟩; rw [hg])
    go_ret2
    exact ⟨rfl, hw0.trans (hx.mono (by simp))⟩
  · have hok := Lib.hid hg
    clear hg
    go_enter Try.func20, Try.ntmps20
    go_wp2_with fail
    refine (raGood_any _ _ _ _ _ _ _ _ _ _ ((hj.below hw0).more (by simp))).mono ?_
    rintro e w1 ⟨rfl, hx⟩
    rw [hok.out]
    have hb := box_on (Below.refl _ _) hx (by simp)
    have q := boxcells hb
    have hb' := hw0.trans (hb.mono (by omega))
    go_wp2_with fail
    refine (raFar_any _ _ _ _ _ _ _ _ _ _ _ ((hj.below hb').more (by have := hb'.size; exact this)) hok.out (by omega) (by omega)).mono ?_
    rintro e w2 ⟨g, F, L, Q, rfl, _, _, _, _, hQ1, hQ2, hy⟩
    have HC := Lib.hid (show Q.length = countR s f o js me fi ot by
      obtain ⟨hgd, _, _, ho1, ho2, _⟩ := raceOk_parts hok.out
      exact nodup_len hQ1 (reachL_nodup _ _ _ _ _ _) fun z => (hQ2 z).trans (reachL_mem hgd (okQ_cd (sqR_of ho1) (sqR_of ho2) (by omega)) z).symm)
    clear hQ1 hQ2 q
    go_wp2_with fail
    go_ret2
    refine ⟨?_, hb'.trans (hy.mono (by have := hb'.size; exact this))⟩
    rw [← HC.out]
    rfl

set_option maxRecDepth 100000 in
set_option maxHeartbeats 1000000 in
theorem implCountRaced_any (s f o me fi ot : Int) (A : Option Addr) (c : Nat) (js : List (Int × Int)) (w : World) (hj : RJ w w.heap.size A js) :
    Calls Try.prog 21 #[.agg #[.int .i64 s, .int .i64 f, .int .i64 o, .slice A js.length c, .int .i64 me, .int .i64 fi, .int .i64 ot]] w (NumW w (if raceOk s f o js me fi ot then ((countR s f o js me fi ot : Nat), true) else (0, false))) := by
  have hl := hj.1
  cases hg : raceOk s f o js me fi ot
  · have HR := Lib.hid hg
    clear hg
    go_enter Try.func21, Try.ntmps21
    go_wp2_with fail
    refine (contestOf_no _ _ _ _ _ _ _ _ _ _ (hj.go (below1 _ _)) HR.out).mono ?_
    rintro e w1 ⟨rfl, hx⟩
    have hst := storeContest 0 0 0 (fun _ => 0) false 0 0
    go_wp2_with fail
    go_ret2
    exact ⟨rfl, ((below1 _ _).trans (hx.mono (by simp))).alloc (by have := hx.size; simp at this; omega) _⟩
  · have HR := Lib.hid hg
    clear hg
    go_enter Try.func21, Try.ntmps21
    go_wp2_with fail
    refine (contestOf_yes _ _ _ _ _ _ _ _ _ _ (hj.go (below1 _ _)) HR.out).mono ?_
    rintro e w1 ⟨rfl, hx⟩
    have hst := storeContest s f o (fun i => jumpOf js i) (me == 1) fi ot
    have hNA : NA (w1.alloc (.cells (ctsCells s f o (fun i => jumpOf js i) (me == 1) fi ot) 60)) w1.heap.size s f o (fun i => jumpOf js i) (me == 1) fi ot := heap_alloc_at _ _ _ rfl
    have HNV := Lib.hid hNA.nv
    have hB1 := ((below1 _ _).trans (hx.mono (by simp))).alloc (by have := hx.size; simp at this; omega) (.cells (ctsCells s f o (fun i => jumpOf js i) (me == 1) fi ot) 60)
    clear hNA
    go_wp2_with fail
    refine (ways_any _ s f o me fi ot js _ HNV.out (by simp) HR.out).mono ?_
    rintro e w2 ⟨L, v, rfl, hown, hWy, hy⟩
    obtain ⟨Av, cv, rfl⟩ := own_sliceS hown
    have HC := Lib.hid (show L.length = countR s f o js me fi ot by
      obtain ⟨hgd, _, _, ho1, ho2, _⟩ := raceOk_parts HR.out
      have h0 := okQ_cd (t := 0) (sqR_of ho1) (sqR_of ho2) (by omega)
      have hmu : muQ s (cd (s.toNat + 1) fi.toNat ot.toNat 0) = cd (s.toNat + 1) fi.toNat ot.toNat 0 := by
        unfold muQ
        split
        · unfold cd; omega
        · rfl
      have := count_both hgd h0 hmu hWy.apart (reachL_nodup s f o js me _) (hWy.all fun x face hw => nxP_won hw) (reachL_mem hgd h0)
      simpa [countR] using this)
    clear hWy hown
    go_wp2_with fail
    go_ret2
    refine ⟨?_, hB1.trans (hy.mono hB1.size)⟩
    rw [← HC.out]
    rfl

theorem countRaced_both (s f o me fi ot : Int) (js : List (Int × Int)) : ∃ (x : Int) (ok : Bool),
    (∀ (A : Option Addr) (c : Nat) (W : World), RJ W W.heap.size A js → Calls Try.prog 20 #[.agg #[.int .i64 s, .int .i64 f, .int .i64 o, .slice A js.length c, .int .i64 me, .int .i64 fi, .int .i64 ot]] W (NumW W (x, ok))) ∧
    (∀ (A : Option Addr) (c : Nat) (W : World), RJ W W.heap.size A js → Calls Try.prog 21 #[.agg #[.int .i64 s, .int .i64 f, .int .i64 o, .slice A js.length c, .int .i64 me, .int .i64 fi, .int .i64 ot]] W (NumW W (x, ok))) :=
  ⟨_, _, fun A c W h => specCountRaced_any s f o me fi ot A c js W h, fun A c W h => implCountRaced_any s f o me fi ot A c js W h⟩
end Go.Proofs.Ytbblmbibddjedaa

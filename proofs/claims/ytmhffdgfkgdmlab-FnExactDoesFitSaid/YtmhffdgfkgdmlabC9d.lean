/-
  Puzzles: the door that recovers a clue that is none; hiddenOf.
-/
import Derived.Test.YtmhffdgfkgdmlabC9c
namespace Go.Proofs.Ytmhffdgfkgdmlab
open Go.RowKit

theorem assertQ (v : Array Value) (w : World) : (Instr.typeAssert (.iface 33 (.agg v)) 20 33 true).run Try.prog w = .ok (.tuple #[.agg v, .bool true]) w := by kernel_rfl
theorem assertNil (w : World) : (Instr.typeAssert .nilIface 20 33 true).run Try.prog w = .ok (.tuple #[.agg #[.int .i64 0, .int .i64 0, .int .i64 0, .int .i64 0], .bool false]) w := by kernel_rfl
set_option maxRecDepth 100000 in
theorem catchQ (p : Addr) (x : Bool) (k a b c : Int) (older : List PanicEntry) (w : World) (hc : w.cell? p = some (.bool x)) (hz : w.frozen? p = false) :
    CallsD Try.prog 115 #[.pointer (some p)] (.panicking ({ v := .iface 33 (.agg #[.int .i64 k, .int .i64 a, .int .i64 b, .int .i64 c]), recovered := false } :: older)) w fun e u' w' =>
      e = .returned (.tuple #[]) ∧ u' = .panicking ({ v := .iface 33 (.agg #[.int .i64 k, .int .i64 a, .int .i64 b, .int .i64 c]), recovered := true } :: older) ∧ w' = w.setCell p (.bool true) := by
  refine callsD_of_wpS Try.func115 rfl fun c₀ cs hu => ?_
  rw [Try.ntmps115]
  apply wpS_region
  simp [wpOpsS, go_sem, recoverD, hu, assertQ, hc, hz, bodyPostS, results, Try.results115]
set_option maxRecDepth 100000 in
theorem catchIdle (p : Addr) (x : Bool) (w : World) (hc : w.cell? p = some (.bool x)) (hz : w.frozen? p = false) :
    CallsD Try.prog 115 #[.pointer (some p)] .returning w fun e u' w' => e = .returned (.tuple #[]) ∧ u' = .returning ∧ w' = w.setCell p (.bool false) := by
  refine callsD_of_wpS Try.func115 rfl fun c₀ cs hu => ?_
  rw [Try.ntmps115]
  apply wpS_region
  simp [wpOpsS, go_sem, recoverD, hu, assertNil, hc, hz, bodyPostS, results, Try.results115]
  cases c₀
  simp_all
set_option maxRecDepth 100000 in
set_option maxHeartbeats 1000000 in
theorem refuses_any (q f : Int) (A : Option Addr) (cp : Nat) (L : List Qd) (w : World) (hL : RQ w w.heap.size A L) :
    Calls Try.prog 95 #[.agg #[.int .i64 q, .int .i64 f], .slice A L.length cp] w fun e w' => e = .returned (.bool (!L.all (clQ q f))) ∧ Below w.heap.size w w' := by
  have hl := hL.1
  obtain ⟨r, hr⟩ : ∃ r, r = L.all (clQ q f) := ⟨_, rfl⟩
  rw [← hr]
  have HR := Lib.hid hr
  clear hr
  have hmf : ∀ (fn : Fn) (first cap : Array Value) (w : World), (Instr.makeFunc fn first cap).run Try.prog w = .ok (.func fn first cap) w := fun _ _ _ _ => rfl
  have hb0 : Below (w.heap.size + 2) ((w.alloc (.cells #[.int .i64 q, .int .i64 f] 85)).alloc (.cells #[.bool false] 4)) ((w.alloc (.cells #[.int .i64 q, .int .i64 f] 85)).alloc (.cells #[.bool false] 4)) := Below.refl _ _
  go_enter_defers Try.func95, Try.ntmps95
  go_wp2_with fail
  go_loopw [10, 6] (fun i _ wr => ∃ k : Nat, k ≤ L.length ∧ i = .int .i64 k ∧ Below (w.heap.size + 2) ((w.alloc (.cells #[.int .i64 q, .int .i64 f] 85)).alloc (.cells #[.bool false] 4)) wr ∧ Hid (r = (L.drop k).all (clQ q f))) (fun i _ _ => L.length - (intOf i).toNat)
  case atStart => exact ⟨0, Nat.zero_le _, rfl, hb0, HR⟩
  case round =>
    clear hb0
    obtain ⟨k, hk, rfl, hB, HK⟩ := hrel
    have hbw : Below w.heap.size w wr := (below2 _ _ _).trans (hB.mono (by omega))
    have hsz : w.heap.size + 2 ≤ wr.heap.size := by have := hB.size; simpa using this
    have kb : wr.heap[w.heap.size]? = some (.cells #[.int .i64 q, .int .i64 f] 85 (0, 0)) := (hB.block _ (by omega)).trans ((Below.heap_alloc _ _ _ (by simp)).trans (heap_alloc_at _ _ _ rfl))
    have kr : wr.heap[w.heap.size + 1]? = some (.cells #[.bool false] 4 (0, 0)) := (hB.block _ (by omega)).trans (heap_alloc_at _ _ _ (by simp))
    have qb := fun i => cell_of_row wr w.heap.size i _ _ _ kb
    have hlw : w.heap.size < wr.heap.size := by omega
    by_cases hlt : k < L.length
    · obtain ⟨b, off, rfl, hbb, c0, c1, c2, c3⟩ := hL.at_ hbw hlt
      have hd := drop_step L k hlt
      obtain ⟨d, hd2⟩ : ∃ d, d = L[k] := ⟨_, rfl⟩
      rw [← hd2] at c0 c1 c2 c3 hd
      obtain ⟨k0, a0, b0, d0⟩ := d
      dsimp only at c0 c1 c2 c3
      have HD := Lib.hid hd
      clear hd hd2
      go_wp2_with fail
      refine (check_any q f k0 a0 b0 d0 _).mono ?_
      rintro e w2 ⟨hx, hcase⟩
      have hB3 := (hB.alloc (by omega) _).trans (hx.mono (by simp; omega))
      rcases hcase with ⟨hcl, rfl⟩ | ⟨hcl, rfl⟩
      · have HC := Lib.hid hcl
        clear hcl
        go_wp2_with fail
        go_roundw
        case rel => exact ⟨k + 1, by omega, by go_num, hB3, Lib.hid (by rw [HK.out, HD.out, List.all_cons]; show (clB q f k0 a0 b0 d0 && _) = _; rw [HC.out]; rfl)⟩
        case measure => simp [intOf]; omega
      · have hrf : r = false := by rw [HK.out, HD.out, List.all_cons]; show (clB q f k0 a0 b0 d0 && _) = _; rw [hcl]; rfl
        subst hrf
        have kr2 := (hx.block (w.heap.size + 1) (by simp; omega)).trans ((Below.heap_alloc _ _ _ (by omega)).trans kr)
        have q2 := cell_of_row w2 (w.heap.size + 1) 0 _ _ _ kr2
        have z2 := frozen_row (i := 0) kr2
        go_wp2_with fail
        refine leaves_cons (f := 115) (args := #[.pointer (some ⟨w.heap.size + 1, 0, none⟩)]) (by simp) (by simp [go_sem]) ?_
        refine (catchQ ⟨w.heap.size + 1, 0, none⟩ false k0 a0 b0 d0 [] _ q2 z2).mono ?_
        rintro e u' w'' ⟨rfl, rfl, rfl⟩
        have q4 : (w2.setCell ⟨w.heap.size + 1, 0, none⟩ (.bool true)).cell? ⟨w.heap.size + 1, 0, none⟩ = some (.bool true) := cell_of_row _ (w.heap.size + 1) 0 _ _ _ (heap_set w2 (w.heap.size + 1) 0 _ _ (.bool true) kr2)
        exact ⟨.bool true, by simp [results, Try.results95, go_sem, q4], rfl, (hbw.trans (((below1 wr _).trans (hx.mono (by simp))).mono hbw.size)).setCell (by simp) _⟩
    · obtain rfl : k = L.length := by omega
      have hrt : r = true := by rw [HK.out, List.drop_length]; rfl
      subst hrt
      have q2 := cell_of_row wr (w.heap.size + 1) 0 _ _ _ kr
      have z2 := frozen_row (i := 0) kr
      go_wp2_with fail
      refine leaves_cons (f := 115) (args := #[.pointer (some ⟨w.heap.size + 1, 0, none⟩)]) (by simp) (by simp [go_sem]) ?_
      have kr3 := heap_set wr (w.heap.size + 1) 0 _ _ (.bool false) kr
      refine (catchIdle ⟨w.heap.size + 1, 0, none⟩ false _ (cell_of_row _ (w.heap.size + 1) 0 _ _ _ kr3) (frozen_row (i := 0) kr3)).mono ?_
      rintro e u' w'' ⟨rfl, rfl, rfl⟩
      have q4 : ((wr.setCell ⟨w.heap.size + 1, 0, none⟩ (.bool false)).setCell ⟨w.heap.size + 1, 0, none⟩ (.bool false)).cell? ⟨w.heap.size + 1, 0, none⟩ = some (.bool false) := cell_of_row _ (w.heap.size + 1) 0 _ _ _ (heap_set _ (w.heap.size + 1) 0 _ _ (.bool false) kr3)
      exact ⟨.bool false, by simp [results, Try.results95, go_sem, q4], rfl, (hbw.setCell (by simp) _).setCell (by simp) _⟩
end Go.Proofs.Ytmhffdgfkgdmlab

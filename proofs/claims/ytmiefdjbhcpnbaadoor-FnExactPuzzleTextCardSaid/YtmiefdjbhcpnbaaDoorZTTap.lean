/- Several texts, one behind the other: C9c C9e. -/
import Derived.Test.YtmiefdjbhcpnbaaDoorZTTao

namespace Go.Proofs.YtmiefdjbhcpnbaaDoor
open Go.RowKit

theorem limits_in (q f k a b c : Int) (h0 : 0 ≤ k) (h5 : k ≤ 5) (w : World) : Calls Tryd.prog 121 #[.agg #[.int .i64 q, .int .i64 f], .agg #[.int .i64 k, .int .i64 a, .int .i64 b, .int .i64 c]] w fun e w' => e = .returned (.tuple #[.agg #[.int .i64 0, .int .i64 0, .int .i64 (leB k), .int .i64 0], .agg #[.int .i64 0, .int .i64 (moA q k), .int .i64 (moB f k), .int .i64 (moC q k)]]) ∧ Below w.heap.size w w' := by
  rcases (show k = 0 ∨ k = 1 ∨ k = 2 ∨ k = 3 ∨ k = 4 ∨ k = 5 by omega) with rfl | rfl | rfl | rfl | rfl | rfl
  · exact limits0 q f a b c w
  · exact limits1 q f a b c w
  · exact limits2 q f a b c w
  · exact limits3 q f a b c w
  · exact limits4 q f a b c w
  · exact limits5 q f a b c w

/-- What check hands back. -/
def CheckBack (r : Bool) (k a b c : Int) (w : World) (e : Ending) (w' : World) : Prop :=
  Below w.heap.size w w' ∧ ((r = true ∧ e = .returned (.tuple #[])) ∨ (r = false ∧ e = .panicked (chainQ k a b c)))

set_option maxRecDepth 100000 in
set_option maxHeartbeats 1000000 in
theorem check_any (q f k a b c : Int) (w : World) : Calls Tryd.prog 104 #[.agg #[.int .i64 q, .int .i64 f], .agg #[.int .i64 k, .int .i64 a, .int .i64 b, .int .i64 c]] w (CheckBack (clB q f k a b c) k a b c w) := by
  obtain ⟨r, hr⟩ : ∃ r, r = clB q f k a b c := ⟨_, rfl⟩
  rw [← hr]
  by_cases hk : 0 ≤ k ∧ k ≤ 5
  · rw [clB_eq hk.1 hk.2] at hr
    obtain ⟨A, hA⟩ : ∃ A, A = moA q k := ⟨_, rfl⟩
    obtain ⟨B, hB⟩ : ∃ B, B = moB f k := ⟨_, rfl⟩
    obtain ⟨C, hC⟩ : ∃ C, C = moC q k := ⟨_, rfl⟩
    obtain ⟨l, hl⟩ : ∃ l, l = leB k := ⟨_, rfl⟩
    rw [← hA, ← hB, ← hC, ← hl] at hr
    have HR := Lib.hid hr; have HA := Lib.hid hA; have HB := Lib.hid hB; have HC := Lib.hid hC; have HL := Lib.hid hl
    clear hr hA hB hC hl
    cases h1 : inB a 0 A
    all_goals cases h2 : inB b l B
    all_goals cases h3 : inB c 0 C
    all_goals
      have hrr := HR.out
      rw [h1, h2, h3] at hrr
      simp only [Bool.and_self, Bool.and_false, Bool.and_true] at hrr
      have HRR := Lib.hid hrr
      clear hrr
      go_enter Tryd.func104, Tryd.ntmps104
      go_wp2_with fail
      refine (limits_in q f k a b c hk.1 hk.2 _).mono ?_
      rintro e w1 ⟨rfl, hx⟩
      simp only [World.size_alloc] at hx
      rw [← HA.out, ← HB.out, ← HC.out, ← HL.out]
      have hb1 := (below2 w (.cells #[.int .i64 q, .int .i64 f] 97) (.cells #[.int .i64 k, .int .i64 a, .int .i64 b, .int .i64 c] 67)).trans (hx.mono (by omega))
      have qq : ∀ i, w1.cell? ⟨w.heap.size + 1, i, none⟩ = #[Value.int .i64 k, .int .i64 a, .int .i64 b, .int .i64 c][i]? := fun i => cell_of_row w1 (w.heap.size + 1) i _ _ _ ((hx.block (w.heap.size + 1) (by omega)).trans (heap_alloc_at _ _ _ (by simp)))
      have hs1 : w.heap.size + 1 < w1.heap.size := by have := hx.size; simp at this; omega
      go_upto_region 2 with fail
      have q3 : ∀ i, ((w1.alloc (.cells #[.int .i64 0, .int .i64 0, .int .i64 l, .int .i64 0] 67)).alloc (.cells #[.int .i64 0, .int .i64 A, .int .i64 B, .int .i64 C] 67)).cell? ⟨w.heap.size + 1, i, none⟩ = #[Value.int .i64 k, .int .i64 a, .int .i64 b, .int .i64 c][i]? := fun i => (bcell (below2 w1 _ _) hs1).trans (qq i)
      have q4 : ∀ i, ((w1.alloc (.cells #[.int .i64 0, .int .i64 0, .int .i64 l, .int .i64 0] 67)).alloc (.cells #[.int .i64 0, .int .i64 A, .int .i64 B, .int .i64 C] 67)).cell? ⟨w1.heap.size, i, none⟩ = #[Value.int .i64 0, .int .i64 0, .int .i64 l, .int .i64 0][i]? := fun i => cell_of_row _ w1.heap.size i _ _ _ ((Below.heap_alloc _ _ _ (by simp)).trans (heap_alloc_at _ _ _ rfl))
      have q5 : ∀ i, ((w1.alloc (.cells #[.int .i64 0, .int .i64 0, .int .i64 l, .int .i64 0] 67)).alloc (.cells #[.int .i64 0, .int .i64 A, .int .i64 B, .int .i64 C] 67)).cell? ⟨w1.heap.size + 1, i, none⟩ = #[Value.int .i64 0, .int .i64 A, .int .i64 B, .int .i64 C][i]? := fun i => cell_of_row _ (w1.heap.size + 1) i _ _ _ (heap_alloc_at _ _ _ (by simp))
      have hb3 : Below w.heap.size w ((w1.alloc (.cells #[.int .i64 0, .int .i64 0, .int .i64 l, .int .i64 0] 67)).alloc (.cells #[.int .i64 0, .int .i64 A, .int .i64 B, .int .i64 C] 67)) := hb1.trans ((below2 w1 _ _).mono hb1.size)
      obtain ⟨W3, hW3⟩ : ∃ W3, W3 = (w1.alloc (.cells #[.int .i64 0, .int .i64 0, .int .i64 l, .int .i64 0] 67)).alloc (.cells #[.int .i64 0, .int .i64 A, .int .i64 B, .int .i64 C] 67) := ⟨_, rfl⟩
      rw [← hW3] at q3 q4 q5 hb3 ⊢
      clear hW3 qq hx hb1
      go_wp2_with (go_at_call 87; refine (isWithin9_any _ _ _ _).mono ?_; rintro e w' ⟨rfl, rfl⟩)
    all_goals first
      | exact ⟨rfl, hb3, .inr ⟨HRR.out, rfl⟩⟩
      | (go_end0; exact ⟨hb3, .inl ⟨HRR.out, rfl⟩⟩)
  · rw [clB_out (by omega)] at hr
    have HR := Lib.hid hr
    clear hr
    go_enter Tryd.func104, Tryd.ntmps104
    go_wp2_with fail
    refine (limits_out q f k a b c _ (by omega)).mono ?_
    rintro e w1 ⟨rfl, hx⟩
    simp only [World.size_alloc] at hx
    go_wp2_with fail
    exact ⟨rfl, (below2 w _ _).trans (hx.mono (by omega)), .inr ⟨HR.out, rfl⟩⟩
end Go.Proofs.YtmiefdjbhcpnbaaDoor

namespace Go.Proofs.YtmiefdjbhcpnbaaDoor
open Go.RowKit

theorem assertQ (v : Array Value) (w : World) : (Instr.typeAssert (.iface 67 (.agg v)) 20 67 true).run Tryd.prog w = .ok (.tuple #[.agg v, .bool true]) w := by kernel_rfl
theorem assertNil (w : World) : (Instr.typeAssert .nilIface 20 67 true).run Tryd.prog w = .ok (.tuple #[.agg #[.int .i64 0, .int .i64 0, .int .i64 0, .int .i64 0], .bool false]) w := by kernel_rfl
set_option maxRecDepth 100000 in
theorem catchQ (p : Addr) (x : Bool) (k a b c : Int) (older : List PanicEntry) (w : World) (hc : w.cell? p = some (.bool x)) (hz : w.frozen? p = false) :
    CallsD Tryd.prog 103 #[.pointer (some p)] (.panicking ({ v := .iface 67 (.agg #[.int .i64 k, .int .i64 a, .int .i64 b, .int .i64 c]), recovered := false } :: older)) w fun e u' w' =>
      e = .returned (.tuple #[]) ∧ u' = .panicking ({ v := .iface 67 (.agg #[.int .i64 k, .int .i64 a, .int .i64 b, .int .i64 c]), recovered := true } :: older) ∧ w' = w.setCell p (.bool true) := by
  refine callsD_of_wpS Tryd.func103 rfl fun c₀ cs hu => ?_
  rw [Tryd.ntmps103]
  apply wpS_region
  simp [wpOpsS, go_sem, recoverD, hu, assertQ, hc, hz, bodyPostS, results, Tryd.results103]
set_option maxRecDepth 100000 in
theorem catchIdle (p : Addr) (x : Bool) (w : World) (hc : w.cell? p = some (.bool x)) (hz : w.frozen? p = false) :
    CallsD Tryd.prog 103 #[.pointer (some p)] .returning w fun e u' w' => e = .returned (.tuple #[]) ∧ u' = .returning ∧ w' = w.setCell p (.bool false) := by
  refine callsD_of_wpS Tryd.func103 rfl fun c₀ cs hu => ?_
  rw [Tryd.ntmps103]
  apply wpS_region
  simp [wpOpsS, go_sem, recoverD, hu, assertNil, hc, hz, bodyPostS, results, Tryd.results103]
  cases c₀
  simp_all
set_option maxRecDepth 100000 in
set_option maxHeartbeats 1000000 in
theorem refuses_any (q f : Int) (A : Option Addr) (cp : Nat) (L : List Qd) (w : World) (hL : RQ w w.heap.size A L) :
    Calls Tryd.prog 84 #[.agg #[.int .i64 q, .int .i64 f], .slice A L.length cp] w fun e w' => e = .returned (.bool (!L.all (clQ q f))) ∧ Below w.heap.size w w' := by
  have hl := hL.1
  obtain ⟨r, hr⟩ : ∃ r, r = L.all (clQ q f) := ⟨_, rfl⟩
  rw [← hr]
  have HR := Lib.hid hr
  clear hr
  have hmf : ∀ (fn : Fn) (first cap : Array Value) (w : World), (Instr.makeFunc fn first cap).run Tryd.prog w = .ok (.func fn first cap) w := fun _ _ _ _ => rfl
  have hb0 : Below (w.heap.size + 2) ((w.alloc (.cells #[.int .i64 q, .int .i64 f] 97)).alloc (.cells #[.bool false] 4)) ((w.alloc (.cells #[.int .i64 q, .int .i64 f] 97)).alloc (.cells #[.bool false] 4)) := Below.refl _ _
  go_enter_defers Tryd.func84, Tryd.ntmps84
  go_wp2_with fail
  go_loopw [10, 6] (fun i _ wr => ∃ k : Nat, k ≤ L.length ∧ i = .int .i64 k ∧ Below (w.heap.size + 2) ((w.alloc (.cells #[.int .i64 q, .int .i64 f] 97)).alloc (.cells #[.bool false] 4)) wr ∧ Hid (r = (L.drop k).all (clQ q f))) (fun i _ _ => L.length - (intOf i).toNat)
  case atStart => exact ⟨0, Nat.zero_le _, rfl, hb0, HR⟩
  case round =>
    clear hb0
    obtain ⟨k, hk, rfl, hB, HK⟩ := hrel
    have hbw : Below w.heap.size w wr := (below2 _ _ _).trans (hB.mono (by omega))
    have hsz : w.heap.size + 2 ≤ wr.heap.size := by have := hB.size; simpa using this
    have kb : wr.heap[w.heap.size]? = some (.cells #[.int .i64 q, .int .i64 f] 97 (0, 0)) := (hB.block _ (by omega)).trans ((Below.heap_alloc _ _ _ (by simp)).trans (heap_alloc_at _ _ _ rfl))
    have kr : wr.heap[w.heap.size + 1]? = some (.cells #[.bool false] 4 (0, 0)) := (hB.block _ (by omega)).trans (heap_alloc_at _ _ _ (by simp))
    have qb := fun i => cell_of_row wr w.heap.size i _ _ _ kb
    have hlw : w.heap.size < wr.heap.size := by omega
    by_cases hlt : k < L.length
    · obtain ⟨b, off, rfl, hbb, c0, c1, c2, c3⟩ := hL.at_ hbw hlt
      have hd := drop_step L k hlt
      obtain ⟨d, hd2⟩ : ∃ d, d = L[k] := ⟨_, rfl⟩
      rw [← hd2] at c0 c1 c2 c3 hd
      obtain ⟨k0, a0, b0, d0⟩ := d
      dsimp only at c0 c1 c2 c3
      have HD := Lib.hid hd
      clear hd hd2
      go_wp2_with fail
      refine (check_any q f k0 a0 b0 d0 _).mono ?_
      rintro e w2 ⟨hx, hcase⟩
      have hB3 := (hB.alloc (by omega) _).trans (hx.mono (by simp; omega))
      rcases hcase with ⟨hcl, rfl⟩ | ⟨hcl, rfl⟩
      · have HC := Lib.hid hcl
        clear hcl
        go_wp2_with fail
        go_roundw
        case rel => exact ⟨k + 1, by omega, by go_num, hB3, Lib.hid (by rw [HK.out, HD.out, List.all_cons]; show (clB q f k0 a0 b0 d0 && _) = _; rw [HC.out]; rfl)⟩
        case measure => simp [intOf]; omega
      · have hrf : r = false := by rw [HK.out, HD.out, List.all_cons]; show (clB q f k0 a0 b0 d0 && _) = _; rw [hcl]; rfl
        subst hrf
        have kr2 := (hx.block (w.heap.size + 1) (by simp; omega)).trans ((Below.heap_alloc _ _ _ (by omega)).trans kr)
        have q2 := cell_of_row w2 (w.heap.size + 1) 0 _ _ _ kr2
        have z2 := frozen_row (i := 0) kr2
        go_wp2_with fail
        refine leaves_cons (f := 103) (args := #[.pointer (some ⟨w.heap.size + 1, 0, none⟩)]) (by simp) (by simp [go_sem]) ?_
        refine (catchQ ⟨w.heap.size + 1, 0, none⟩ false k0 a0 b0 d0 [] _ q2 z2).mono ?_
        rintro e u' w'' ⟨rfl, rfl, rfl⟩
        have q4 : (w2.setCell ⟨w.heap.size + 1, 0, none⟩ (.bool true)).cell? ⟨w.heap.size + 1, 0, none⟩ = some (.bool true) := cell_of_row _ (w.heap.size + 1) 0 _ _ _ (heap_set w2 (w.heap.size + 1) 0 _ _ (.bool true) kr2)
        exact ⟨.bool true, by simp [results, Tryd.results84, go_sem, q4], rfl, (hbw.trans (((below1 wr _).trans (hx.mono (by simp))).mono hbw.size)).setCell (by simp) _⟩
    · obtain rfl : k = L.length := by omega
      have hrt : r = true := by rw [HK.out, List.drop_length]; rfl
      subst hrt
      have q2 := cell_of_row wr (w.heap.size + 1) 0 _ _ _ kr
      have z2 := frozen_row (i := 0) kr
      go_wp2_with fail
      refine leaves_cons (f := 103) (args := #[.pointer (some ⟨w.heap.size + 1, 0, none⟩)]) (by simp) (by simp [go_sem]) ?_
      have kr3 := heap_set wr (w.heap.size + 1) 0 _ _ (.bool false) kr
      refine (catchIdle ⟨w.heap.size + 1, 0, none⟩ false _ (cell_of_row _ (w.heap.size + 1) 0 _ _ _ kr3) (frozen_row (i := 0) kr3)).mono ?_
      rintro e u' w'' ⟨rfl, rfl, rfl⟩
      have q4 : ((wr.setCell ⟨w.heap.size + 1, 0, none⟩ (.bool false)).setCell ⟨w.heap.size + 1, 0, none⟩ (.bool false)).cell? ⟨w.heap.size + 1, 0, none⟩ = some (.bool false) := cell_of_row _ (w.heap.size + 1) 0 _ _ _ (heap_set _ (w.heap.size + 1) 0 _ _ (.bool false) kr3)
      exact ⟨.bool false, by simp [results, Tryd.results84, go_sem, q4], rfl, (hbw.setCell (by simp) _).setCell (by simp) _⟩
end Go.Proofs.YtmiefdjbhcpnbaaDoor

namespace Go.Proofs.YtmiefdjbhcpnbaaDoor
open Go.RowKit

/-- The three tests of a puzzle, told apart. -/
theorem pz_cases (q f : Int) (L : List Qd) : (szB q f = false ∧ pzB q f L = false) ∨ (szB q f = true ∧ ¬ L.length ≤ 6 ∧ pzB q f L = false) ∨ (szB q f = true ∧ L.length ≤ 6 ∧ pzB q f L = L.all (clQ q f)) := by
  cases h : szB q f
  · exact .inl ⟨rfl, by rw [pzB, h]; rfl⟩
  · by_cases hl : L.length ≤ 6
    · exact .inr (.inr ⟨rfl, hl, by rw [pzB, h, decide_eq_true hl]; rfl⟩)
    · exact .inr (.inl ⟨rfl, hl, by rw [pzB, h, decide_eq_false hl]; rfl⟩)

set_option maxRecDepth 100000 in
set_option maxHeartbeats 1000000 in
theorem hiddenOf_no (q f : Int) (A : Option Addr) (cp : Nat) (L : List Qd) (w : World) (hL : RQ w w.heap.size A L) (h : pzB q f L = false) :
    Calls Tryd.prog 69 #[.agg #[.int .i64 q, .int .i64 f, .slice A L.length cp]] w fun e w' => e = .returned (.tuple #[.agg #[.int .i64 0, .int .i64 0], .bool false]) ∧ Below w.heap.size w w' := by
  have hl := hL.1
  rcases pz_cases q f L with ⟨hs, _⟩ | ⟨hs, hn, _⟩ | ⟨hs, hn, he⟩
  · clear h
    have HS := Lib.hid hs
    clear hs
    go_enter Tryd.func69, Tryd.ntmps69
    go_wp2_with fail
    refine (areThere_any q f _).mono ?_
    rintro e w2 ⟨rfl, hx⟩
    rw [HS.out]
    simp only [World.size_alloc] at hx
    have k1 := (hx.block w.heap.size (by omega)).trans ((Below.heap_alloc _ _ _ (by simp; omega)).trans ((Below.heap_alloc _ _ _ (by simp)).trans (heap_alloc_at w (.cells #[.int .i64 q, .int .i64 f, .slice A L.length cp] 43) _ rfl)))
    have q1 := fun i => cell_of_row w2 w.heap.size i _ _ _ k1
    have k2 := (hx.block (w.heap.size + 1) (by omega)).trans ((Below.heap_alloc _ _ _ (by simp)).trans (heap_alloc_at _ _ _ (by simp)))
    have q2 := fun i => cell_of_row w2 (w.heap.size + 1) i _ _ _ k2
    have z2 := fun i => frozen_row (i := i) k2
    have k4 := (hx.block (w.heap.size + 1 + 1) (by omega)).trans (heap_alloc_at _ _ _ (by simp))
    have q4 := fun i => cell_of_row w2 (w.heap.size + 1 + 1) i _ _ _ k4
    have hb2 : Below w.heap.size w w2 := (below3 w _ _ _).trans (hx.mono (by omega))
    clear k1 k2 k4
    go_wp2
    exact bodyPost_ret (v := .tuple #[.agg #[.int .i64 0, .int .i64 0], .bool false]) (by simp [results, Tryd.results69, go_sem, q2]) rfl ⟨rfl, ((hb2).setCell (by simp) _).setCell (by simp) _⟩
  · clear h
    have HS := Lib.hid hs
    clear hs
    have hn' : (6 : Int) < (L.length : Int) := by omega
    have hn2 : decide ((6 : Int) < (L.length : Int)) = true := decide_eq_true hn'
    go_enter Tryd.func69, Tryd.ntmps69
    go_wp2_with fail
    refine (areThere_any q f _).mono ?_
    rintro e w2 ⟨rfl, hx⟩
    rw [HS.out]
    simp only [World.size_alloc] at hx
    have k1 := (hx.block w.heap.size (by omega)).trans ((Below.heap_alloc _ _ _ (by simp; omega)).trans ((Below.heap_alloc _ _ _ (by simp)).trans (heap_alloc_at w (.cells #[.int .i64 q, .int .i64 f, .slice A L.length cp] 43) _ rfl)))
    have q1 := fun i => cell_of_row w2 w.heap.size i _ _ _ k1
    have k2 := (hx.block (w.heap.size + 1) (by omega)).trans ((Below.heap_alloc _ _ _ (by simp)).trans (heap_alloc_at _ _ _ (by simp)))
    have q2 := fun i => cell_of_row w2 (w.heap.size + 1) i _ _ _ k2
    have z2 := fun i => frozen_row (i := i) k2
    have k4 := (hx.block (w.heap.size + 1 + 1) (by omega)).trans (heap_alloc_at _ _ _ (by simp))
    have q4 := fun i => cell_of_row w2 (w.heap.size + 1 + 1) i _ _ _ k4
    have hb2 : Below w.heap.size w w2 := (below3 w _ _ _).trans (hx.mono (by omega))
    clear k1 k2 k4
    go_wp2
    exact bodyPost_ret (v := .tuple #[.agg #[.int .i64 0, .int .i64 0], .bool false]) (by simp [results, Tryd.results69, go_sem, q2]) rfl ⟨rfl, ((hb2).setCell (by simp) _).setCell (by simp) _⟩
  · rw [he] at h
    have HA := Lib.hid h
    clear h he
    have HS := Lib.hid hs
    clear hs
    have hn' : ¬ (6 : Int) < (L.length : Int) := by omega
    have hn2 : decide ((6 : Int) < (L.length : Int)) = false := decide_eq_false hn'
    go_enter Tryd.func69, Tryd.ntmps69
    go_wp2_with fail
    refine (areThere_any q f _).mono ?_
    rintro e w2 ⟨rfl, hx⟩
    rw [HS.out]
    simp only [World.size_alloc] at hx
    have k1 := (hx.block w.heap.size (by omega)).trans ((Below.heap_alloc _ _ _ (by simp; omega)).trans ((Below.heap_alloc _ _ _ (by simp)).trans (heap_alloc_at w (.cells #[.int .i64 q, .int .i64 f, .slice A L.length cp] 43) _ rfl)))
    have q1 := fun i => cell_of_row w2 w.heap.size i _ _ _ k1
    have k2 := (hx.block (w.heap.size + 1) (by omega)).trans ((Below.heap_alloc _ _ _ (by simp)).trans (heap_alloc_at _ _ _ (by simp)))
    have q2 := fun i => cell_of_row w2 (w.heap.size + 1) i _ _ _ k2
    have z2 := fun i => frozen_row (i := i) k2
    have k4 := (hx.block (w.heap.size + 1 + 1) (by omega)).trans (heap_alloc_at _ _ _ (by simp))
    have q4 := fun i => cell_of_row w2 (w.heap.size + 1 + 1) i _ _ _ k4
    have hb2 : Below w.heap.size w w2 := (below3 w _ _ _).trans (hx.mono (by omega))
    clear k1 k2 k4
    go_wp2_with fail
    refine (refuses_any q f A cp L _ (hL.go hb2)).mono ?_
    rintro e w3 ⟨rfl, hx3⟩
    rw [HA.out]
    have hs2 : w.heap.size + 3 ≤ w2.heap.size := by have := hx.size; simpa using this
    have q13 := fun i => (bcell hx3 (show w.heap.size < w2.heap.size by omega)).trans (q1 i)
    have q23 := fun i => (bcell hx3 (show w.heap.size + 1 < w2.heap.size by omega)).trans (q2 i)
    have z23 := fun i => (hx3.frozen (p := ⟨w.heap.size + 1, i, none⟩) (show w.heap.size + 1 < w2.heap.size by omega)).trans (z2 i)
    have q43 := fun i => (bcell hx3 (show w.heap.size + 1 + 1 < w2.heap.size by omega)).trans (q4 i)
    have hb3 := hb2.trans (hx3.mono hb2.size)
    clear q1 q2 z2 q4 hx hx3
    go_wp2
    exact bodyPost_ret (v := .tuple #[.agg #[.int .i64 0, .int .i64 0], .bool false]) (by simp [results, Tryd.results69, go_sem, q23]) rfl ⟨rfl, ((hb3).setCell (by simp) _).setCell (by simp) _⟩

set_option maxRecDepth 100000 in
set_option maxHeartbeats 1000000 in
theorem hiddenOf_yes (q f : Int) (A : Option Addr) (cp : Nat) (L : List Qd) (w : World) (hL : RQ w w.heap.size A L) (h : pzB q f L = true) :
    Calls Tryd.prog 69 #[.agg #[.int .i64 q, .int .i64 f, .slice A L.length cp]] w fun e w' => e = .returned (.tuple #[.agg #[.int .i64 q, .int .i64 f], .bool true]) ∧ Below w.heap.size w w' := by
  have hl := hL.1
  rcases pz_cases q f L with ⟨hs, he⟩ | ⟨hs, hn, he⟩ | ⟨hs, hn, he⟩
  · rw [h] at he; cases he
  · rw [h] at he; cases he
  · rw [he] at h
    have HA := Lib.hid h
    clear h he
    have HS := Lib.hid hs
    clear hs
    have hn' : ¬ (6 : Int) < (L.length : Int) := by omega
    have hn2 : decide ((6 : Int) < (L.length : Int)) = false := decide_eq_false hn'
    go_enter Tryd.func69, Tryd.ntmps69
    go_wp2_with fail
    refine (areThere_any q f _).mono ?_
    rintro e w2 ⟨rfl, hx⟩
    rw [HS.out]
    simp only [World.size_alloc] at hx
    have k1 := (hx.block w.heap.size (by omega)).trans ((Below.heap_alloc _ _ _ (by simp; omega)).trans ((Below.heap_alloc _ _ _ (by simp)).trans (heap_alloc_at w (.cells #[.int .i64 q, .int .i64 f, .slice A L.length cp] 43) _ rfl)))
    have q1 := fun i => cell_of_row w2 w.heap.size i _ _ _ k1
    have k2 := (hx.block (w.heap.size + 1) (by omega)).trans ((Below.heap_alloc _ _ _ (by simp)).trans (heap_alloc_at _ _ _ (by simp)))
    have q2 := fun i => cell_of_row w2 (w.heap.size + 1) i _ _ _ k2
    have z2 := fun i => frozen_row (i := i) k2
    have k4 := (hx.block (w.heap.size + 1 + 1) (by omega)).trans (heap_alloc_at _ _ _ (by simp))
    have q4 := fun i => cell_of_row w2 (w.heap.size + 1 + 1) i _ _ _ k4
    have hb2 : Below w.heap.size w w2 := (below3 w _ _ _).trans (hx.mono (by omega))
    clear k1 k2 k4
    go_wp2_with fail
    refine (refuses_any q f A cp L _ (hL.go hb2)).mono ?_
    rintro e w3 ⟨rfl, hx3⟩
    rw [HA.out]
    have hs2 : w.heap.size + 3 ≤ w2.heap.size := by have := hx.size; simpa using this
    have q13 := fun i => (bcell hx3 (show w.heap.size < w2.heap.size by omega)).trans (q1 i)
    have q23 := fun i => (bcell hx3 (show w.heap.size + 1 < w2.heap.size by omega)).trans (q2 i)
    have z23 := fun i => (hx3.frozen (p := ⟨w.heap.size + 1, i, none⟩) (show w.heap.size + 1 < w2.heap.size by omega)).trans (z2 i)
    have q43 := fun i => (bcell hx3 (show w.heap.size + 1 + 1 < w2.heap.size by omega)).trans (q4 i)
    have hb3 := hb2.trans (hx3.mono hb2.size)
    clear q1 q2 z2 q4 hx hx3
    go_wp2
    exact bodyPost_ret (v := .tuple #[.agg #[.int .i64 q, .int .i64 f], .bool true]) (by simp [results, Tryd.results69, go_sem, q23]) rfl ⟨rfl, ((hb3).setCell (by simp) _).setCell (by simp) _⟩

set_option maxRecDepth 100000 in
theorem implIsPuzzle_any (q f : Int) (A : Option Addr) (cp : Nat) (L : List Qd) (w : World) (hL : RQ w w.heap.size A L) :
    Calls Tryd.prog 43 #[.agg #[.int .i64 q, .int .i64 f, .slice A L.length cp]] w fun e w' => e = .returned (.bool (pzB q f L)) ∧ Below w.heap.size w w' := by
  have hl := hL.1
  cases h : pzB q f L
  · have H := Lib.hid h
    clear h
    go_enter Tryd.func43, Tryd.ntmps43
    go_wp2_with fail
    refine (hiddenOf_no q f A cp L _ (hL.go (below1 _ _)) H.out).mono ?_
    rintro e w2 ⟨rfl, hx⟩
    go_wp2
    go_ret
    exact ⟨rfl, ((below1 w _).trans (hx.mono (by simp))).alloc (((below1 w _).trans (hx.mono (by simp))).size) _⟩
  · have H := Lib.hid h
    clear h
    go_enter Tryd.func43, Tryd.ntmps43
    go_wp2_with fail
    refine (hiddenOf_yes q f A cp L _ (hL.go (below1 _ _)) H.out).mono ?_
    rintro e w2 ⟨rfl, hx⟩
    go_wp2
    go_ret
    exact ⟨rfl, ((below1 w _).trans (hx.mono (by simp))).alloc (((below1 w _).trans (hx.mono (by simp))).size) _⟩

theorem quad_one (w : World) (t : TypeId) (k a b c : Int) (g : Nat) (hg : g = w.heap.size) : RQ (w.alloc (.cells #[.int .i64 k, .int .i64 a, .int .i64 b, .int .i64 c] t)) (w.alloc (.cells #[.int .i64 k, .int .i64 a, .int .i64 b, .int .i64 c] t)).heap.size (some ⟨g, 0, none⟩) [(k, a, b, c)] := by
  subst hg
  refine ⟨by simp, .inr ⟨w.heap.size, 0, rfl, by simp, fun i hi => ?_⟩⟩
  obtain rfl : i = 0 := by simp at hi; exact hi
  refine ⟨?_, ?_, ?_, ?_⟩ <;> exact cell_of_row _ w.heap.size _ _ _ _ (heap_alloc_at _ _ _ rfl)
theorem pzB_one (q f k a b c : Int) : pzB q f [(k, a, b, c)] = (szB q f && clB q f k a b c) := by
  unfold pzB clQ; simp


end Go.Proofs.YtmiefdjbhcpnbaaDoor

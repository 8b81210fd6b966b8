/-
  Puzzles: whether one of some clues is not fit by a board: the closures of thatFit, slices.IndexFunc and ContainsFunc at clues. Puzzles: slices.IndexFunc and slices.DeleteFunc at boards with the closure of thatFit. Puzzles: the program's boards that fit all clues (thatFit), how many they are, and whether just one.
-/
import Derived.Test.YtjngiinfpoappaaC9q
import Derived.Test.YtjngiinfpoappaaWBrd
import Derived.Test.YtjngiinfpoappaaC9e
namespace Go.Proofs.Ytjngiinfpoappaa
open Go.RowKit

set_option maxRecDepth 100000 in
theorem cloFit_any (x : Brd) (q : Qd) (v : Bool) (A : Option Addr) (c bb : Nat) (w : World) (hF : FitIs x q v) (hj : RJ w w.heap.size A x.2) (hbb : bb < w.heap.size)
    (h0 : w.cell? ⟨bb, 0, none⟩ = some (.int .i64 x.1.1)) (h1 : w.cell? ⟨bb, 1, none⟩ = some (.int .i64 x.1.2.1)) (h2 : w.cell? ⟨bb, 2, none⟩ = some (.int .i64 x.1.2.2)) (h3 : w.cell? ⟨bb, 3, none⟩ = some (.slice A x.2.length c)) :
    Calls Try.prog 93 #[.agg #[.int .i64 q.1, .int .i64 q.2.1, .int .i64 q.2.2.1, .int .i64 q.2.2.2], .pointer (some ⟨bb, 0, none⟩)] w fun e w' => e = .returned (.bool (!v)) ∧ Below w.heap.size w w' := by
  obtain ⟨⟨s, f, o⟩, js⟩ := x
  obtain ⟨k, a, b, d⟩ := q
  dsimp only at h0 h1 h2 h3 hj ⊢
  have HF := Lib.hid hF.2; clear hF
  go_enter Try.func93, Try.ntmps93
  have hb1 := below1 w (.cells #[.int .i64 k, .int .i64 a, .int .i64 b, .int .i64 d] 104)
  have d0 := (bcell hb1 hbb).trans h0
  have d1 := (bcell hb1 hbb).trans h1
  have d2 := (bcell hb1 hbb).trans h2
  have d3 := (bcell hb1 hbb).trans h3
  go_wp2_with fail
  refine (HF.out A c _ (hj.go hb1)).mono ?_
  rintro e w2 ⟨rfl, hx⟩
  go_wp2
  go_ret
  exact ⟨rfl, hb1.trans (hx.mono hb1.size)⟩

set_option maxRecDepth 100000 in
set_option maxHeartbeats 1000000 in
theorem idxFit_any (x : Brd) (A' : Option Addr) (c' : Nat) (cs : List Qd) (A : Option Addr) (cp bb : Nat) (s f : Int) (w : World) (hX : HidX s f x) (hq : ∀ q ∈ cs, clQ s f q = true) (hL : RQ w w.heap.size A cs) (hj : RJ w w.heap.size A' x.2) (hbb : bb < w.heap.size)
    (h0 : w.cell? ⟨bb, 0, none⟩ = some (.int .i64 x.1.1)) (h1 : w.cell? ⟨bb, 1, none⟩ = some (.int .i64 x.1.2.1)) (h2 : w.cell? ⟨bb, 2, none⟩ = some (.int .i64 x.1.2.2)) (h3 : w.cell? ⟨bb, 3, none⟩ = some (.slice A' x.2.length c')) :
    Calls Try.prog 108 #[.slice A cs.length cp, .func (.func 93) #[] #[.pointer (some ⟨bb, 0, none⟩)]] w fun e w' => ∃ r : Int, e = .returned (.int .i64 r) ∧ decide (0 ≤ r) = !(cs.all (fitX x)) ∧ Below w.heap.size w w' := by
  have hl := hL.1
  have HX := Lib.hid hX; have HQ := Lib.hid hq
  obtain ⟨al, hal⟩ : ∃ al : Nat → Bool, al = fun j => (cs.take j).all (fitX x) := ⟨_, rfl⟩
  have ha0 : al 0 = true := by rw [hal]; rfl
  have haS : ∀ j (h : j < cs.length), al (j + 1) = (al j && fitX x cs[j]) := fun j h => by
    rw [hal]
    show (cs.take (j + 1)).all _ = _
    rw [List.take_succ_eq_append_getElem h, List.all_append]
    simp
  have haE : al cs.length = cs.all (fitX x) := by
    rw [hal]
    show (cs.take cs.length).all _ = _
    rw [List.take_of_length_le (Nat.le_refl _)]
  have haN : ∀ j (h : j < cs.length), fitX x cs[j] = false → cs.all (fitX x) = false := fun j h e => by
    rw [List.all_eq_false]
    exact ⟨_, List.getElem_mem h, by simp [e]⟩
  have HA0 := Lib.hid ha0; have HAS := Lib.hid haS; have HAE := Lib.hid haE; have HAN := Lib.hid haN
  clear hal ha0 haS haE haN hX hq
  go_enter Try.func108, Try.ntmps108
  go_wp2
  go_loopw [8] (fun i wr => ∃ k : Nat, k ≤ cs.length ∧ i = .int .i64 k ∧ Below w.heap.size w wr ∧ Hid (al k = true)) (fun i _ => cs.length - (intOf i).toNat)
  case atStart => exact ⟨0, Nat.zero_le _, rfl, Below.refl _ _, HA0⟩
  case round =>
    obtain ⟨k, hk, rfl, hb, hall⟩ := hrel
    have hsz := hb.size
    by_cases hlt : k < cs.length
    · obtain ⟨gb, off, rfl, hgb, hq4⟩ := hL.at_ hb hlt
      have hSk := HAS.out k hlt
      have hNk := HAN.out k hlt
      have hFi := fitX_is HX.out (HQ.out _ (List.getElem_mem hlt))
      obtain ⟨q, hqe⟩ : ∃ q, q = cs[k] := ⟨_, rfl⟩
      rw [← hqe] at hq4 hSk hNk hFi
      obtain ⟨q0, q1, q2, q3⟩ := hq4
      have HSK := Lib.hid hSk; have HNK := Lib.hid hNk; have HFI := Lib.hid hFi
      clear hqe hSk hNk hFi
      have d0 := (bcell hb hbb).trans h0
      have d1 := (bcell hb hbb).trans h1
      have d2 := (bcell hb hbb).trans h2
      have d3 := (bcell hb hbb).trans h3
      cases he : fitX x q
      · have HE := Lib.hid he
        clear he
        have hne := HNK.out HE.out
        have HNE := Lib.hid hne
        clear hne
        have hFi := HFI.out
        rw [HE.out] at hFi
        have HFI' := Lib.hid hFi
        clear hFi
        go_wp2_with fail
        refine (cloFit_any x q false A' c' bb wr HFI'.out (hj.go hb) (by omega) d0 d1 d2 d3).mono ?_
        rintro e w2 ⟨rfl, hx2⟩
        go_wp2
        go_ret
        exact ⟨(k : Int), rfl, by rw [HNE.out]; simp, hb.trans (hx2.mono hsz)⟩
      · have HE := Lib.hid he
        clear he
        have hFi := HFI.out
        rw [HE.out] at hFi
        have HFI' := Lib.hid hFi
        clear hFi
        go_wp2_with fail
        refine (cloFit_any x q true A' c' bb wr HFI'.out (hj.go hb) (by omega) d0 d1 d2 d3).mono ?_
        rintro e w2 ⟨rfl, hx2⟩
        go_wp2_with fail
        go_roundw
        case rel => exact ⟨k + 1, by omega, by go_num, hb.trans (hx2.mono hsz), Lib.hid (by rw [HSK.out, hall.out, HE.out]; rfl)⟩
        case measure => simp [intOf]; omega
    · obtain rfl : k = cs.length := by omega
      go_wp2
      go_ret
      exact ⟨-1, rfl, by rw [← HAE.out, hall.out]; rfl, hb⟩

set_option maxRecDepth 100000 in
set_option maxHeartbeats 1000000 in
theorem hasFit_any (x : Brd) (A' : Option Addr) (c' : Nat) (cs : List Qd) (A : Option Addr) (cp bb : Nat) (s f : Int) (w : World) (hX : HidX s f x) (hq : ∀ q ∈ cs, clQ s f q = true) (hL : RQ w w.heap.size A cs) (hj : RJ w w.heap.size A' x.2) (hbb : bb < w.heap.size)
    (h0 : w.cell? ⟨bb, 0, none⟩ = some (.int .i64 x.1.1)) (h1 : w.cell? ⟨bb, 1, none⟩ = some (.int .i64 x.1.2.1)) (h2 : w.cell? ⟨bb, 2, none⟩ = some (.int .i64 x.1.2.2)) (h3 : w.cell? ⟨bb, 3, none⟩ = some (.slice A' x.2.length c')) :
    Calls Try.prog 92 #[.slice A cs.length cp, .func (.func 93) #[] #[.pointer (some ⟨bb, 0, none⟩)]] w fun e w' => e = .returned (.bool (!(cs.all (fitX x)))) ∧ Below w.heap.size w w' := by
  have hl := hL.1
  obtain ⟨V, hV⟩ : ∃ V, V = !(cs.all (fitX x)) := ⟨_, rfl⟩
  rw [← hV]
  have HI := Lib.hid (show ∀ w', Below w.heap.size w w' → Calls Try.prog 108 #[.slice A cs.length cp, .func (.func 93) #[] #[.pointer (some ⟨bb, 0, none⟩)]] w' fun e w2 => ∃ r : Int, e = .returned (.int .i64 r) ∧ decide (0 ≤ r) = V ∧ Below w'.heap.size w' w2 from fun w' hb => by
    rw [hV]
    exact idxFit_any x A' c' cs A cp bb s f w' hX hq (hL.go hb) (hj.go hb) (by have := hb.size; omega) ((bcell hb hbb).trans h0) ((bcell hb hbb).trans h1) ((bcell hb hbb).trans h2) ((bcell hb hbb).trans h3))
  clear hV hX hq hj h0 h1 h2 h3
  go_enter Try.func92, Try.ntmps92
  go_wp2_with fail
  refine (HI.out _ (Below.refl _ _)).mono ?_
  rintro e w2 ⟨r, rfl, hr, hx⟩
  have HR := Lib.hid hr
  clear hr
  go_wp2
  go_ret
  exact ⟨ret_bool HR.out, hx⟩

set_option maxRecDepth 100000 in
set_option maxHeartbeats 1000000 in
/-- The closure of thatFit: whether a board is to be struck. -/
theorem delFit_any (x : Brd) (A' : Option Addr) (c' : Nat) (cs : List Qd) (A : Option Addr) (cp cb : Nat) (s f : Int) (w : World) (hX : HidX s f x) (hq : ∀ q ∈ cs, clQ s f q = true) (hL : RQ w w.heap.size A cs) (hj : RJ w w.heap.size A' x.2) (hcb : cb < w.heap.size)
    (hc : w.cell? ⟨cb, 0, none⟩ = some (.slice A cs.length cp)) :
    Calls Try.prog 91 #[.agg #[.int .i64 x.1.1, .int .i64 x.1.2.1, .int .i64 x.1.2.2, .slice A' x.2.length c'], .pointer (some ⟨cb, 0, none⟩)] w fun e w' => e = .returned (.bool (!(cs.all (fitX x)))) ∧ Below w.heap.size w w' := by
  have hl := hL.1
  have hl2 := hj.1
  obtain ⟨V, hV⟩ : ∃ V, V = !(cs.all (fitX x)) := ⟨_, rfl⟩
  rw [← hV]
  have HI := Lib.hid (show ∀ w' bb, Below w.heap.size w w' → bb < w'.heap.size → w'.cell? ⟨bb, 0, none⟩ = some (.int .i64 x.1.1) → w'.cell? ⟨bb, 1, none⟩ = some (.int .i64 x.1.2.1) → w'.cell? ⟨bb, 2, none⟩ = some (.int .i64 x.1.2.2) → w'.cell? ⟨bb, 3, none⟩ = some (.slice A' x.2.length c') → Calls Try.prog 92 #[.slice A cs.length cp, .func (.func 93) #[] #[.pointer (some ⟨bb, 0, none⟩)]] w' fun e w2 => e = .returned (.bool V) ∧ Below w'.heap.size w' w2 from fun w' bb hb hbb h0 h1 h2 h3 => by
    rw [hV]
    exact hasFit_any x A' c' cs A cp bb s f w' hX hq (hL.go hb) (hj.go hb) hbb h0 h1 h2 h3)
  obtain ⟨⟨s', f', o⟩, js⟩ := x
  dsimp only at HI hl2 ⊢
  clear hV hX hq hj
  go_enter Try.func91, Try.ntmps91
  have hb1 := below1 w (.cells #[.int .i64 s', .int .i64 f', .int .i64 o, .slice A' js.length c'] 44)
  have hcw := (bcell hb1 hcb).trans hc
  have k1 := heap_alloc_at w (.cells #[.int .i64 s', .int .i64 f', .int .i64 o, .slice A' js.length c'] 44) _ rfl
  have q1 := fun i => cell_of_row _ w.heap.size i _ _ _ k1
  go_wp2_with fail
  refine (HI.out _ w.heap.size hb1 (by simp) (q1 0) (q1 1) (q1 2) (q1 3)).mono ?_
  rintro e w2 ⟨rfl, hx⟩
  go_wp2
  go_ret
  exact ⟨rfl, hb1.trans (hx.mono hb1.size)⟩
end Go.Proofs.Ytjngiinfpoappaa

namespace Go.Proofs.Ytjngiinfpoappaa
open Go.RowKit

/-- The closure's contract at the boards of a row: whether each is to be struck. -/
def DelIs (w : World) (b cb : Nat) (xs : List Bv) (keep : Bv → Bool) : Prop :=
  ∀ x ∈ xs, ∀ w', w.grownBy w' (some b) → Calls Try.prog 91 #[.agg #[.int .i64 x.1.1.1, .int .i64 x.1.1.2.1, .int .i64 x.1.1.2.2, x.2], .pointer (some ⟨cb, 0, none⟩)] w' fun e w2 => e = .returned (.bool (!keep x)) ∧ Below w'.heap.size w' w2

set_option maxRecDepth 100000 in
set_option maxHeartbeats 1000000 in
theorem idxB_any (b cap cb : Nat) (xs : List Bv) (keep : Bv → Bool) (r : Int) (w : World) (hrow : RV w b 44 cap xs) (hl : xs.length ≤ 1048576) (hsh : ∀ x ∈ xs, ∃ A c, x.2 = .slice A x.1.2.length c) (hclo : DelIs w b cb xs keep)
    (hr : ∀ j (h : j < xs.length), keep xs[j] = false → (∀ i (h : i < j), keep (xs[i]'(by omega)) = true) → r = (j : Int)) (hn : (∀ j (h : j < xs.length), keep xs[j] = true) → r = -1) :
    Calls Try.prog 107 #[.slice (some ⟨b, 0, none⟩) xs.length cap, .func (.func 91) #[] #[.pointer (some ⟨cb, 0, none⟩)]] w fun e w' => e = .returned (.int .i64 r) ∧ Below w.heap.size w w' := by
  have HR := Lib.hid hr; have HN := Lib.hid hn; have HSH := Lib.hid hsh; have HCLO := Lib.hid hclo
  clear hr hn hsh hclo
  go_enter Try.func107, Try.ntmps107
  go_wp2
  go_loopw [8] (fun i wr => ∃ k : Nat, k ≤ xs.length ∧ i = .int .i64 k ∧ Below w.heap.size w wr ∧ Hid (∀ j (h : j < xs.length), j < k → keep xs[j] = true)) (fun i _ => xs.length - (intOf i).toNat)
  case atStart => exact ⟨0, Nat.zero_le _, rfl, Below.refl _ _, Lib.hid (fun j h h2 => by omega)⟩
  case round =>
    obtain ⟨k, hk, rfl, hb, hall⟩ := hrel
    have hsz := hb.size
    by_cases hlt : k < xs.length
    · have hrw := hrow.below hb hrow.lt
      obtain ⟨d0, d1, d2, d3⟩ := hrw.at_ hlt
      obtain ⟨A', c', hx2⟩ := HSH.out _ (List.getElem_mem hlt)
      have hD := HCLO.out _ (List.getElem_mem hlt) wr (below_grown hb _)
      have hRk := HR.out k hlt
      obtain ⟨x, hxe⟩ : ∃ x, x = xs[k] := ⟨_, rfl⟩
      have HXE := Lib.hid hxe
      rw [← hxe] at d0 d1 d2 d3 hx2 hD hRk
      obtain ⟨⟨⟨s', f', o⟩, js⟩, vj⟩ := x
      dsimp only at d0 d1 d2 d3 hx2 hD
      subst hx2
      have HD := Lib.hid hD; have HRK := Lib.hid hRk
      clear hxe hD hRk
      cases he : keep (((s', f', o), js), Value.slice A' js.length c')
      · have HE := Lib.hid he
        clear he
        go_wp2_with fail
        refine HD.out.mono ?_
        rintro e w2 ⟨rfl, hx2⟩
        rw [HE.out]
        go_wp2
        go_ret
        exact ⟨ret_int (HRK.out HE.out (fun i hi => hall.out i (by omega) hi)).symm, hb.trans (hx2.mono hsz)⟩
      · have HE := Lib.hid he
        clear he
        go_wp2_with fail
        refine HD.out.mono ?_
        rintro e w2 ⟨rfl, hx2⟩
        rw [HE.out]
        go_wp2_with fail
        go_roundw
        case rel => exact ⟨k + 1, by omega, by go_num, hb.trans (hx2.mono hsz), Lib.hid (fun j h hj => by
          by_cases e : j = k
          · subst e; rw [← HXE.out]; exact HE.out
          · exact hall.out j h (by omega))⟩
        case measure => simp [intOf]; omega
    · obtain rfl : k = xs.length := by omega
      go_wp2
      go_ret
      exact ⟨ret_int (HN.out (fun j h => hall.out j h h)).symm, hb⟩

theorem zeroBoardV : ∀ w : World, (zeroValue 44).run Try.prog w = .ok (.agg #[.int .i64 0, .int .i64 0, .int .i64 0, .slice none 0 0]) w := fun w => by kernel_rfl
theorem clear_boards {w : World} {b cap : Nat} {zs : List Bv} (h : RV w b 44 cap zs) (i : Nat) (hi : i < zs.length) (c : Nat) :
    ∃ w', (∀ ty, (Builtin.clear_ #[29] ty #[.slice (some ⟨b, i * 4, none⟩) (zs.length - i) c]).run Try.prog w = .ok (.tuple #[]) w') ∧ w.grownBy w' (some b) ∧ RV w' b 44 cap (zs.take i) := by
  obtain ⟨cs, hh, hs, hn, htk⟩ := h.less i
  have hin : zs.length ≤ cap := by obtain ⟨_, _, _, h, _⟩ := h; exact h
  obtain ⟨m, hm⟩ : ∃ k, zs.length - i = k + 1 := ⟨zs.length - i - 1, by omega⟩
  rw [hm]
  obtain ⟨us, hz⟩ : ∃ us, us = (Builtin.zeroCells #[Value.int .i64 0, .int .i64 0, .int .i64 0, .slice none 0 0] (m + 1)).toList := ⟨_, rfl⟩
  have hzl : us.length = (m + 1) * 4 := by rw [hz]; simp [Builtin.zeroCells]; try omega
  have hz1 : ∀ u ∈ us, u.oneCell' = true := by
    intro u hu
    rw [hz] at hu
    simp [Builtin.zeroCells] at hu
    obtain ⟨j, _, e⟩ := hu
    rcases (show j % 4 = 0 ∨ j % 4 = 1 ∨ j % 4 = 2 ∨ j % 4 = 3 by omega) with h | h | h | h <;> (simp [h] at e; subst e; rfl)
  have hst := run_storeCells_at (P := Try.prog) b (i * 4) 44 us 0 cs w hh (by rw [hzl]; omega) hz1
  refine ⟨w.setRow b (cs.toList.take (i * 4 + 0) ++ us ++ cs.toList.drop (i * 4 + 0 + us.length)).toArray, fun ty => ?_, grownBy_setRow w b _, ?_⟩
  rotate_left
  · refine ⟨_, setRow_heap w b cs _ _ (0, 0) hh, ?_, hn, ?_⟩
    · simp [hzl]; omega
    · have hti : (zs.take i).length = i := by simp; omega
      rw [hti] at htk ⊢
      rw [List.toList_toArray, List.append_assoc, List.take_append_of_le_length (by simp; omega), List.take_take, Nat.min_eq_left (by omega)]
      exact htk
  · simp [Builtin.clear_, run_underlying Try.underlying29, Value.cells, ← hz, hst]

set_option maxRecDepth 100000 in
set_option maxHeartbeats 4000000 in
/-- Some boards are struck: the others move ahead. -/
theorem delB_some (b cap cb : Nat) (xs : List Bv) (keep : Bv → Bool) (m0 : Nat) (w : World) (hrow : RV w b 44 cap xs) (hl : xs.length ≤ 1048576) (hsh : ∀ x ∈ xs, ∃ A c, x.2 = .slice A x.1.2.length c) (hclo : DelIs w b cb xs keep)
    (hm : m0 < xs.length) (hm1 : keep xs[m0] = false) (hm0 : ∀ i (h : i < m0), keep (xs[i]'(by omega)) = true) :
    Calls Try.prog 89 #[.slice (some ⟨b, 0, none⟩) xs.length cap, .func (.func 91) #[] #[.pointer (some ⟨cb, 0, none⟩)]] w fun e w' =>
      e = .returned (.slice (some ⟨b, 0, none⟩) (xs.filter keep).length cap) ∧ RV w' b 44 cap (xs.filter keep) ∧ w.grownBy w' (some b) := by
  have hlc : xs.length ≤ cap := by obtain ⟨_, _, _, h, _⟩ := hrow; exact h
  obtain ⟨K, hK⟩ : ∃ K : Nat → List Bv, K = fun j => (xs.take j).filter keep := ⟨_, rfl⟩
  have hKn : xs.filter keep = K xs.length := by rw [hK]; simp
  have hKy : ∀ j (h : j < xs.length), keep xs[j] = true → K (j + 1) = K j ++ [xs[j]] := fun j hj h => by
    rw [hK]; simp only
    rw [List.take_succ_eq_append_getElem hj, List.filter_append, List.filter_cons_of_pos h]; rfl
  have hKf : ∀ j (h : j < xs.length), keep xs[j] = false → K (j + 1) = K j := fun j hj h => by
    rw [hK]; simp only
    rw [List.take_succ_eq_append_getElem hj, List.filter_append, List.filter_cons_of_neg (by simp [h])]; simp
  have hKm : (K m0) = xs.take m0 := by
    rw [hK]; simp only
    rw [List.filter_eq_self]
    intro a ha
    obtain ⟨i, hi, rfl⟩ := List.mem_iff_getElem.1 ha
    have hi2 : i < m0 := by simp at hi; omega
    have := hm0 i hi2
    rw [List.getElem_take]
    exact this
  rw [hKn]
  have hK1 := hKf m0 hm hm1
  rw [hKm] at hK1
  have HKy := Lib.hid hKy; have HKf := Lib.hid hKf
  have HK1 := Lib.hid hK1
  have HM0 := Lib.hid hm0; have HM1 := Lib.hid hm1; have HSH := Lib.hid hsh; have HCLO := Lib.hid hclo
  clear hK hKn hKy hKf hKm hK1 hm0 hm1 hsh hclo
  have hbl := hrow.lt
  go_enter Try.func89, Try.ntmps89
  go_wp2_with fail
  refine (idxB_any b cap cb xs keep (m0 : Int) w hrow hl HSH.out HCLO.out (fun j hj h1 h2 => by
    rcases Nat.lt_trichotomy m0 j with h | h | h
    · have := h2 m0 h; rw [HM1.out] at this; cases this
    · rw [h]
    · have := HM0.out j h; rw [h1] at this; cases this) (fun h => by have := h m0 hm; rw [HM1.out] at this; cases this)).mono ?_
  rintro e w2 ⟨rfl, hx2⟩
  have hne1 : ((m0 : Int) == -1) = false := beq_eq_false_iff_ne.2 (by omega)
  have hr2 := hrow.below hx2 hbl
  have hg2 := below_grown hx2 (some b)
  go_wp2_with fail
  go_loopw [5, 6] (fun vi vj wr => ∃ (i j : Nat) (zs : List Bv), vi = .int .i64 i ∧ vj = .int .i64 j ∧ i < j ∧ j ≤ xs.length ∧ RV wr b 44 cap zs ∧ Hid (zs.length = xs.length ∧ i = (K j).length ∧ zs.take i = K j ∧ zs.drop j = xs.drop j) ∧ w.grownBy wr (some b)) (fun _ vj _ => xs.length - (intOf vj).toNat)
  case atStart =>
    exact ⟨m0, m0 + 1, xs, rfl, by go_num, by omega, by omega, hr2, Lib.hid ⟨rfl, by rw [HK1.out]; simp; omega, by rw [HK1.out], rfl⟩, hg2⟩
  case round =>
    clear hr2 hg2 hrow
    obtain ⟨i, j, zs, rfl, rfl, hij, hjl, hrow, hz, hg⟩ := hrel
    have hsz := hg.size
    by_cases hlt : j < xs.length
    · have hjz : j < zs.length := by have := hz.out.1; omega
      have hzx : zs[j] = xs[j] := by
        have h1 := hz.out.2.2.2
        have h2 := congrArg (fun l => l[0]?) h1
        simpa [List.getElem?_drop, List.getElem?_eq_getElem hlt, List.getElem?_eq_getElem hjz] using h2
      obtain ⟨d0, d1, d2, d3⟩ := hrow.at_ hjz
      rw [hzx] at d0 d1 d2 d3
      obtain ⟨A', c', hx2⟩ := HSH.out _ (List.getElem_mem hlt)
      have hD := fun w' hw => HCLO.out _ (List.getElem_mem hlt) w' hw
      have hy := HKy.out j hlt
      have hf := HKf.out j hlt
      have hdr := List.drop_eq_getElem_cons hlt
      obtain ⟨x, hxe⟩ : ∃ x, x = xs[j] := ⟨_, rfl⟩
      rw [← hxe] at d0 d1 d2 d3 hx2 hD hy hf hdr
      obtain ⟨⟨⟨s', f', o⟩, js⟩, vj⟩ := x
      dsimp only at d0 d1 d2 d3 hx2 hD
      subst hx2
      have HD := Lib.hid hD; have HY := Lib.hid hy; have HF := Lib.hid hf; have HDR := Lib.hid hdr
      clear hxe hD hy hf hzx hdr
      have hbb : b < wr.heap.size := hrow.lt
      cases he : keep (((s', f', o), js), Value.slice A' js.length c')
      · have HE := Lib.hid he
        clear he
        go_wp2_with fail
        refine (HD.out _ (grown_trans hg (below_grown (below1 wr _) (some b)))).mono ?_
        rintro e w3 ⟨rfl, hx3⟩
        rw [HE.out]
        have hr3 := (hrow.alloc (.cells #[.int .i64 s', .int .i64 f', .int .i64 o, .slice A' js.length c'] 44)).below hx3 (by simp; omega)
        have hg3 : w.grownBy w3 (some b) := grown_trans hg (grown_trans (below_grown (below1 wr _) (some b)) (below_grown hx3 (some b)))
        have hKe := HF.out HE.out
        have HKE := Lib.hid hKe
        clear hKe
        go_wp2_with fail
        go_roundw
        case rel =>
          refine ⟨i, j + 1, zs, rfl, by go_num, by omega, by omega, hr3, Lib.hid ?_, hg3⟩
          obtain ⟨z1, z2, z3, z4⟩ := hz.out
          exact ⟨z1, by rw [HKE.out]; exact z2, by rw [HKE.out]; exact z3, by rw [← List.drop_drop, z4, List.drop_drop]⟩
        case measure => simp [intOf]; omega
      · have HE := Lib.hid he
        clear he
        go_wp2_with fail
        refine (HD.out _ (grown_trans hg (below_grown (below1 wr _) (some b)))).mono ?_
        rintro e w3 ⟨rfl, hx3⟩
        rw [HE.out]
        have hr3 := (hrow.alloc (.cells #[.int .i64 s', .int .i64 f', .int .i64 o, .slice A' js.length c'] 44)).below hx3 (by simp; omega)
        have q3 := fun i => cell_of_row w3 wr.heap.size i _ _ _ ((hx3.block wr.heap.size (by simp)).trans (heap_alloc_at wr _ _ rfl))
        have hil : i < xs.length := by omega
        have hiz : i < zs.length := by omega
        have e0 := (hr3.at_ hiz).1
        have e1 := (hr3.at_ hiz).2.1
        have e2 := (hr3.at_ hiz).2.2.1
        have e3 := (hr3.at_ hiz).2.2.2
        have f0 := hr3.free (i * 4)
        have f1 := hr3.free (i * 4 + 1)
        have f2 := hr3.free (i * 4 + 2)
        have f3 := hr3.free (i * 4 + 3)
        have hg3 : w.grownBy w3 (some b) := grown_trans hg (grown_trans (below_grown (below1 wr _) (some b)) (below_grown hx3 (some b)))
        have hr4 := hr3.set i (((s', f', o), js), Value.slice A' js.length c')
        have hKe := HY.out HE.out
        have HKE := Lib.hid hKe
        clear hKe
        go_wp2_with fail
        go_roundw
        case rel =>
          refine ⟨i + 1, j + 1, _, by go_num, by go_num, by omega, by omega, hr4, Lib.hid ?_, grown_setCell (grown_setCell (grown_setCell (grown_setCell hg3 ⟨b, i * 4, none⟩ _ rfl) ⟨b, i * 4 + 1, none⟩ _ rfl) ⟨b, i * 4 + 2, none⟩ _ rfl) ⟨b, i * 4 + 3, none⟩ _ rfl⟩
          obtain ⟨z1, z2, z3, z4⟩ := hz.out
          refine ⟨by rw [List.length_set]; exact z1, by rw [HKE.out, List.length_append, ← z2]; rfl, ?_, ?_⟩
          · rw [HKE.out, List.take_succ_eq_append_getElem (by rw [List.length_set]; exact hiz), List.take_set_of_le (Nat.le_refl _), z3]
            simp
          · rw [List.drop_set_of_lt (by omega), ← List.drop_drop, z4, List.drop_drop]
        case measure => simp [intOf]; omega
    · obtain rfl : j = xs.length := by omega
      have hzl := hz.out.1
      have HZL := Lib.hid hzl
      obtain ⟨w4, hcl, hg4, hr4⟩ := clear_boards hrow i (by omega) (cap - i)
      rw [hzl] at hcl
      clear hzl
      have hic : i ≤ cap := by omega
      have hinc : ¬ i = cap := by omega
      go_wp2_with fail
      go_ret
      obtain ⟨_, z2, z3, _⟩ := hz.out
      rw [← z2, ← z3]
      exact ⟨rfl, hr4, grown_trans hg hg4⟩
end Go.Proofs.Ytjngiinfpoappaa

namespace Go.Proofs.Ytjngiinfpoappaa
open Go.RowKit

set_option maxRecDepth 100000 in
set_option maxHeartbeats 1000000 in
/-- No board is struck. -/
theorem delB_none (b cap cb : Nat) (xs : List Bv) (keep : Bv → Bool) (w : World) (hrow : RV w b 44 cap xs) (hl : xs.length ≤ 1048576) (hsh : ∀ x ∈ xs, ∃ A c, x.2 = .slice A x.1.2.length c) (hclo : DelIs w b cb xs keep) (hall : ∀ j (h : j < xs.length), keep xs[j] = true) :
    Calls Try.prog 89 #[.slice (some ⟨b, 0, none⟩) xs.length cap, .func (.func 91) #[] #[.pointer (some ⟨cb, 0, none⟩)]] w fun e w' =>
      e = .returned (.slice (some ⟨b, 0, none⟩) xs.length cap) ∧ Below w.heap.size w w' := by
  have HI := Lib.hid (idxB_any b cap cb xs keep (-1) w hrow hl hsh hclo (fun j h h1 _ => by have := hall j h; rw [h1] at this; cases this) (fun _ => rfl))
  clear hall hclo hsh hrow
  go_enter Try.func89, Try.ntmps89
  go_wp2_with fail
  refine HI.out.mono ?_
  rintro e w2 ⟨rfl, hx2⟩
  go_wp2
  go_ret
  exact ⟨rfl, hx2⟩
theorem delB_any (b cap cb : Nat) (xs : List Bv) (keep : Bv → Bool) (w : World) (hrow : RV w b 44 cap xs) (hl : xs.length ≤ 1048576) (hsh : ∀ x ∈ xs, ∃ A c, x.2 = .slice A x.1.2.length c) (hclo : DelIs w b cb xs keep) :
    Calls Try.prog 89 #[.slice (some ⟨b, 0, none⟩) xs.length cap, .func (.func 91) #[] #[.pointer (some ⟨cb, 0, none⟩)]] w fun e w' =>
      e = .returned (.slice (some ⟨b, 0, none⟩) (xs.filter keep).length cap) ∧ RV w' b 44 cap (xs.filter keep) ∧ w.grownBy w' (some b) := by
  by_cases h : xs.findIdx (fun x => !keep x) < xs.length
  · refine delB_some b cap cb xs keep _ w hrow hl hsh hclo h ?_ ?_
    · have := List.findIdx_getElem (p := fun x => !keep x) (w := h)
      simpa using this
    · intro i hi
      have := List.not_of_lt_findIdx (p := fun x => !keep x) hi
      simpa using this
  · have hall : ∀ x ∈ xs, keep x = true := by
      have he : xs.findIdx (fun x => !keep x) = xs.length := by have := List.findIdx_le_length (p := fun x => !keep x) (xs := xs); omega
      rw [List.findIdx_eq_length] at he
      intro x hx
      simpa using he x hx
    have hf : xs.filter keep = xs := List.filter_eq_self.2 hall
    rw [hf]
    refine (delB_none b cap cb xs keep w hrow hl hsh hclo (fun j h => hall _ (List.getElem_mem h))).mono ?_
    rintro e w' ⟨rfl, hx⟩
    exact ⟨rfl, hrow.below hx hrow.lt, below_grown hx _⟩
theorem oversL_pos (s f : Int) (S : Nat) : 0 < (oversL s f S 3).length := by simp [oversL]
theorem keepL_map (xs : List Bv) (cs : List Qd) : (xs.filter (fun x => cs.all (fitX x.1))).map (·.1) = keepL (xs.map (·.1)) cs := by
  rw [keepL, List.filter_map]; rfl

set_option maxRecDepth 100000 in
set_option maxHeartbeats 1000000 in
theorem thatFit_any (S : Nat) (f : Int) (A : Option Addr) (cp : Nat) (cs : List Qd) (w : World) (hS : 1 ≤ S ∧ S ≤ 10) (hf : 1 ≤ f ∧ f ≤ 8) (hL : RQ w w.heap.size A cs) (hq : ∀ q ∈ cs, clQ (S : Int) f q = true) :
    Calls Try.prog 65 #[.agg #[.int .i64 (S : Int), .int .i64 f], .slice A cs.length cp] w fun e w' => ∃ v, e = .returned v ∧ OwnB w' w.heap.size w.heap.size 44 101 v (keepL (oversL S f S 3) cs) ∧ Below w.heap.size w w' := by
  have hl := hL.1
  have hLh := oversL_hid hS hf 3 (Nat.le_refl _)
  have hLl := oversL_len (S : Int) f S hS.2 3
  have hLp := oversL_pos (S : Int) f S
  obtain ⟨L, hLL⟩ : ∃ L, L = oversL (S : Int) f S 3 := ⟨_, rfl⟩
  rw [← hLL] at hLh hLl hLp ⊢
  have HLL := Lib.hid hLL; have HLH := Lib.hid hLh; have HQ := Lib.hid hq
  clear hLL hLh hq
  go_enter Try.func65, Try.ntmps65
  go_wp2_with fail
  refine (boards_any S f _ hS).mono ?_
  rintro e w2 ⟨vb, rfl, hOb, hx⟩
  simp only [World.size_alloc] at hx hOb
  rw [← HLL.out] at hOb
  obtain ⟨b, cap, xs, rfl, hb1, hcm, hcap, hxs, hrv, hjv⟩ := hOb.rv hLp
  have hxl : xs.length = L.length := by rw [← hxs]; simp
  have hb2 : Below w.heap.size w w2 := (below2 _ _ _).trans (hx.mono (by omega))
  have hs2 : w.heap.size + 1 + 1 ≤ w2.heap.size := by have := hx.size; simpa using this
  have hcl := fun i => cell_of_row w2 (w.heap.size + 1) i _ _ _ ((hx.block (w.heap.size + 1) (by omega)).trans (heap_alloc_at _ (.cells #[.slice A cs.length cp] 32) _ (by simp)))
  have hbl := hrv.lt
  have hB3 : ∀ w3, w2.grownBy w3 (some b) → Below w.heap.size w w3 := fun w3 hg => hb2.grown hg hb2.size (fun g e => by injection e with e; omega)
  have hD : DelIs w2 b (w.heap.size + 1) xs (fun x => cs.all (fitX x.1)) := by
    intro x hx2 w3 hg
    have hj3 := (hjv x hx2).grownT hrv hg (show 101 ≠ 44 by decide)
    have hX : HidX (S : Int) f x.1 := HLH.out _ (by rw [← hxs]; exact List.mem_map_of_mem hx2)
    have hc3 : w3.cell? ⟨w.heap.size + 1, 0, none⟩ = some (.slice A cs.length cp) := by
      have h1 := hg.block (w.heap.size + 1) (by omega) (by intro e; injection e with e; omega)
      have h2 := hcl 0
      unfold World.cell? at h2 ⊢
      simp only at h2 ⊢
      rw [h1]; exact h2
    have hs3 := hg.size
    obtain ⟨⟨⟨s', f', o⟩, js⟩, v⟩ := x
    obtain ⟨A', c', e2, hcj, hOJ⟩ := hj3
    dsimp only at e2 hOJ hX ⊢
    subst e2
    have hgd : good ⟨s', f', o, js⟩ = true := (hidB_parts hX.2.2).1
    have hwf := good_wfJ hgd
    have hjl : js.length ≤ 1048576 := by have := (good_sizes hgd).2.2.2; omega
    exact delFit_any ((s', f', o), js) A' c' cs A cp (w.heap.size + 1) (S : Int) f w3 hX HQ.out (hL.go (hB3 w3 hg)) (hOJ.rj hjl hwf) (by omega) hc3
  have HD := Lib.hid (delB_any b cap (w.heap.size + 1) xs (fun x => cs.all (fitX x.1)) w2 hrv (by omega) (fun x hx2 => by obtain ⟨A', c', e, _⟩ := hjv x hx2; exact ⟨A', c', e⟩) hD)
  rw [hxl] at HD
  have HJ := Lib.hid hjv; have HX := Lib.hid hxs; have HB := Lib.hid hB3; have HRV := Lib.hid hrv
  clear hD hjv hxs hOb hB3 hrv hcl
  go_wp2_with fail
  refine HD.out.mono ?_
  rintro e w3 ⟨rfl, hr3, hg3⟩
  have hown := hr3.own (lo := w.heap.size) (lj := w.heap.size) (tj := 101) (by omega) hcm (fun x hm => by
    obtain ⟨A', c', e2, hcj, hOJ⟩ := (HJ.out x (List.mem_filter.1 hm).1).grownT HRV.out hg3 (show 101 ≠ 44 by decide)
    exact ⟨A', c', e2, hcj, hOJ.imp id fun ⟨g, e3, h1, h2⟩ => ⟨g, e3, by omega, h2⟩⟩)
  rw [keepL_map, HX.out] at hown
  have hlen : (List.filter (fun x => cs.all (fitX x.1)) xs).length = (keepL L cs).length := by rw [← HX.out, ← keepL_map, List.length_map]
  rw [hlen]
  have HO := Lib.hid hown
  have hb3 := HB.out w3 hg3
  clear hr3 hg3 hown hlen
  go_wp2
  go_ret
  exact ⟨_, rfl, HO.out, hb3⟩

set_option maxRecDepth 100000 in
set_option maxHeartbeats 1000000 in
theorem count_any (S : Nat) (f : Int) (A : Option Addr) (cp : Nat) (cs : List Qd) (w : World) (hS : 1 ≤ S ∧ S ≤ 10) (hf : 1 ≤ f ∧ f ≤ 8) (hL : RQ w w.heap.size A cs) (hq : ∀ q ∈ cs, clQ (S : Int) f q = true) :
    Calls Try.prog 74 #[.agg #[.int .i64 (S : Int), .int .i64 f], .slice A cs.length cp] w fun e w' => e = .returned (.int .i64 ((keepL (oversL S f S 3) cs).length : Nat)) ∧ Below w.heap.size w w' := by
  have hl := hL.1
  have HQ := Lib.hid hq
  clear hq
  go_enter Try.func74, Try.ntmps74
  go_wp2_with fail
  refine (thatFit_any S f A cp cs _ hS hf (hL.go (below1 _ _)) HQ.out).mono ?_
  rintro e w2 ⟨v, rfl, hO, hx⟩
  obtain ⟨A2, c2, rfl, _⟩ := hO.slice
  clear hO
  go_wp2
  go_ret
  exact ⟨rfl, (below1 _ _).trans (hx.mono (by simp))⟩
theorem keepL_len (S : Nat) (f : Int) (cs : List Qd) (hS : S ≤ 10) : (keepL (oversL S f S 3) cs).length ≤ 300 := Nat.le_trans (List.length_filter_le _ _) (by have := oversL_len (S : Int) f S hS 3; omega)
set_option maxRecDepth 100000 in
set_option maxHeartbeats 1000000 in
theorem areSolved_any (S : Nat) (f : Int) (A : Option Addr) (cp : Nat) (cs : List Qd) (w : World) (hS : 1 ≤ S ∧ S ≤ 10) (hf : 1 ≤ f ∧ f ≤ 8) (hL : RQ w w.heap.size A cs) (hq : ∀ q ∈ cs, clQ (S : Int) f q = true) :
    Calls Try.prog 72 #[.agg #[.int .i64 (S : Int), .int .i64 f], .slice A cs.length cp] w fun e w' => e = .returned (.bool ((keepL (oversL S f S 3) cs).length == 1)) ∧ Below w.heap.size w w' := by
  have hl := hL.1
  have HQ := Lib.hid hq
  clear hq
  have hk := keepL_len S f cs hS.2
  obtain ⟨n, hn⟩ : ∃ n, n = (keepL (oversL S f S 3) cs).length := ⟨_, rfl⟩
  rw [← hn] at hk ⊢
  have HN := Lib.hid hn
  clear hn
  go_enter Try.func72, Try.ntmps72
  go_wp2_with fail
  refine (count_any S f A cp cs _ hS hf (hL.go (below1 _ _)) HQ.out).mono ?_
  rintro e w2 ⟨rfl, hx⟩
  rw [← HN.out]
  go_wp2
  go_ret
  exact ⟨ret_bool (by rw [Bool.eq_iff_iff]; simp; omega), (below1 _ _).trans (hx.mono (by simp))⟩
end Go.Proofs.Ytjngiinfpoappaa

/- Several texts, one behind the other: T4. -/
import Derived.Deep.RegionHeld3
import Derived.Test.YtmiefdjbhcpnbaaDoorZTTaq

namespace Go.Proofs.YtmiefdjbhcpnbaaDoor
open Go.RowKit

def clsB (L : List Qd) : ByteArray := ⟨(clsL L).toArray⟩
/-- strings.Join of the clues' texts that the call has collected. -/
theorem join_own (base n c : Nat) (A : Option Addr) (L : List Qd) (w W : World) (hn : n = L.length) (ho : w.ownsRow base 9 1 (.slice A n c) n ((L.map clL).map strV)) (h6 : L.length ≤ 6) (hcx : ∀ c ∈ L, ClTx c) (hb : Below w.heap.size w W) :
    Calls Tryd.prog 45 #[.slice A n c, .string ⟨#[44]⟩] W fun e w' => e = .returned (.string (clsB L)) ∧ Below W.heap.size W w' := by
  subst hn
  by_cases hnil : L = []
  · subst hnil
    refine (Any.strings_Join_none Tryd.laysJoin extraJoin A c ⟨#[44]⟩ W).mono ?_
    rintro e w' ⟨rfl, rfl⟩
    exact ⟨rfl, Below.refl _ _⟩
  · obtain ⟨g, cc, e, ⟨_, hg2⟩, hr⟩ := own_rows ho (by simpa using hnil)
    rw [List.length_map] at e hg2
    injection e with e1 e3 e2
    subst e1 e2
    have hl := clsL_len L hcx
    have := join_any g c (L.map clL) 44 W (hr.below hb hr.lt) (by simpa using hg2) (by simp; omega) (by show (clsL L).length ≤ _; omega)
    rw [List.length_map] at this
    exact this
theorem pz_all (P : Program) (q f : Int) (L : List Qd) (hq : q ≤ 999) (hf : f ≤ 999) (hL : ∀ c ∈ L, ClTx c) (h6 : L.length ≤ 6) : ∀ W, (Op.stringOp .add (pzTB q f []) (clsB L)).run P W = .ok (.string (pzTB q f L)) W := by
  intro W
  have l1 := numL_len q hq
  have l2 := numL_len f hf
  have l3 := clsL_len L hL
  have e := addL P (pzL q f []) (clsL L) (by simp [pzL, clsL, joinL]; unfold clsL at l3; omega) W
  rw [show pzL q f [] ++ clsL L = pzL q f L by simp [pzL, clsL, joinL]] at e
  exact e
set_option maxHeartbeats 8000000 in
set_option maxRecDepth 100000 in
theorem implPuzzleText_any (q f : Int) (A : Option Addr) (cp : Nat) (L : List Qd) (w : World) (hL : RQ w w.heap.size A L) (ht : Tens w) (x : ByteArray) (ok : Bool) (hok : pzB q f L = ok) (hx : x = if ok then pzTB q f L else ⟨#[]⟩) :
    Calls Tryd.prog 19 #[.agg #[.int .i64 q, .int .i64 f, .slice A L.length cp]] w fun e w' => e = .returned (.tuple #[.string x, .bool ok]) ∧ Below w.heap.size w w' := by
  have hl := hL.1
  have hw0 : Below w.heap.size w (w.alloc (.cells #[.int .i64 q, .int .i64 f, .slice A L.length cp] 43)) := below1 _ _
  have HG := Lib.hid (fun (W : World) (g1 : RQ W W.heap.size A L) => implIsPuzzle_any q f A cp L W g1)
  rw [hok] at HG
  cases ok with
  | false =>
    simp only [Bool.false_eq_true, if_false] at hx
    subst hx
    go_enter Tryd.func19, Tryd.ntmps19
    go_wp2_with (go_at_call 43; refine (HG.out _ (hL.go hw0)).mono ?_; rintro e w1 ⟨rfl, hx⟩)
    go_ret2
    exact ⟨rfl, hw0.trans (hx.mono (by simp))⟩
  | true =>
    simp only [if_true] at hx
    obtain ⟨p1, p2, p3, p4⟩ := pz_nums hok
    obtain ⟨s1, s2, a1, a2, a3⟩ := pz_adds Tryd.prog q f p1.2 p2.2
    have a4 := pz_all Tryd.prog q f L p1.2 p2.2 p4 p3
    rw [← hx] at a4
    obtain ⟨i0, hi, hz0, hz1, hz2⟩ := info_parts infoStr1
    have H1 := Lib.hid p1; have H2 := Lib.hid p2; have H4 := Lib.hid p4; have HT := Lib.hid ht
    clear hok hx p1 p2 p4 ht
    go_enter Tryd.func19, Tryd.ntmps19
    go_wp2_with fail
    refine (HG.out _ (hL.go hw0)).mono ?_
    rintro e w2 ⟨rfl, hx⟩
    have hb1 := box_on (Below.refl _ _) hx (by simp)
    have q1 := boxcells hb1
    go_wp2_with fail
    go_loopw [4, 13] (fun v i wr => ∃ k : Nat, k ≤ L.length ∧ i = .int .i64 (k : Int) ∧ Below (w.heap.size + 1) (w.alloc (.cells #[.int .i64 q, .int .i64 f, .slice A L.length cp] 43)) wr ∧ Hid (wr.ownsRow (w.heap.size + 1) 9 1 v k (((L.take k).map clL).map strV))) (fun _ i _ => L.length - (intOf i).toNat)
    case atStart => exact ⟨0, Nat.zero_le _, rfl, hb1, Lib.hid (World.ownsRow_nil _ _ _ _)⟩
    case round =>
      clear hb1 hx q1
      obtain ⟨k, hk, rfl, hb, HO⟩ := hrel
      have hb' := hw0.trans (hb.mono (by omega))
      have hsz := hb'.size
      have hsz1 : w.heap.size + 1 ≤ wr.heap.size := by have := hb.size; simpa using this
      obtain ⟨Av, cv, rfl⟩ := own_sliceT HO.out
      by_cases hlt : k < L.length
      · obtain ⟨b, off, rfl, hB, h1, h2, h3, h4⟩ := hL.at_ hb' hlt
        have hcl := H4.out L[k] (List.getElem_mem hlt)
        obtain ⟨d, hd⟩ : ∃ d, d = L[k] := ⟨_, rfl⟩
        rw [← hd] at h1 h2 h3 h4 hcl
        have HD := Lib.hid hd
        clear hd
        obtain ⟨k0, a0, b0, d0⟩ := d
        dsimp only at h1 h2 h3 h4
        have HC := Lib.hid hcl
        obtain ⟨CT, hCT⟩ : ∃ CT, CT = clTB (k0, a0, b0, d0) := ⟨_, rfl⟩
        have HCT := Lib.hid hCT
        have hw1 := below1 wr (.cells #[.int .i64 k0, .int .i64 a0, .int .i64 b0, .int .i64 d0] 67)
        have ho := HO.out
        have ho1 := own_below ho hw1
        clear hcl hCT
        go_wp2_with (first | (go_at_call 44; refine (clueText_any k0 a0 b0 d0 _ HC.out (HT.out.on (hb'.trans (hw1.mono hsz)))).mono ?_; rintro e w4 ⟨rfl, hx4⟩; rw [← HCT.out]; have ho2 := own_below (own_below ho1 hx4) (below1 w4 (.cells #[.string CT] 9))) | (at_builtin; go_loud (refine wpList_append_own_at _ rfl _ _ 65 rfl (w.heap.size + 1) 9 i0 (.string ⟨#[]⟩) 1 16 Tryd.underlying65 hi hz0 hz1 hz2 rfl (by decide) _ _ _ rfl ho2 ⟨w4.heap.size, 0, none⟩ 1 1 [.string CT] rfl rfl (cell_new1T _ _ _) (one_strT _) (by unfold maxLen; omega) (by omega) (by have := hx4.size; simp at *; omega) ?_; intro v5 w5 ho5 hg5 _ hb5)))
        have hx4s := hx4.size
        simp only [World.size_alloc] at hx4s
        have hB5 := (((hb.alloc (by simpa using hsz1) _).trans (hx4.mono (by simp; omega))).alloc (by omega) _).grown hg5 (by simp; omega) (fun i h => own_from ho i h)
        have ho6 : w5.ownsRow (w.heap.size + 1) 9 1 v5 (k + 1) (((L.take (k + 1)).map clL).map strV) := by
          rw [List.take_succ_eq_append_getElem hlt, List.map_append, List.map_append, ← HD.out]
          rw [show [(k0, a0, b0, d0)].map clL = [clL (k0, a0, b0, d0)] from rfl]
          have e6 : CT = ⟨(clL (k0, a0, b0, d0)).toArray⟩ := HCT.out
          rw [e6] at ho5
          exact ho5
        have HO6 := Lib.hid ho6
        clear ho5 ho6 hg5 hb5 ho2 ho1 ho
        go_roundw
        case rel => exact ⟨k + 1, hlt, by go_num, hB5, HO6⟩
        case measure => simp [intOf]; omega
      · obtain rfl : k = L.length := by omega
        have ho := HO.out
        rw [List.take_length] at ho
        have hJ := fun (W : World) (hW : Below wr.heap.size wr W) => join_own _ _ _ _ L wr W rfl ho p3 H4.out hW
        have HJ := Lib.hid hJ
        have qb := boxcells hb
        have hsz2 : w.heap.size < wr.heap.size := by omega
        have hb9 : Below wr.heap.size wr wr.drew := (Below.refl _ _).drew
        clear ho hJ
        go_wp2_with fail
        go_region_held3 (fun w' => Below wr.heap.size wr w' ∧ (∀ i, w'.cell? ⟨w.heap.size, i, none⟩ = #[.int .i64 q, .int .i64 f, .slice A L.length cp][i]?)) (go_keep)
          (first
            | (go_at_call 30; have g := ‹Below wr.heap.size wr _ ∧ _›; refine (itoa_any (HT.out.on (hb'.trans (g.1.mono hsz))) _ (by with_reducible first | exact H1.out.1 | exact H2.out.1) (by with_reducible first | exact H1.out.2 | exact H2.out.2)).mono ?_; rintro e w1 ⟨rfl, hx⟩; have k1 := keepB g.1 (Nat.le_refl _) hx; have k2 := fun i => (bcell (o := i) k1 hsz2).trans (qb i))
            | (go_at_call 45; have g := ‹Below wr.heap.size wr _ ∧ _›; refine (HJ.out _ g.1).mono ?_; rintro e w1 ⟨rfl, hx⟩; have k1 := keepB g.1 (Nat.le_refl _) hx; have k2 := fun i => (bcell (o := i) k1 hsz2).trans (qb i)))
        go_wp2_with fail
        go_ret2
        exact ⟨rfl, hb'.trans (k1.mono hsz)⟩
/-- Both sides give one text. -/
theorem puzzleText_both (q f : Int) (L : List Qd) : ∃ (x : ByteArray) (ok : Bool),
    (∀ (A : Option Addr) (cp : Nat) (W : World), RQ W W.heap.size A L → Calls Tryd.prog 17 #[.agg #[.int .i64 q, .int .i64 f, .slice A L.length cp]] W fun e w' => e = .returned (.tuple #[.string x, .bool ok]) ∧ Below W.heap.size W w') ∧
    (∀ (A : Option Addr) (cp : Nat) (W : World), RQ W W.heap.size A L → Tens W → Calls Tryd.prog 19 #[.agg #[.int .i64 q, .int .i64 f, .slice A L.length cp]] W fun e w' => e = .returned (.tuple #[.string x, .bool ok]) ∧ Below W.heap.size W w') :=
  ⟨_, pzB q f L, fun _ _ _ h1 => specPuzzleText_any _ _ _ _ _ _ h1 _ _ rfl rfl, fun _ _ _ h1 ht => implPuzzleText_any _ _ _ _ _ _ h1 ht _ _ rfl rfl⟩
end Go.Proofs.YtmiefdjbhcpnbaaDoor

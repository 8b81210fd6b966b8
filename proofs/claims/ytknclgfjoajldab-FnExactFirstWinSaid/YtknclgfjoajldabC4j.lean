/-
  Races: the model's search, raFar.
-/
import Derived.Test.YtknclgfjoajldabC4i
import Derived.Test.YtknclgfjoajldabC4b
import Derived.Test.YtknclgfjoajldabWSeek
import Derived.Test.YtknclgfjoajldabM25
import Derived.Deep.RegionHeld3
import Derived.Deep.CutRange
import Derived.Maps.AppendAt
namespace Go.Proofs.Ytknclgfjoajldab
open Go.RowKit

/-- What raFar hands back. -/
def FarBack (w : World) (s f o : Int) (js : List (Int × Int)) (me who : Int) (q0 : Nat) (e : Ending) (w' : World) : Prop :=
  ∃ (g : Nat) (F : Nat → Bool) (L : Nat → Nat) (Q : List Nat), e = .returned (.tuple #[.slice (some ⟨g, 0, none⟩) (2 * ((s.toNat + 1) * (s.toNat + 1))) (2 * ((s.toNat + 1) * (s.toNat + 1))), .int .i64 (Q.length : Int)]) ∧ w.heap.size ≤ g ∧
    RowI w' g 3 (2 * ((s.toNat + 1) * (s.toNat + 1))) (farW F L) ∧
    (∀ z, Rch (nxS s o js me) f.toNat q0 z → (F z = true → 1 ≤ L z ∧ DistW (nxS s o js me) (wonQ s) f.toNat who z (L z - 1)) ∧ (F z = false → ∀ ys, ¬ WinL (nxS s o js me) (wonQ s) f.toNat who z ys)) ∧
    (∀ z, L z ≤ 4000) ∧ Q.Nodup ∧ (∀ z, z ∈ Q ↔ Rch (nxS s o js me) f.toNat q0 z) ∧ Below w.heap.size w w'
theorem nxS_eq {s o : Int} {js : List (Int × Int)} {me : Int} {x face : Nat} {xn yn : Nat} {b : Bool} (hw : wonQ s x = 0) (hs : stepR s o js me (Dx (s.toNat + 1) x : Nat) (Dy (s.toNat + 1) x : Nat) (Dt x == 1) face = (((xn : Int), (yn : Int)), b)) (hx : sqR s js xn) (hy : sqR s js yn) :
    nxS s o js me x face = if wonR s xn yn = 0 then cd (s.toNat + 1) xn yn (1 - Dt x) else cd (s.toNat + 1) xn yn (1 - Dt x) / 2 * 2 := by
  have e : nxP s o js me x face = cd (s.toNat + 1) xn yn (1 - Dt x) := by
    unfold nxP
    rw [if_neg (by simp [hw]), hs]
    simp
  have e2 : wonQ s (cd (s.toNat + 1) xn yn (1 - Dt x)) = wonR s xn yn := by
    have := wonQ_cd (t := 1 - Dt x) hx hy (by omega)
    simpa using this
  unfold nxS
  rw [if_neg (by simp [hw]), e]
  unfold muQ
  rw [e2]
  by_cases h : wonR s xn yn = 0 <;> simp [h]

set_option maxRecDepth 100000 in
set_option maxHeartbeats 1000000 in
theorem raFar_any (s f o me fi ot who : Int) (A : Option Addr) (c : Nat) (js : List (Int × Int)) (w : World) (hj : RJ w w.heap.size A js) (hr : raceOk s f o js me fi ot = true) (_ : 0 < who) (_ : who ≤ 2) :
    Calls Try.prog 48 #[.agg #[.int .i64 s, .int .i64 f, .int .i64 o, .slice A js.length c, .int .i64 me, .int .i64 fi, .int .i64 ot], .int .i64 who] w (FarBack w s f o js me who (cd (s.toNat + 1) fi.toNat ot.toNat 0)) := by
  have hl := hj.1
  obtain ⟨hg, h40, hme, ho1, ho2, hlt⟩ := raceOk_parts hr
  have hz := good_sizes hg
  have hsx := sqR_of ho1
  have hsy := sqR_of ho2
  obtain ⟨xf, rfl⟩ := Int.eq_ofNat_of_zero_le hsx.1
  obtain ⟨yo, rfl⟩ := Int.eq_ofNat_of_zero_le hsy.1
  have hxs := hsx.2.1
  have hys := hsy.2.1
  have hok0 := okQ_cd (t := 0) hsx hsy (by omega)
  have hwn0 := wonQ_cd (t := 0) hsx hsy (by omega)
  simp only [Int.toNat_natCast] at hok0 hwn0 ⊢
  obtain ⟨W, hW⟩ : ∃ W : Nat, W = s.toNat + 1 := ⟨_, rfl⟩
  have hsW : s + 1 = (W : Int) := by omega
  have hW41 : W ≤ 41 := by omega
  have hW2 : 2 ≤ W := by omega
  obtain ⟨n, hn⟩ : ∃ n : Nat, n = 2 * (W * W) := ⟨_, rfl⟩
  have hWW : W * W ≤ 41 * 41 := Nat.mul_le_mul hW41 hW41
  have hn2 : n ≤ 3362 := by omega
  obtain ⟨q0, hq0⟩ : ∃ q, q = cd (s.toNat + 1) xf yo 0 := ⟨_, rfl⟩
  rw [← hq0] at hok0 hwn0 ⊢
  have hq0n : q0 < n := by have := okQ_lt hok0; rw [← hW, ← hn] at this; exact this
  obtain ⟨p0, hp0⟩ : ∃ p : Nat, p = xf * W := ⟨_, rfl⟩
  obtain ⟨p1, hp1⟩ : ∃ p : Nat, p = xf * W + yo := ⟨_, rfl⟩
  have hp2 : q0 = p1 * 2 := by rw [hq0, hp1, hW]; unfold cd; omega
  have iwA : IntKind.i64.wrap (s + 1) = (W : Int) := by rw [IntWalk.i64_in _ (by omega)]; exact hsW
  have iwB : IntKind.i64.wrap ((xf : Int) * (W : Int)) = (p0 : Int) := by
    have e : (xf : Int) * (W : Int) = (p0 : Int) := by rw [hp0]; simp
    rw [e, IntWalk.i64_in _ (by omega)]
  have iwC : IntKind.i64.wrap ((p0 : Int) + (yo : Int)) = (p1 : Int) := by rw [IntWalk.i64_in _ (by omega)]; omega
  have iwD : IntKind.i64.wrap ((p1 : Int) * 2) = (q0 : Int) := by rw [IntWalk.i64_in _ (by omega)]; omega
  have iwE : IntKind.i64.wrap (2 * (W : Int)) = 2 * (W : Int) := IntWalk.i64_in _ (by omega)
  have iwF : IntKind.i64.wrap (2 * (W : Int) * (W : Int)) = (n : Int) := by
    have e : 2 * (W : Int) * (W : Int) = (n : Int) := by rw [hn, Int.mul_assoc]; simp
    rw [e, IntWalk.i64_in _ (by omega)]
  have iwG : (q0 : Int) / 2 * 2 = (q0 : Int) := by omega
  have iq0 : (q0 : Int) < (n : Int) := by omega
  have hsWn : s.toNat + 1 = W := hW.symm
  have HW := Lib.hid hW; have HN := Lib.hid hn; have HG := Lib.hid hg; have HSX := Lib.hid hsx; have HSY := Lib.hid hsy; have HOK := Lib.hid hok0; have HWN := Lib.hid hwn0
  clear hr hg ho1 ho2 hsx hsy hok0 hwn0 hW hn hq0 hp0 hp1 hp2 hsW hWW hlt hsWn hme
  obtain ⟨i0, hi, hiz0, hiz1, hiz2⟩ := info_parts infoBoolS
  obtain ⟨j0, hji, hjz0, hjz1, hjz2⟩ := info_parts infoInt1
  obtain ⟨r0, hri, hrz0, hrz1, hrz2⟩ := info_parts infoRowS
  go_enter Try.func48, Try.ntmps48
  go_wp2_with fail
  refine (raWon_any _ _ _ _ _ _ _ _ _ _).mono ?_
  rintro e w1 ⟨rfl, hb⟩
  have hb1 := box_on (Below.refl _ _) hb (by simp)
  have hz1 : w.heap.size < w1.heap.size := by have := hb1.size; simp at this; omega
  have k0 : w1.heap[w.heap.size]? = some (.cells #[.int .i64 s, .int .i64 f, .int .i64 o, .slice A js.length c, .int .i64 me, .int .i64 xf, .int .i64 yo] 48 (0, 0)) := (hb1.block _ (by omega)).trans (heap_alloc_at _ _ _ rfl)
  have hB0 := (below1 _ _).trans (hb1.mono (by omega))
  clear hb hb1
  go_upto_if 38 with fail
  go_cut [7] from 39 to 41 (fun s7 wx => s7 = .int .i64 (q0 : Int) ∧ wx = w1)
  case first =>
    go_wp2_with fail
    all_goals (go_meet; exact ⟨rfl, rfl⟩)
  case rest =>
    obtain ⟨rfl, rfl⟩ := hcut
    go_wp2_with (first | (at_make; refine wpList_make_full _ rfl _ _ 100 rfl wc.heap.size 4 i0 _ 1 Try.underlying100 hi hiz0 hiz1 _ _ _ _ n rfl rfl rfl rfl (by rw [hiz2]; omega) (by unfold maxLen; omega) (Nat.le_refl _) ?_; intro w2 hown hgrow; have hrow := madeB hown rfl; have d1 := hrow.cell hq0n; have d2 := hrow.free q0; have zz := hrow.lt) | (at_make; refine wpList_make_full _ rfl _ _ 31 rfl wc.heap.size 23 r0 _ 1 Try.underlying31 hri hrz0 hrz1 _ _ _ _ n rfl rfl rfl rfl (by rw [hrz2]; omega) (by unfold maxLen; omega) (by simp; omega) ?_; intro w3 hown3 hgrow3))
    obtain ⟨gS, hgS⟩ : ∃ g, g = wc.heap.size := ⟨_, rfl⟩
    have hrow0 : RowB (w2.setCell ⟨gS, q0, none⟩ (.bool true)) gS 4 n (fun i => i == q0) := by rw [hgS]; exact (hrow.set hq0n true).congr (fun i _ => by by_cases e : i = q0 <;> simp [e])
    have k2 : (w2.setCell ⟨gS, q0, none⟩ (.bool true)).heap[w.heap.size]? = some (.cells #[.int .i64 s, .int .i64 f, .int .i64 o, .slice A js.length c, .int .i64 me, .int .i64 xf, .int .i64 yo] 48 (0, 0)) := (Below.heap_setCell _ _ _ _ (by dsimp only; omega)).trans ((hgrow.block w.heap.size (by omega) (by simp)).trans k0)
    have hB2 : Below w.heap.size w (w2.setCell ⟨gS, q0, none⟩ (.bool true)) := (hB0.grown hgrow (by omega) (fun k e => by cases e)).setCell (by dsimp only; omega) _
    have hR3 : RowsQ w3 (w2.heap.size + 2) (w2.heap.size + 1) 23 3 n (fun _ => []) (.slice (some ⟨w2.heap.size, 0, none⟩) 1 1) := RowsQ.made hown3 (by simp) (by omega) (by simp [Value.ownBlock])
    rw [← hgS] at zz hgrow3 hz1
    rw [← hgS]
    obtain ⟨gq0, hgq0⟩ : ∃ g, g = w2.heap.size := ⟨_, rfl⟩
    obtain ⟨W2, hW2d⟩ : ∃ W2, W2 = w2.setCell ⟨gS, q0, none⟩ (.bool true) := ⟨_, rfl⟩
    have zW2 : W2.heap.size = gq0 := by rw [hW2d, hgq0]; simp
    rw [← hW2d] at hrow0 k2 hB2 hgrow3
    rw [← hgq0] at hR3 zz
    rw [← hgq0]
    clear hW2d hgq0 hrow d1 d2 hown hgrow hown3 k0 hB0 hgS
    have hrow3 := (hrow0.alloc (.cells #[.int .i64 q0] 3)).grown hgrow3 (by simp)
    have k3 := (hgrow3.block w.heap.size (by simp; omega) (by simp)).trans ((Below.heap_alloc _ (.cells #[.int .i64 q0] 3) _ (by omega)).trans k2)
    have hB3 := (hB2.alloc (by omega) (.cells #[.int .i64 q0] 3)).grown hgrow3 (by simp; omega) (fun k e => by cases e)
    have hO3 : w3.ownsRow (gS + 1) 3 1 (.slice (some ⟨gq0, 0, none⟩) 1 1) 1 (natS ([] ++ [q0])) := ⟨rfl, .inr ⟨gq0, 1, #[.int .i64 (q0 : Int)], rfl, by omega, (hgrow3.block gq0 (by simp; omega) (by simp)).trans (by rw [← zW2]; exact heap_alloc_at _ _ _ rfl), Nat.le_refl _, by decide, rfl, rfl⟩⟩
    have z3 : gq0 + 2 ≤ w3.heap.size := by have := hR3.lt; omega
    have hS3 : Srch (nxS s o js me) f.toNat (okQ s js) q0 (fun i => i == q0) [] [q0] := Srch.start HOK.out
    have hP3 := PredQ.zero (nxS s o js me) (wonQ s) f.toNat 0
    clear hgrow3 hrow0 k2 hB2 zW2
    go_loopw [9, 11, 12, 13, 14, 15] (fun v k _ _ _ _ wr => ∃ (D T : List Nat) (F : Nat → Bool) (Lst : Nat → List Nat) (d L : Nat) (u1 u2 : Int), D.length = d ∧ (D ++ T).length = L ∧ k = .int .i64 (d : Int) ∧ wr.ownsRow (gS + 1) 3 1 v L (natS (D ++ T)) ∧ RowB wr gS 4 n F ∧ RowsQ wr (gq0 + 2) (gq0 + 1) 23 3 n Lst v ∧ PredQ (nxS s o js me) (wonQ s) f.toNat D 0 0 Lst ∧ Srch (nxS s o js me) f.toNat (okQ s js) q0 F D T ∧
      wr.heap[w.heap.size]? = some (.cells #[.int .i64 s, .int .i64 f, .int .i64 o, .slice A js.length c, .int .i64 me, .int .i64 u1, .int .i64 u2] 48 (0, 0)) ∧ Below w.heap.size w wr ∧ gq0 + 2 ≤ wr.heap.size) (fun _ k _ _ _ _ _ => n - (intOf k).toNat)
    case atStart => exact ⟨[], [q0], _, _, 0, 1, _, _, rfl, rfl, rfl, hO3, hrow3, hR3, hP3, hS3, k3, hB3, z3⟩
    case round =>
      clear hO3 hrow3 hR3 hP3 hS3 k3 hB3 z3
      obtain ⟨D, T, F, Lst, d, L, u1, u2, hd, hL, rfl, hown, hrow, hR, hP, hSr, hk, hB, hsz⟩ := hrel
      have hoklt : ∀ z, okQ s js z → z < n := fun z hz => by have := okQ_lt hz; rw [← HW.out, ← HN.out] at this; exact this
      have hlen := hSr.len hoklt
      have HLT := Lib.hid hoklt; clear hoklt
      have hL2 : L = d + T.length := by rw [← hL, ← hd]; simp
      have hpos : 0 < L := by
        rcases (hSr.seen q0).1 hSr.has with h | h
        · have := List.length_pos_of_mem h; omega
        · have := List.length_pos_of_mem h; omega
      have hownlt := own_ltS hown
      obtain ⟨gq, cq, rfl, hgq, hcq, hlq, hcell⟩ := own_open hown hL hpos
      have qb := fun i => cell_of_row wr w.heap.size i _ _ _ hk
      have fb := fun i => frozen_row (i := i) hk
      cases T with
      | nil =>
        obtain rfl : L = d := by simpa using hL2
        have t1 : ¬ (L : Int) < (L : Int) := by omega
        have hLn : L ≤ n := by simp at hlen; omega
        have hQm := fun z => (hSr.seen z).symm.trans (hSr.all z)
        simp only [List.not_mem_nil, or_false] at hQm
        have hQa := hSr.apart
        simp only [List.append_nil] at hQa hown hL
        have HQM := Lib.hid hQm; have HQA := Lib.hid hQa; have HQL := Lib.hid hL; have HP := Lib.hid hP
        have hR2 := hR.rows
        clear hSr hlen hpos hd hL2 hQm hQa hP hR hrow fb
        go_wp2_with (at_make; refine wpList_make_full _ rfl _ _ 23 rfl wr.heap.size 3 j0 _ 1 Try.underlying23 hji hjz0 hjz1 _ _ _ _ n rfl rfl rfl rfl (by rw [hjz2]; omega) (by unfold maxLen; omega) (Nat.le_refl _) ?_; intro w2 hown2 hgrow2)
        obtain ⟨wq, hwq⟩ : ∃ wq : World, wq = wr := ⟨_, rfl⟩
        subst hwq
        have hF2 := madeI hown2 rfl
        obtain ⟨gF, hgF⟩ : ∃ g, g = wq.heap.size := ⟨_, rfl⟩
        rw [← hgF] at hF2
        rw [← hgF]
        have hB2 := hB.grown hgrow2 hB.size (fun k e => by cases e)
        have hU2 : ∀ b, b < gF → b ≠ w.heap.size → w2.heap[b]? = wq.heap[b]? := fun b h1 _ => hgrow2.block b (by omega) (by simp)
        have hltb : w.heap.size < gF := by have := heap_lt hk; omega
        have hk2 := (hgrow2.block w.heap.size (by omega) (by simp)).trans hk
        have hgqF : gq < gF := by omega
        have hgbF : gq0 + 1 < gF := by omega
        have hgqb : gq ≠ w.heap.size := by omega
        have HQCEL := Lib.hid (show ∀ k (hk : k < D.length), wq.cell? ⟨gq, k, none⟩ = some (.int .i64 ((D[k] : Nat) : Int)) from fun k hk => by
          have := hcell k (by simpa using hk)
          simpa using this)
        have HLK := Lib.hid (fun (y : Nat) (hy : y < n) => hR2.lookS hy)
        have HGF := Lib.hid hgF
        have HQON := Lib.hid (show ∀ z, Rch (nxS s o js me) f.toNat q0 z → okQ s js z ∧ z < n from fun z hz => by
          have : okQ s js z := by
            induction hz with
            | refl => exact HOK.out
            | step _ h1 _ ih => exact okQ_nxS HG.out ih h1
          exact ⟨this, HLT.out z this⟩)
        have s2 : gF + 1 ≤ w2.heap.size := hF2.lt
        clear hown2 hgrow2 hown hR2 hB hk hsz hgF t1 qb hgq hlq hcell
        go_loopw [17, 154] (fun _ i wi => ∃ k : Nat, k ≤ n ∧ i = .int .i64 (k : Int) ∧ RowI wi gF 3 n (fun i => if i < k then -1 else 0) ∧ (∀ b, b < gF → b ≠ w.heap.size → wi.heap[b]? = wq.heap[b]?) ∧ wi.heap[w.heap.size]? = some (.cells #[.int .i64 s, .int .i64 f, .int .i64 o, .slice A js.length c, .int .i64 me, .int .i64 u1, .int .i64 u2] 48 (0, 0)) ∧ Below w.heap.size w wi ∧ gF + 1 ≤ wi.heap.size) (fun _ i _ => n - (intOf i).toNat)
        case atStart => exact ⟨0, Nat.zero_le _, rfl, hF2.congr (fun i _ => by simp), hU2, hk2, hB2, s2⟩
        case round =>
          clear hF2 hU2 hk2 hB2 s2
          obtain ⟨k, hkn, rfl, hrow, hU, hk, hB, hsz⟩ := hrel
          by_cases hlt : k < n
          · have h3 : (k : Int) < (n : Int) := by omega
            have d1 := hrow.cell hlt
            have d2 := hrow.free k
            have HU := Lib.hid hU; clear hU
            go_wp2
            go_roundw
            case rel => exact ⟨k + 1, hlt, by go_num, (hrow.set hlt (-1)).congr (fun i _ => by by_cases e : i = k; (subst e; simp); (have e2 : (i < k + 1) = (i < k) := by apply propext; omega); simp [e, e2]), fun b h1 h2 => (Below.heap_setCell _ _ _ _ (by dsimp only; omega)).trans (HU.out b h1 h2), (Below.heap_setCell _ _ _ _ (by dsimp only; omega)).trans hk, hB.setCell (by dsimp only; omega) _, by simpa using hsz⟩
            case measure => simp [intOf]; omega
          · have h3 : ¬ (k : Int) < (n : Int) := by omega
            obtain rfl : n = k := by omega
            have hrow3 := hrow.congr (h' := farW (srcF n (srcQ (wonQ s) who D 0)) (srcL (srcQ (wonQ s) who D 0))) (fun i hi => by rw [farW_src hi, if_pos hi]; simp [srcQ])
            have HU := Lib.hid hU
            clear hrow hU
            go_wp2_with fail
            go_loopw [18, 20, 163] (fun v _ i wi => ∃ (k Z : Nat) (u1 u2 : Int), k ≤ L ∧ i = .int .i64 (k : Int) ∧ (srcQ (wonQ s) who D k).length = Z ∧ wi.ownsRow (gF + 1) 3 1 v Z (natS (srcQ (wonQ s) who D k)) ∧ RowI wi gF 3 n (farW (srcF n (srcQ (wonQ s) who D k)) (srcL (srcQ (wonQ s) who D k))) ∧ (∀ b, b < gF → b ≠ w.heap.size → wi.heap[b]? = wq.heap[b]?) ∧ wi.heap[w.heap.size]? = some (.cells #[.int .i64 s, .int .i64 f, .int .i64 o, .slice A js.length c, .int .i64 me, .int .i64 u1, .int .i64 u2] 48 (0, 0)) ∧ Below w.heap.size w wi ∧ gF + 1 ≤ wi.heap.size) (fun _ _ i _ => L - (intOf i).toNat)
            case atStart => exact ⟨0, 0, u1, u2, Nat.zero_le _, rfl, by simp [srcQ], World.ownsRow_nil _ _ _ _, hrow3, HU.out, hk, hB, hsz⟩
            case round =>
              clear hrow3 HU hk hB hsz
              obtain ⟨k, Z, u1, u2, hkL, rfl, hZ, hown, hrow, hU, hk, hB, hsz⟩ := hrel
              by_cases hlt : k < L
              · have h3 : (k : Int) < (L : Int) := by omega
                have hkD : k < D.length := by rw [HQL.out]; exact hlt
                have cq := (World.cell?_of_block (a := ⟨gq, k, none⟩) (hU gq hgqF hgqb)).trans (HQCEL.out k hkD)
                obtain ⟨x, hx⟩ : ∃ x, D[k] = x := ⟨_, rfl⟩
                rw [hx] at cq
                have hrx := (HQM.out x).1 (by rw [← hx]; exact List.getElem_mem _)
                obtain ⟨hokx, hxn⟩ := HQON.out x hrx
                unfold okQ at hokx
                rw [← HW.out] at hokx
                have e1 : (x : Int) / 2 / (W : Int) = ((Dx W x : Nat) : Int) := by unfold Dx; simp
                have e2 : (x : Int) / 2 % (W : Int) = ((Dy W x : Nat) : Int) := by unfold Dy; simp
                have hwq : wonQ s x = wonR s (Dx W x : Nat) (Dy W x : Nat) := by unfold wonQ; rw [← HW.out]
                obtain ⟨dx, hdx⟩ : ∃ n, Dx W x = n := ⟨_, rfl⟩
                obtain ⟨dy, hdy⟩ : ∃ n, Dy W x = n := ⟨_, rfl⟩
                rw [hdx] at e1 hwq
                rw [hdy] at e2 hwq
                have hxi : (x : Int) < (n : Int) := by omega
                have HX := Lib.hid hx; have HWQ := Lib.hid hwq; have HU := Lib.hid hU; have HZ := Lib.hid hZ
                have qb := fun i => cell_of_row wr w.heap.size i _ _ _ hk
                have fb := fun i => frozen_row (i := i) hk
                clear hx hwq hdx hdy hokx hU hZ
                go_wp2_with fail
                refine (raWon_any _ _ _ _ _ _ _ _ _ _).mono ?_
                rintro e w5 ⟨rfl, hx5⟩
                have hltw : w.heap.size < wr.heap.size := by omega
                have k5 : w5.heap[w.heap.size]? = some (.cells #[.int .i64 s, .int .i64 f, .int .i64 o, .slice A js.length c, .int .i64 me, .int .i64 dx, .int .i64 dy] 48 (0, 0)) := (hx5.block _ (by simp; omega)).trans (heap_set _ _ _ _ _ _ (heap_set _ _ _ _ _ _ hk))
                have hB5 := ((hB.setCell (p := ⟨w.heap.size, 5, none⟩) (by dsimp only; omega) (.int .i64 dx)).setCell (p := ⟨w.heap.size, 6, none⟩) (by dsimp only; omega) (.int .i64 dy)).trans (hx5.mono (by simp; omega))
                have hrow5 := ((hrow.far (p := ⟨w.heap.size, 5, none⟩) (by dsimp only; omega) (.int .i64 dx)).far (p := ⟨w.heap.size, 6, none⟩) (by dsimp only; omega) (.int .i64 dy)).below hx5 (by simp; omega)
                have hown5 := own_below (ownsRow_setCell_below (ownsRow_setCell_below hown (a := ⟨w.heap.size, 5, none⟩) (by dsimp only; omega) (.int .i64 dx)) (a := ⟨w.heap.size, 6, none⟩) (by dsimp only; omega) (.int .i64 dy)) hx5
                have hU5 := Lib.hid (show ∀ b, b < gF → b ≠ w.heap.size → w5.heap[b]? = _ from fun b h1 h2 => (hx5.block b (by simp; omega)).trans ((Below.heap_setCell _ _ _ _ (by dsimp only; omega)).trans ((Below.heap_setCell _ _ _ _ (by dsimp only; omega)).trans (HU.out b h1 h2))))
                have hs5 : gF + 1 ≤ w5.heap.size := by have := hx5.size; simp at this; omega
                have hZk : Z ≤ 4000 := by rw [← HZ.out]; have := srcQ_len (wonQ s) who D k; omega
                clear hrow hown hk hB hsz qb fb cq hx5
                by_cases hwx : wonR s dx dy = who
                · have HSN := Lib.hid (show srcQ (wonQ s) who D (k + 1) = srcQ (wonQ s) who D k ++ [x] by rw [srcQ_snoc _ _ _ _ hkD, HX.out, HWQ.out, if_pos hwx])
                  have d1 := hrow5.cell hxn
                  have d2 := hrow5.free x
                  have hrow6 := ((hrow5.set hxn 0).congr (h' := farW (srcF n (srcQ (wonQ s) who D (k + 1))) (srcL (srcQ (wonQ s) who D (k + 1)))) (fun i hi => by
                    rw [farW_src hi, farW_src hi, HSN.out]
                    by_cases e : i = x <;> simp [e])).alloc (.cells #[.int .i64 (x : Int)] 3)
                  have hown6 := (ownsRow_setCell_below hown5 (a := ⟨gF, x, none⟩) (by dsimp only; omega) (.int .i64 0)).alloc (.cells #[.int .i64 (x : Int)] 3)
                  have hB6 := (hB5.setCell (p := ⟨gF, x, none⟩) (by dsimp only; omega) (.int .i64 0)).alloc (by simp; omega) (.cells #[.int .i64 (x : Int)] 3)
                  have hwb : (wonR s dx dy == who) = true := by simp [hwx]
                  clear hrow5 hown5 hB5 hwx
                  go_wp2_with (at_builtin; go_loud (refine wpList_append_own _ rfl _ _ 23 rfl (gF + 1) 3 j0 (.int .i64 0) 1 8 Try.underlying23 hji hjz0 hjz1 hjz2 rfl (by decide) _ _ _ rfl hown6 ⟨w5.heap.size, 0, none⟩ 1 1 [.int .i64 (x : Int)] rfl rfl (cell_newS _ _ _ (by simp)) (one_int _) (by unfold maxLen; omega) (by omega) (by simp; omega) ?_; intro v1 w7 hown7 hg7 _))
                  have hs7 := hg7.size
                  simp only [World.size_alloc, World.size_setCell] at hs7
                  have hf := own_from hown6
                  go_roundw
                  case rel =>
                    refine ⟨k + 1, Z + 1, dx, dy, hlt, by go_num, by rw [HSN.out, List.length_append, HZ.out]; rfl, by rw [HSN.out, natS_snoc]; exact hown7, hrow6.grown hg7 (fun e => by have := hf _ e.symm; omega), fun b h1 h2 => ?_, ?_, hB6.grown hg7 (by simp; omega) (fun q e => by have := hf _ e; omega), by omega⟩
                    · exact (hg7.block b (by simp; omega) (fun e => by have := hf _ e.symm; omega)).trans ((Below.heap_alloc _ _ _ (by simp; omega)).trans ((Below.heap_setCell _ _ _ _ (by dsimp only; omega)).trans (hU5.out b h1 h2)))
                    · exact (hg7.block w.heap.size (by simp; omega) (fun e => by have := hf _ e.symm; omega)).trans ((Below.heap_alloc _ _ _ (by simp; omega)).trans ((Below.heap_setCell _ _ _ _ (by dsimp only; omega)).trans k5))
                  case measure => simp [intOf]; omega
                · have HSN := Lib.hid (show srcQ (wonQ s) who D (k + 1) = srcQ (wonQ s) who D k by rw [srcQ_snoc _ _ _ _ hkD, HX.out, HWQ.out, if_neg hwx, List.append_nil])
                  have hwb : (wonR s dx dy == who) = false := by simp [hwx]
                  clear hwx
                  go_wp2
                  go_roundw
                  case rel => exact ⟨k + 1, Z, dx, dy, hlt, by go_num, by rw [HSN.out]; exact HZ.out, by rw [HSN.out]; exact hown5, by rw [HSN.out]; exact hrow5, hU5.out, k5, hB5, hs5⟩
                  case measure => simp [intOf]; omega
              · have h3 : ¬ (k : Int) < (L : Int) := by omega
                obtain rfl : L = k := by omega
                obtain ⟨hBf, hLst, hLB⟩ := eR_start (nx := nxS s o js me) (won := wonQ s) (m := f.toNat) (who := who) (q0 := q0) (R := n) (ok := fun z => z = n ∨ okQ s js z) D HQA.out HQM.out (fun z hz => by have := (HQON.out z hz).2; omega) (.inl rfl) (fun z hz => .inr (HQON.out z hz).1)
                rw [HQL.out] at hBf hLst hLB
                have HPA := Lib.hid (fun (x : Nat) (hx : x ≠ n) (y : Nat) => HP.out.all (who := who) (y := x) HQM.out hx y)
                have HPL := Lib.hid HP.out.2
                have HOKN := Lib.hid (show ∀ z, (z = n ∨ okQ s js z) → z < n + 1 from fun z hz => by
                  rcases hz with rfl | hz
                  · omega
                  · have := HLT.out z hz; omega)
                have HU := Lib.hid hU; have HLST := Lib.hid hLst; have HLB := Lib.hid hLB
                rw [hZ] at hLB
                have HLB2 := Lib.hid hLB
                clear hU hLst hLB HP
                go_wp2_with fail
                go_loopw [18, 21, 23] (fun v k _ wi => ∃ (Dd T : List Nat) (F : Nat → Bool) (Lf : Nat → Nat) (d Lq : Nat), Dd.length = d ∧ (Dd ++ T).length = Lq ∧ k = .int .i64 (d : Int) ∧ wi.ownsRow (gF + 1) 3 1 v Lq (natS (Dd ++ T)) ∧ RowI wi gF 3 n (farW F Lf) ∧ Bfs (eR (nxS s o js me) (wonQ s) f.toNat who q0 n) (fun z => z = n ∨ okQ s js z) n F Lf (n :: Dd) T ∧ (∀ z, F z = true → Least (fun t => Way (eR (nxS s o js me) (wonQ s) f.toNat who q0 n) n t z) (Lf z)) ∧ (∀ z, Lf z ≤ Lq) ∧
                  (∀ b, b < gF → b ≠ w.heap.size → wi.heap[b]? = wq.heap[b]?) ∧ Below w.heap.size w wi ∧ gF + 1 ≤ wi.heap.size) (fun _ k _ _ => n - (intOf k).toNat)
                case atStart => exact ⟨[], _, _, _, 0, Z, rfl, hZ, rfl, hown, hrow, hBf, HLST.out, HLB2.out, HU.out, hB, hsz⟩
                case round =>
                  clear hown hrow hBf HLST HLB HLB2 HU hB hsz hk hZ h3
                  obtain ⟨Dd, T, F, Lf, d, Lq, hd, hLq, rfl, hown, hrow, hSr, hLst, hLB, hU, hB, hsz⟩ := hrel
                  have hlen := hSr.len HOKN.out
                  simp only [List.length_cons] at hlen
                  have hL2 : Lq = d + T.length := by rw [← hLq, ← hd]; simp
                  obtain ⟨Ab, cb, rfl⟩ := own_sliceS hown
                  cases T with
                  | nil =>
                    obtain rfl : Lq = d := by simpa using hL2
                    have t1 : ¬ (Lq : Int) < (Lq : Int) := by omega
                    have hLn2 : Lq ≤ n := by simp at hlen; omega
                    have HALL := Lib.hid (fun z => hSr.all hLst z)
                    have HLST := Lib.hid hLst; have HLB := Lib.hid hLB
                    clear hown hSr hlen hd hLq hL2 hLst hLB hU
                    go_wp2
                    go_ret2
                    refine ⟨gF, F, Lf, D, ?_, by omega, ?_, fun z hz => ⟨fun hF => ?_, fun hF => ?_⟩, fun z => ?_, HQA.out, HQM.out, hB⟩
                    · rw [← HW.out, ← HN.out, HQL.out]
                      rfl
                    · rw [← HW.out, ← HN.out]; exact hrow
                    · exact least_eR (fun z hz => by have := (HQON.out z hz).2; omega) hz (HLST.out z hF)
                    · rcases HALL.out z with ⟨h1, _⟩ | ⟨_, h2⟩
                      · rw [h1] at hF; cases hF
                      · exact none_eR (fun z hz => by have := (HQON.out z hz).2; omega) hz h2
                    · have := HLB.out z; omega
                  | cons x T =>
                    have t1 : (d : Int) < (Lq : Int) := by simp at hL2; omega
                    obtain ⟨gb, cb', heq, hgb, hcb, hlb, hcell⟩ := own_open hown hLq (by simp at hL2; omega)
                    have cx := hcell d (by rw [hLq]; simp at hL2; omega)
                    have ex : (Dd ++ x :: T)[d]'(by rw [hLq]; simp at hL2; omega) = x := by subst hd; simp
                    rw [ex] at cx
                    have hxne : x ≠ n := fun e => by
                      have := hSr.apart
                      rw [List.cons_append, List.nodup_cons] at this
                      exact this.1 (by rw [← e]; simp)
                    have hxn : x < n := by have := HOKN.out x (hSr.on x (.inr (by simp))).1; omega
                    have ix : (x : Int) < (n : Int) := by omega
                    injection heq with heq1 heq2 heq3
                    subst heq1 heq3
                    obtain ⟨Ax, cxx, hbx, hrx⟩ := HLK.out x hxn
                    have hbx' : wr.cell? ⟨gq0 + 1, x, none⟩ = some (.slice Ax (Lst x).length cxx) := (World.cell?_of_block (a := ⟨gq0 + 1, x, none⟩) (hU (gq0 + 1) hgbF (by omega))).trans hbx
                    have hRP : ∀ y, y ∈ Lst x ↔ (eR (nxS s o js me) (wonQ s) f.toNat who q0 n) x y := HPA.out x hxne
                    have hRl := HPL.out x
                    generalize Lst x = R at hbx' hbx hrx hRP hRl
                    obtain ⟨m, hm⟩ : ∃ m, R.length = m := ⟨_, rfl⟩
                    rw [hm] at hbx' hRl
                    have hDL := HQL.out
                    have hRlen : m ≤ 40000 := by omega
                    have HRX := Lib.hid hrx; have HRP := Lib.hid hRP; have HM := Lib.hid hm; have HD := Lib.hid hd; have HL := Lib.hid hLq
                    have HLST := Lib.hid hLst; have HLB := Lib.hid hLB; have HU := Lib.hid hU; have HNE := Lib.hid hxne
                    clear hcell ex hbx hrx hRP hRl hm hL2 hLq hd hlen hLst hLB hU hDL hxne hcb
                    go_wp2_with fail
                    go_loopw [18, 23, 203] (fun v _ i wj => ∃ (p : Nat) (T : List Nat) (F : Nat → Bool) (Lf : Nat → Nat) (Lq : Nat), p ≤ m ∧ i = .int .i64 (p : Int) ∧ (Dd ++ x :: T).length = Lq ∧ wj.ownsRow (gF + 1) 3 1 v Lq (natS (Dd ++ x :: T)) ∧ RowI wj gF 3 n (farW F Lf) ∧ Bfs (eR (nxS s o js me) (wonQ s) f.toNat who q0 n) (fun z => z = n ∨ okQ s js z) n F Lf (n :: Dd) (x :: T) ∧ (∀ z, F z = true → Least (fun t => Way (eR (nxS s o js me) (wonQ s) f.toNat who q0 n) n t z) (Lf z)) ∧ (∀ z, Lf z ≤ Lq) ∧
                      (∀ r (hr : r < R.length), r < p → F R[r] = true) ∧ (∀ b, b < gF → b ≠ w.heap.size → wj.heap[b]? = wq.heap[b]?) ∧ Below w.heap.size w wj ∧ gF + 1 ≤ wj.heap.size) (fun _ _ i _ => m - (intOf i).toNat)
                    case atStart => exact ⟨0, T, F, Lf, Lq, Nat.zero_le _, rfl, HL.out, hown, hrow, hSr, HLST.out, HLB.out, fun r hr h => by omega, HU.out, hB, hsz⟩
                    case round =>
                      clear hown hrow hSr HLST HLB HU hB hsz hbx' cx t1 HL hgb hlb
                      obtain ⟨p, T, F, Lf, Lq, hpm, rfl, hLq, hown, hrow, hSr, hLst, hLB, hF, hU, hB, hsz⟩ := hrel
                      have hd := HD.out
                      have hlen := hSr.len HOKN.out
                      simp only [List.length_cons] at hlen
                      have hL2 : Lq = d + (T.length + 1) := by rw [← hLq, ← hd]; simp
                      have hLn : Lq ≤ n := by omega
                      have hdl : d < n := by omega
                      by_cases hpl : p < m
                      · have h4 : (p : Int) < (m : Int) := by omega
                        have hpR : p < R.length := by rw [HM.out]; exact hpl
                        obtain ⟨b, rfl, hb1, hb2, hcb⟩ := HRX.out p hpR
                        have hmem : R[p] ∈ R := List.getElem_mem hpR
                        have hry := (HRP.out _).1 hmem
                        obtain ⟨y, hy⟩ : ∃ y, R[p] = y := ⟨_, rfl⟩
                        rw [hy] at hcb hry
                        have hreach : Rch (nxS s o js me) f.toNat q0 y := by
                          rcases hry with ⟨e, _⟩ | ⟨_, h, _⟩
                          · exact absurd e HNE.out
                          · exact h
                        obtain ⟨hoky, hyn⟩ := HQON.out y hreach
                        have cy : wr.cell? ⟨b, p, none⟩ = some (.int .i64 (y : Int)) := (World.cell?_of_block (a := ⟨b, p, none⟩) (hU b (by have := HGF.out; omega) (by omega))).trans hcb
                        have iy : (y : Int) < (n : Int) := by omega
                        obtain ⟨gb, cb', rfl, hgb, hcb2, hlb, hcell⟩ := own_open hown hLq (by omega)
                        have cx := hcell d (by rw [hLq]; omega)
                        have ex : (Dd ++ x :: T)[d]'(by rw [hLq]; omega) = x := by subst hd; simp
                        rw [ex] at cx
                        have t1 : (d : Int) < (Lq : Int) := by omega
                        have hFx : F x = true := (hSr.seen x).2 (.inr (by simp))
                        have dx := hrow.cell hxn
                        rw [farW_yes hFx] at dx
                        have hLx := hLB x
                        obtain ⟨vx, hvx⟩ : ∃ vx : Int, ((Lf x : Nat) : Int) - 1 = vx := ⟨_, rfl⟩
                        rw [hvx] at dx
                        have hwr : IntKind.i64.wrap (vx + 1) = ((Lf x : Nat) : Int) := by rw [IntWalk.i64_in _ (by omega)]; omega
                        have dy := hrow.cell hyn
                        have fy := hrow.free y
                        have HLQ := Lib.hid hLq; have HF := Lib.hid hF; have HU := Lib.hid hU; have HY := Lib.hid hy; have HRY := Lib.hid hry; have HRE := Lib.hid hreach; have HOKY := Lib.hid hoky
                        clear hcell ex hcb hmem hd hLq hF hU hy hL2 hlen hvx hry hreach hoky
                        cases hFy : F y
                        · rw [farW_no hFy] at dy
                          have HLST := Lib.hid (fun z hz => hSr.push_least HRY.out hFy hLst z hz)
                          have HSR := Lib.hid (hSr.push HRY.out (.inr HOKY.out) hFy)
                          have HLB := Lib.hid (show ∀ z, setN Lf y (Lf x + 1) z ≤ Lq + 1 by intro z; unfold setN; have := hLB z; split <;> omega)
                          have hrow6 := ((hrow.set hyn ((Lf x : Nat) : Int)).congr (h' := farW (setB F y) (setN Lf y (Lf x + 1))) (fun i _ => farW_set i)).alloc (.cells #[.int .i64 (y : Int)] 3)
                          have hown6 := (ownsRow_setCell_below hown (a := ⟨gF, y, none⟩) (by dsimp only; omega) (.int .i64 ((Lf x : Nat) : Int))).alloc (.cells #[.int .i64 (y : Int)] 3)
                          have hB6 := (hB.setCell (p := ⟨gF, y, none⟩) (by dsimp only; omega) (.int .i64 ((Lf x : Nat) : Int))).alloc (by simp; omega) (.cells #[.int .i64 (y : Int)] 3)
                          have hU6 := Lib.hid (show ∀ b, b < gF → b ≠ w.heap.size → ((wr.setCell ⟨gF, y, none⟩ (.int .i64 ((Lf x : Nat) : Int))).alloc (.cells #[.int .i64 (y : Int)] 3)).heap[b]? = wq.heap[b]? from fun b h1 h2 => (Below.heap_alloc _ _ _ (by simp; omega)).trans ((Below.heap_setCell _ _ _ _ (by dsimp only; omega)).trans (HU.out b h1 h2)))
                          have HFX := Lib.hid hFx; have HFY := Lib.hid hFy
                          clear hrow hown hSr hLst hLB hFx hFy HU
                          go_wp2_with (at_builtin; go_loud (refine wpList_append_own _ rfl _ _ 23 rfl (gF + 1) 3 j0 (.int .i64 0) 1 8 Try.underlying23 hji hjz0 hjz1 hjz2 rfl (by decide) _ _ _ rfl hown6 ⟨wr.heap.size, 0, none⟩ 1 1 [.int .i64 (y : Int)] rfl rfl (cell_newS _ _ _ (by simp)) (one_int _) (by unfold maxLen; omega) (by omega) (by simp; omega) ?_; intro v1 w7 hown7 hg7 _))
                          have hf := own_from hown6
                          have hs7 := hg7.size
                          simp only [World.size_alloc, World.size_setCell] at hs7
                          go_roundw
                          case rel =>
                            refine ⟨p + 1, T ++ [y], setB F y, setN Lf y (Lf x + 1), Lq + 1, hpl, by go_num, by rw [← HLQ.out]; simp; omega, by rw [← List.cons_append, ← List.append_assoc, natS_snoc]; exact hown7, hrow6.grown hg7 (fun e => by have := hf _ e.symm; omega), HSR.out, HLST.out, HLB.out, fun r hr hrp => ?_, fun b h1 h2 => ?_, hB6.grown hg7 (by simp; omega) (fun j e => by have := hf _ e; omega), by omega⟩
                            · unfold setB
                              by_cases e : R[r] = y
                              · rw [if_pos e]
                              · rw [if_neg e]
                                by_cases e2 : r = p
                                · subst e2; exact absurd HY.out e
                                · exact HF.out r hr (by omega)
                            · exact (hg7.block b (by simp; omega) (fun e => by have := hf _ e.symm; omega)).trans (hU6.out b h1 h2)
                          case measure => simp [intOf]; omega
                        · have hy1 := (least_eR (fun z hz => by have := (HQON.out z hz).2; omega) HRE.out (hLst y hFy)).1
                          rw [farW_yes hFy] at dy
                          have hLy := hLB y
                          obtain ⟨vy, hvy⟩ : ∃ vy : Int, ((Lf y : Nat) : Int) - 1 = vy := ⟨_, rfl⟩
                          rw [hvy] at dy
                          have t2 : ¬ vy < 0 := by omega
                          have HFX := Lib.hid hFx; have HFY := Lib.hid hFy; have HLST := Lib.hid hLst; have HLB := Lib.hid hLB
                          clear hFx hFy hLst hLB hvy
                          go_wp2
                          go_roundw
                          case rel =>
                            refine ⟨p + 1, T, F, Lf, Lq, hpl, by go_num, HLQ.out, hown, hrow, hSr, HLST.out, HLB.out, fun r hr hrp => ?_, HU.out, hB, hsz⟩
                            by_cases e2 : r = p
                            · subst e2; rw [HY.out]; exact HFY.out
                            · exact HF.out r hr (by omega)
                          case measure => simp [intOf]; omega
                      · have h4 : ¬ (p : Int) < (m : Int) := by omega
                        obtain rfl : m = p := by omega
                        have HSR := Lib.hid (hSr.finish fun y hy => by
                          obtain ⟨r, hr, e⟩ := List.getElem_of_mem ((HRP.out y).2 hy)
                          rw [← e]
                          exact hF r hr (by rw [← HM.out]; exact hr))
                        have HLQ := Lib.hid hLq; have HLST := Lib.hid hLst; have HLB := Lib.hid hLB; have HU := Lib.hid hU
                        clear hSr hLq hLst hLB hF hU hd hL2 hlen
                        go_wp2
                        go_roundw
                        case rel => exact ⟨Dd ++ [x], T, F, Lf, d + 1, Lq, by rw [← HD.out]; simp, by rw [← HLQ.out]; simp, by go_num, by simpa using hown, hrow, by simpa using HSR.out, HLST.out, HLB.out, HU.out, hB, hsz⟩
                        case measure => simp [intOf]; omega
      | cons x T =>
        --[[
        have t1 : (d : Int) < (L : Int) := by simp at hL2; omega
        have cx := hcell d (by simp at hL2; omega)
        have ex : (D ++ x :: T)[d]'(by simp at hL2; omega) = x := by subst hd; simp
        rw [ex] at cx
        have hokx := (hSr.on x (.inr (by simp))).1
        have hxn := HLT.out x hokx
        have hokx2 := hokx
        unfold okQ at hokx2
        rw [← HW.out] at hokx2
        have e1 : (x : Int) / 2 / (W : Int) = ((Dx W x : Nat) : Int) := by unfold Dx; simp
        have e2 : (x : Int) / 2 % (W : Int) = ((Dy W x : Nat) : Int) := by unfold Dy; simp
        have hwq : wonQ s x = wonR s (Dx W x : Nat) (Dy W x : Nat) := by unfold wonQ; rw [← HW.out]
        obtain ⟨dx, hdx⟩ : ∃ n, Dx W x = n := ⟨_, rfl⟩
        obtain ⟨dy, hdy⟩ : ∃ n, Dy W x = n := ⟨_, rfl⟩
        rw [hdx] at e1 hokx2 hwq
        rw [hdy] at e2 hokx2 hwq
        have HDX := Lib.hid hdx; have HDY := Lib.hid hdy
        have HON := Lib.hid hokx; have HON2 := Lib.hid hokx2
        have HD := Lib.hid hd; have HL := Lib.hid hL; have HWQ := Lib.hid hwq
        clear hcell hpos hL2 hL hd ex hdx hdy hokx hokx2 hwq
        go_wp2_with fail
        refine (raWon_any _ _ _ _ _ _ _ _ _ _).mono ?_
        rintro e w5 ⟨rfl, hx5⟩
        have k5 : w5.heap[w.heap.size]? = some (.cells #[.int .i64 s, .int .i64 f, .int .i64 o, .slice A js.length c, .int .i64 me, .int .i64 dx, .int .i64 dy] 48 (0, 0)) := (hx5.block _ (by simp; omega)).trans (heap_set _ _ _ _ _ _ (heap_set _ _ _ _ _ _ hk))
        have hB5 := ((hB.setCell (p := ⟨w.heap.size, 5, none⟩) (by dsimp only; omega) (.int .i64 dx)).setCell (p := ⟨w.heap.size, 6, none⟩) (by dsimp only; omega) (.int .i64 dy)).trans (hx5.mono (by simp; omega))
        have hrow5 := ((hrow.far (p := ⟨w.heap.size, 5, none⟩) (by dsimp only; omega) (.int .i64 dx)).far (p := ⟨w.heap.size, 6, none⟩) (by dsimp only; omega) (.int .i64 dy)).below hx5 (by simp; omega)
        have hown5 := own_below (ownsRow_setCell_below (ownsRow_setCell_below hown (a := ⟨w.heap.size, 5, none⟩) (by dsimp only; omega) (.int .i64 dx)) (a := ⟨w.heap.size, 6, none⟩) (by dsimp only; omega) (.int .i64 dy)) hx5
        have hR5 := ((hR.far (p := ⟨w.heap.size, 5, none⟩) (by dsimp only; omega) (by dsimp only; omega) (.int .i64 dx)).far (p := ⟨w.heap.size, 6, none⟩) (by dsimp only; omega) (by dsimp only; omega) (.int .i64 dy)).below hx5
        have hsz5 : gq0 + 2 ≤ w5.heap.size := by have := hx5.size; simp at this; omega
        clear hown hrow hR hB hsz hk qb fb cx hx5
        by_cases hw : wonR s dx dy = 0
        · have HWX := Lib.hid (show wonQ s x = 0 by rw [HWQ.out]; exact hw)
          rw [hw]
          clear hw
          have qb := fun i => cell_of_row w5 w.heap.size i _ _ _ k5
          go_wp2_with fail
          clear qb
          go_loopw [9, 12, 13, 14, 15] (fun v fc _ _ _ wi => ∃ (j : Nat) (T : List Nat) (F : Nat → Bool) (Lst : Nat → List Nat) (L : Nat), j ≤ f.toNat ∧ fc = .int .i64 ((j : Int) + 1) ∧ (D ++ x :: T).length = L ∧ wi.ownsRow (gS + 1) 3 1 v L (natS (D ++ x :: T)) ∧ RowB wi gS 4 n F ∧ RowsQ wi (gq0 + 2) (gq0 + 1) 23 3 n Lst v ∧ PredQ (nxS s o js me) (wonQ s) f.toNat D x j Lst ∧ Srch (nxS s o js me) f.toNat (okQ s js) q0 F D (x :: T) ∧ (∀ face, 1 ≤ face → face ≤ j → F (nxS s o js me x face) = true) ∧
            wi.heap[w.heap.size]? = some (.cells #[.int .i64 s, .int .i64 f, .int .i64 o, .slice A js.length c, .int .i64 me, .int .i64 dx, .int .i64 dy] 48 (0, 0)) ∧ Below w.heap.size w wi ∧ gq0 + 2 ≤ wi.heap.size) (fun _ fc _ _ _ _ => f.toNat + 1 - (intOf fc).toNat)
          case atStart => exact ⟨0, T, F, Lst, L, Nat.zero_le _, rfl, HL.out, hown5, hrow5, hR5, hP.other x, hSr, fun face h1 h2 => by omega, k5, hB5, hsz5⟩
          case round =>
            clear hown5 hrow5 hR5 hP hSr k5 hB5 hsz5 HL t1
            obtain ⟨j, T, F, Lst, L, hjf, rfl, hL, hown, hrow, hR, hP, hSr, hfaces, hk, hB, hsz⟩ := hrel
            have hlen := hSr.len HLT.out
            have hd := HD.out
            have hL2 : L = d + (T.length + 1) := by rw [← hL, ← hd]; simp
            simp only [List.length_cons] at hlen
            have hLn : L ≤ n := by omega
            have hdn : d < n := by omega
            have qb := fun i => cell_of_row wr w.heap.size i _ _ _ hk
            by_cases hlj : j < f.toNat
            · have h4 : (j : Int) + 1 ≤ f := by omega
              have hownlt := own_ltS hown
              obtain ⟨gq, cq, rfl, hgq, hcq, hlq, hcell⟩ := own_open hown hL (by omega)
              have cx := hcell d (by omega)
              have ex : (D ++ x :: T)[d]'(by omega) = x := by subst hd; simp
              rw [ex] at cx
              have iD : (d : Int) < (L : Int) := by omega
              have hst0 := stepR_sq (o := o) (me := me) (sec := Dt x == 1) (face := (j : Int) + 1) HG.out HON2.out.1 HON2.out.2 (by omega)
              obtain ⟨⟨⟨x', y'⟩, bs⟩, hst⟩ : ∃ R, stepR s o js me dx dy (Dt x == 1) ((j : Int) + 1) = R := ⟨_, rfl⟩
              rw [hst] at hst0
              obtain ⟨hsx', hsy'⟩ := hst0
              dsimp only at hsx' hsy'
              obtain ⟨xn, rfl⟩ := Int.eq_ofNat_of_zero_le hsx'.1
              obtain ⟨yn, rfl⟩ := Int.eq_ofNat_of_zero_le hsy'.1
              have hxn2 : xn < W := by have := hsx'.2.1; have := HW.out; omega
              have hyn2 : yn < W := by have := hsy'.2.1; have := HW.out; omega
              have hcast : (((j + 1 : Nat) : Int)) = (j : Int) + 1 := by omega
              have hy0 := nxS_eq (o := o) (js := js) (me := me) (face := j + 1) (b := bs) HWX.out (by rw [← HW.out, HDX.out, HDY.out, hcast]; exact hst) hsx' hsy'
              rw [← HW.out] at hy0
              have hdt : Dt x < 2 := by unfold Dt; omega
              obtain ⟨z, hz⟩ : ∃ z, cd W xn yn (1 - Dt x) = z := ⟨_, rfl⟩
              have hzn : z < n := by rw [← hz, HN.out]; exact cd_lt hxn2 hyn2 (by omega)
              obtain ⟨a0, ha0⟩ : ∃ a : Nat, a = xn * W := ⟨_, rfl⟩
              have hz2 : z = (a0 + yn) * 2 + (1 - Dt x) := by rw [← hz, ha0]; rfl
              rw [hz] at hy0
              obtain ⟨y, hy⟩ : ∃ y, nxS s o js me x (j + 1) = y := ⟨_, rfl⟩
              rw [hy] at hy0
              have hoky := okQ_nxS (o := o) (me := me) (face := j + 1) HG.out HON.out (by omega)
              rw [hy] at hoky
              have hyn := HLT.out y hoky
              have hyi : (y : Int) < (n : Int) := by omega
              obtain ⟨tx, htx⟩ : ∃ t, Dt x = t := ⟨_, rfl⟩
              rw [htx] at hz2 hdt
              have e3 : (x : Int) % 2 = (tx : Int) := by unfold Dt at htx; omega
              have e3' : (x : Int).tmod 2 = (tx : Int) := by rw [Int.tmod_eq_emod_of_nonneg (by omega)]; exact e3
              have e4 : ((tx : Int) == 1) = (Dt x == 1) := by rw [htx]; rw [Bool.eq_iff_iff]; simp; omega
              obtain ⟨tb, htb⟩ : ∃ tb, (Dt x == 1) = tb := ⟨_, rfl⟩
              rw [htb] at e4 hst
              have jwA : IntKind.i64.wrap ((xn : Int) * (W : Int)) = (a0 : Int) := by
                have e : (xn : Int) * (W : Int) = (a0 : Int) := by rw [ha0]; simp
                rw [e, IntWalk.i64_in _ (by omega)]
              have jwB : IntKind.i64.wrap ((a0 : Int) + (yn : Int)) = ((a0 + yn : Nat) : Int) := by rw [IntWalk.i64_in _ (by omega)]; omega
              obtain ⟨a1, ha1⟩ : ∃ a, a0 + yn = a := ⟨_, rfl⟩
              rw [ha1] at jwB hz2
              obtain ⟨a2, ha2⟩ : ∃ a, a1 * 2 = a := ⟨_, rfl⟩
              rw [ha2] at hz2
              have jwC : IntKind.i64.wrap ((a1 : Int) * 2) = (a2 : Int) := by rw [IntWalk.i64_in _ (by omega)]; omega
              obtain ⟨a3, ha3⟩ : ∃ a, a2 + 1 = a := ⟨_, rfl⟩
              have jwD : IntKind.i64.wrap ((a2 : Int) + 1) = (a3 : Int) := by rw [IntWalk.i64_in _ (by omega)]; omega
              have jwE : IntKind.i64.wrap ((a3 : Int) - (tx : Int)) = (z : Int) := by rw [IntWalk.i64_in _ (by omega)]; omega
              obtain ⟨z2, hz2'⟩ : ∃ a, z / 2 * 2 = a := ⟨_, rfl⟩
              have hzz : (z : Int) / 2 * 2 = (z2 : Int) := by omega
              have HST := Lib.hid hst; have HY := Lib.hid hy; have HY0 := Lib.hid hy0; have HF := Lib.hid hfaces; have HL := Lib.hid hL; have HTX := Lib.hid (And.intro e3 e4)
              have HJW := Lib.hid (And.intro jwA (And.intro jwB (And.intro jwC (And.intro jwD jwE)))); have HE3 := Lib.hid e3'; have HZZ := Lib.hid (And.intro hzz hz2')
              have hltb : w.heap.size < wr.heap.size := heap_lt hk
              have HKS := Lib.hid (show ∀ w', Below wr.heap.size wr w' → (Below wr.heap.size wr w' ∧ (∀ i, w'.cell? ⟨w.heap.size, i, none⟩ = #[.int .i64 s, .int .i64 f, .int .i64 o, .slice A js.length c, .int .i64 me, .int .i64 dx, .int .i64 dy][i]?) ∧ w'.cell? ⟨gq, d, none⟩ = some (.int .i64 (x : Int))) from fun w' h => ⟨h, fun i => (bcell h hltb).trans (qb i), (bcell h hlq).trans cx⟩)
              have q0w : ∀ i, wr.drew.cell? ⟨w.heap.size, i, none⟩ = #[.int .i64 s, .int .i64 f, .int .i64 o, .slice A js.length c, .int .i64 me, .int .i64 dx, .int .i64 dy][i]? := qb
              have cxw : wr.drew.cell? ⟨gq, d, none⟩ = some (.int .i64 (x : Int)) := cx
              clear hcell ex hst hy hy0 hfaces hL hd hL2 hlen hcast hz hz2 ha0 ha1 ha2 ha3 htx jwA jwB jwC jwD jwE e3' hzz hz2'
              go_upto_region 18 with fail
              go_cut [13, 14] from 82 to 146 (fun s13 _ wx => ∃ bt, s13 = .pointer (some ⟨bt, 0, none⟩) ∧ wr.heap.size ≤ bt ∧ wx.heap[bt]? = some (.cells #[.int .i64 s, .int .i64 f, .int .i64 o, .slice A js.length c, .int .i64 me, .int .i64 xn, .int .i64 yn] 48 (0, 0)) ∧ Below wr.heap.size wr wx)
              case first =>
                refine wp_region_held_drew (S := (fun w' => Below wr.heap.size wr w' ∧ (∀ i, w'.cell? ⟨w.heap.size, i, none⟩ = #[.int .i64 s, .int .i64 f, .int .i64 o, .slice A js.length c, .int .i64 me, .int .i64 dx, .int .i64 dy][i]?) ∧ w'.cell? ⟨gq, d, none⟩ = some (.int .i64 (x : Int)))) (by kernel_rfl) ⟨(Below.refl _ _).drew, q0w, cxw⟩ (fun hS => ?_)
                refine wpAnyH_take (i := 0) (oi := ⟨some 90, _, _, _, _, _⟩) (v := ?va1) rfl (by kernel_rfl) (by kernel_rfl) (by kernel_rfl) (fun _ _ _ h => h) (Or.inl ⟨by rfl, ?ha1⟩) hS ?ra1
                case ha1 => (intro w' hSw; (try dsimp only at hSw); go_simp; (try with_reducible rfl))
                try simp only [Act.put, List.setIfInBounds_toArray, List.set_cons_zero, List.set_cons_succ]
                refine wpAnyH_take (i := 1) (oi := ⟨some 91, _, _, _, _, _⟩) (v := ?va2) rfl (by kernel_rfl) (by kernel_rfl) (by kernel_rfl) (fun _ _ _ h => h) (Or.inl ⟨by rfl, ?ha2⟩) hS ?ra2
                case ha2 => (intro w' hSw; (try dsimp only at hSw); go_simp; (try with_reducible rfl))
                try simp only [Act.put, List.setIfInBounds_toArray, List.set_cons_zero, List.set_cons_succ]
                refine wpAnyH_take (i := 2) (oi := ⟨some 92, _, _, _, _, _⟩) (v := ?va3) rfl (by kernel_rfl) (by kernel_rfl) (by kernel_rfl) (fun _ _ _ h => h) (Or.inl ⟨by rfl, ?ha3⟩) hS ?ra3
                case ha3 => (intro w' hSw; (try dsimp only at hSw); go_simp; (try with_reducible rfl))
                try simp only [Act.put, List.setIfInBounds_toArray, List.set_cons_zero, List.set_cons_succ]
                refine wpAnyH_take (i := 3) (oi := ⟨some 93, _, _, _, _, _⟩) (v := ?va4) rfl (by kernel_rfl) (by kernel_rfl) (by kernel_rfl) (fun _ _ _ h => h) (Or.inl ⟨by rfl, ?ha4⟩) hS ?ra4
                case ha4 => (intro w' hSw; (try dsimp only at hSw); go_simp; (try with_reducible rfl))
                try simp only [Act.put, List.setIfInBounds_toArray, List.set_cons_zero, List.set_cons_succ]
                refine wpAnyH_take (i := 4) (oi := ⟨some 94, _, _, _, _, _⟩) (v := ?va5) rfl (by kernel_rfl) (by kernel_rfl) (by kernel_rfl) (fun _ _ _ h => h) (Or.inl ⟨by rfl, ?ha5⟩) hS ?ra5
                case ha5 => (intro w' hSw; (try dsimp only at hSw); go_simp; (try with_reducible rfl))
                try simp only [Act.put, List.setIfInBounds_toArray, List.set_cons_zero, List.set_cons_succ]
                refine wpAnyH_take (i := 5) (oi := ⟨some 95, _, _, _, _, _⟩) (v := ?va6) rfl (by kernel_rfl) (by kernel_rfl) (by kernel_rfl) (fun _ _ _ h => h) (Or.inl ⟨by rfl, ?ha6⟩) hS ?ra6
                case ha6 => (intro w' hSw; (try dsimp only at hSw); go_simp; (try with_reducible rfl))
                try simp only [Act.put, List.setIfInBounds_toArray, List.set_cons_zero, List.set_cons_succ]
                refine wpAnyH_take (i := 6) (oi := ⟨some 96, _, _, _, _, _⟩) (v := ?va7) rfl (by kernel_rfl) (by kernel_rfl) (by kernel_rfl) (fun _ _ _ h => h) (Or.inl ⟨by rfl, ?ha7⟩) hS ?ra7
                case ha7 => (intro w' hSw; (try dsimp only at hSw); go_simp; (try with_reducible rfl))
                try simp only [Act.put, List.setIfInBounds_toArray, List.set_cons_zero, List.set_cons_succ]
                refine wpAnyH_take (i := 7) (oi := ⟨some 97, _, _, _, _, _⟩) (v := ?va8) rfl (by kernel_rfl) (by kernel_rfl) (by kernel_rfl) (fun _ _ _ h => h) (Or.inl ⟨by rfl, ?ha8⟩) hS ?ra8
                case ha8 => (intro w' hSw; (try dsimp only at hSw); go_simp; (try with_reducible rfl))
                try simp only [Act.put, List.setIfInBounds_toArray, List.set_cons_zero, List.set_cons_succ]
                refine wpAnyH_ready (rs := [8, 12]) (by kernel_rfl) (by simp) ?_
                refine AllReadyH.cons (o := ⟨some 98, _, _, _, _, _⟩) rfl (fun K' hK' => ?_) (AllReadyH.cons (o := ⟨some 13, _, _, _, _, _⟩) rfl (fun K' hK' => ?_) AllReadyH.nil)
                focus
                  go_simp
                  go_at_call 50
                  have g := ‹Below wr.heap.size wr _ ∧ _›
                  rw [HE3.out, HTX.out.2]
                  with_reducible refine (raStep_any s f o me dx dy tb ((j : Int) + 1) A c js _ (hj.later (hB.trans (g.1.mono hB.size)) (Nat.le_trans hB.size g.1.size)) HG.out HON2.out.1 HON2.out.2 (by omega) (by omega)).mono ?_
                  rintro e w5 ⟨rfl, hx5⟩
                  rw [HST.out]
                  have g5 := HKS.out _ (g.1.trans (hx5.mono g.1.size))
                  (try have kz : w5.heap[wr.heap.size]? = some (.cells #[.int .i64 0, .int .i64 0, .int .i64 0, .slice none 0 0, .int .i64 0, .int .i64 0, .int .i64 0] 48 (0, 0)) := (hx5.block wr.heap.size (by simp)).trans (show (wr.drew.alloc _).heap[wr.heap.size]? = _ from heap_alloc_at _ _ _ rfl))
                  (try have qz := fun i => cell_of_row w5 wr.heap.size i _ _ _ kz)
                  (try have fz := fun i => frozen_row (i := i) kz)
                  refine hK'.out _ _ g5 (fun _ => ?_)
                  clear hK' K'
                  refine wpAnyH_take (i := 9) (oi := ⟨some 89, _, _, _, _, _⟩) (v := ?va9) rfl (by kernel_rfl) (by kernel_rfl) (by kernel_rfl) (fun _ _ _ h => h) (Or.inl ⟨by rfl, ?ha9⟩) g5 ?ra9
                  case ha9 => (intro w' hSw; (try dsimp only at hSw); go_simp; (try with_reducible rfl))
                  try simp only [Act.put, List.setIfInBounds_toArray, List.set_cons_zero, List.set_cons_succ]
                  refine wpAnyH_take (i := 10) (oi := ⟨some 99, _, _, _, _, _⟩) (v := ?va10) rfl (by kernel_rfl) (by kernel_rfl) (by kernel_rfl) (fun _ _ _ h => h) (Or.inl ⟨by rfl, ?ha10⟩) g5 ?ra10
                  case ha10 => (intro w' hSw; (try dsimp only at hSw); go_simp; (try with_reducible rfl))
                  try simp only [Act.put, List.setIfInBounds_toArray, List.set_cons_zero, List.set_cons_succ]
                  refine wpAnyH_take (i := 11) (oi := ⟨some 100, _, _, _, _, _⟩) (v := ?va11) rfl (by kernel_rfl) (by kernel_rfl) (by kernel_rfl) (fun _ _ _ h => h) (Or.inl ⟨by rfl, ?ha11⟩) g5 ?ra11
                  case ha11 => (intro w' hSw; (try dsimp only at hSw); go_simp; (try with_reducible rfl))
                  try simp only [Act.put, List.setIfInBounds_toArray, List.set_cons_zero, List.set_cons_succ]
                  refine wpAnyH_ready (rs := [12]) (by kernel_rfl) (by simp) ?_
                  refine AllReadyH.cons (o := ⟨some 13, _, _, _, _, _⟩) rfl (fun K' hK' => ?_) AllReadyH.nil
                  go_simp
                  have g := ‹Below wr.heap.size wr _ ∧ _›
                  have gA := HKS.out _ (g.1.alloc g.1.size (.cells #[.int .i64 0, .int .i64 0, .int .i64 0, .slice none 0 0, .int .i64 0, .int .i64 0, .int .i64 0] 48))
                  refine hK'.out _ _ gA (fun _ => ?_)
                  clear hK' K'
                  try simp only [Act.put, List.setIfInBounds_toArray, List.set_cons_zero, List.set_cons_succ]
                  refine wpAnyH_ready (rs := [13]) (by kernel_rfl) (by simp) ?_
                  refine AllReadyH.cons (o := ⟨none, _, _, _, _, _⟩) rfl (fun K' hK' => ?_) AllReadyH.nil
                  go_simp
                  skip
                  refine hK'.out _ _ (HKS.out _ (by first | with_reducible exact g5.1.alloc g5.1.size _ | with_reducible exact set7S g5.1 (Nat.le_refl _) _ _ _ _ _ _ _)) (fun _ => ?_)
                  clear hK' K'
                  try simp only [Act.put, List.setIfInBounds_toArray, List.set_cons_zero, List.set_cons_succ]
                  refine wpAnyH_ready (rs := [14]) (by kernel_rfl) (by simp) ?_
                  refine AllReadyH.cons (o := ⟨some 14, _, _, _, _, _⟩) rfl (fun K' hK' => ?_) AllReadyH.nil
                  go_simp
                  refine hK'.out _ _ (HKS.out _ (by first | with_reducible exact g5.1.alloc g5.1.size _ | with_reducible exact set7S g5.1 (Nat.le_refl _) _ _ _ _ _ _ _)) (fun _ => ?_)
                  clear hK' K'
                  try simp only [Act.put, List.setIfInBounds_toArray, List.set_cons_zero, List.set_cons_succ]
                  refine wpAnyH_done (by kernel_rfl) ?_ _
                rotate_left 1
                focus
                  go_simp
                  have g := ‹Below wr.heap.size wr _ ∧ _›
                  have gA := HKS.out _ (g.1.alloc g.1.size (.cells #[.int .i64 0, .int .i64 0, .int .i64 0, .slice none 0 0, .int .i64 0, .int .i64 0, .int .i64 0] 48))
                  refine hK'.out _ _ gA (fun _ => ?_)
                  clear hK' K'
                  try simp only [Act.put, List.setIfInBounds_toArray, List.set_cons_zero, List.set_cons_succ]
                  refine wpAnyH_ready (rs := [8]) (by kernel_rfl) (by simp) ?_
                  refine AllReadyH.cons (o := ⟨some 98, _, _, _, _, _⟩) rfl (fun K' hK' => ?_) AllReadyH.nil
                  go_simp
                  go_at_call 50
                  have g := ‹Below wr.heap.size wr _ ∧ _›
                  rw [HE3.out, HTX.out.2]
                  with_reducible refine (raStep_any s f o me dx dy tb ((j : Int) + 1) A c js _ (hj.later (hB.trans (g.1.mono hB.size)) (Nat.le_trans hB.size g.1.size)) HG.out HON2.out.1 HON2.out.2 (by omega) (by omega)).mono ?_
                  rintro e w5 ⟨rfl, hx5⟩
                  rw [HST.out]
                  have g5 := HKS.out _ (g.1.trans (hx5.mono g.1.size))
                  (try have kz : w5.heap[wr.heap.size]? = some (.cells #[.int .i64 0, .int .i64 0, .int .i64 0, .slice none 0 0, .int .i64 0, .int .i64 0, .int .i64 0] 48 (0, 0)) := (hx5.block wr.heap.size (by simp)).trans (show (wr.drew.alloc _).heap[wr.heap.size]? = _ from heap_alloc_at _ _ _ rfl))
                  (try have qz := fun i => cell_of_row w5 wr.heap.size i _ _ _ kz)
                  (try have fz := fun i => frozen_row (i := i) kz)
                  refine hK'.out _ _ g5 (fun _ => ?_)
                  clear hK' K'
                  refine wpAnyH_take (i := 9) (oi := ⟨some 89, _, _, _, _, _⟩) (v := ?va12) rfl (by kernel_rfl) (by kernel_rfl) (by kernel_rfl) (fun _ _ _ h => h) (Or.inl ⟨by rfl, ?ha12⟩) g5 ?ra12
                  case ha12 => (intro w' hSw; (try dsimp only at hSw); go_simp; (try with_reducible rfl))
                  try simp only [Act.put, List.setIfInBounds_toArray, List.set_cons_zero, List.set_cons_succ]
                  refine wpAnyH_take (i := 10) (oi := ⟨some 99, _, _, _, _, _⟩) (v := ?va13) rfl (by kernel_rfl) (by kernel_rfl) (by kernel_rfl) (fun _ _ _ h => h) (Or.inl ⟨by rfl, ?ha13⟩) g5 ?ra13
                  case ha13 => (intro w' hSw; (try dsimp only at hSw); go_simp; (try with_reducible rfl))
                  try simp only [Act.put, List.setIfInBounds_toArray, List.set_cons_zero, List.set_cons_succ]
                  refine wpAnyH_take (i := 11) (oi := ⟨some 100, _, _, _, _, _⟩) (v := ?va14) rfl (by kernel_rfl) (by kernel_rfl) (by kernel_rfl) (fun _ _ _ h => h) (Or.inl ⟨by rfl, ?ha14⟩) g5 ?ra14
                  case ha14 => (intro w' hSw; (try dsimp only at hSw); go_simp; (try with_reducible rfl))
                  try simp only [Act.put, List.setIfInBounds_toArray, List.set_cons_zero, List.set_cons_succ]
                  refine wpAnyH_ready (rs := [13]) (by kernel_rfl) (by simp) ?_
                  refine AllReadyH.cons (o := ⟨none, _, _, _, _, _⟩) rfl (fun K' hK' => ?_) AllReadyH.nil
                  go_simp
                  skip
                  refine hK'.out _ _ (HKS.out _ (by first | with_reducible exact g5.1.alloc g5.1.size _ | with_reducible exact set7S g5.1 (Nat.le_refl _) _ _ _ _ _ _ _)) (fun _ => ?_)
                  clear hK' K'
                  try simp only [Act.put, List.setIfInBounds_toArray, List.set_cons_zero, List.set_cons_succ]
                  refine wpAnyH_ready (rs := [14]) (by kernel_rfl) (by simp) ?_
                  refine AllReadyH.cons (o := ⟨some 14, _, _, _, _, _⟩) rfl (fun K' hK' => ?_) AllReadyH.nil
                  go_simp
                  refine hK'.out _ _ (HKS.out _ (by first | with_reducible exact g5.1.alloc g5.1.size _ | with_reducible exact set7S g5.1 (Nat.le_refl _) _ _ _ _ _ _ _)) (fun _ => ?_)
                  clear hK' K'
                  try simp only [Act.put, List.setIfInBounds_toArray, List.set_cons_zero, List.set_cons_succ]
                  refine wpAnyH_done (by kernel_rfl) ?_ _
                rotate_left 1
                all_goals
                  go_wp2_with fail
                  go_meet
                  first
                    | (refine ⟨w5.heap.size, by with_reducible rfl, g5.1.size, ?_, ?_⟩; (with_reducible exact heap_alloc_at _ _ _ rfl); (with_reducible exact g5.1.alloc g5.1.size _))
                    | exact ⟨wr.heap.size, by with_reducible rfl, Nat.le_refl _, heap_set _ _ _ _ _ _ (heap_set _ _ _ _ _ _ (heap_set _ _ _ _ _ _ (heap_set _ _ _ _ _ _ (heap_set _ _ _ _ _ _ (heap_set _ _ _ _ _ _ (heap_set _ _ _ _ _ _ kz)))))), set7S g5.1 (Nat.le_refl _) _ _ _ _ _ _ _⟩
              case rest =>
                obtain ⟨bt, rfl, hbt, kt, hBt⟩ := hcut
                have qt := fun i => cell_of_row wc bt i _ _ _ kt
                have cxt := (bcell hBt hlq).trans cx
                have e3t := HE3.out
                have jwA := HJW.out.1; have jwB := HJW.out.2.1; have jwC := HJW.out.2.2.1; have jwD := HJW.out.2.2.2.1; have jwE := HJW.out.2.2.2.2
                clear q0w cxw cx qb e3
                go_wp2_with fail
                go_quiet (fail)
                clear jwA jwB jwC jwD jwE e3t
                go_wp2_with fail
                refine (raWon_any _ _ _ _ _ _ _ _ _ _).mono ?_
                rintro e w6 ⟨rfl, hx6⟩
                have hB6 : Below wr.heap.size wr w6 := (drewB hBt _).trans (hx6.mono (by have := hBt.size; simpa using this))
                clear qt cxt kt
                go_upto_if 118 with fail
                go_cut [15] from 82 to 146 (fun s15 wx => s15 = .int .i64 (y : Int) ∧ wx = w6)
                case first =>
                  by_cases hw2 : wonR s xn yn = 0
                  · have HYZ := Lib.hid (show y = z by rw [HY0.out, if_pos hw2])
                    rw [hw2]
                    clear hw2
                    go_wp2_with fail
                    go_meet
                    exact ⟨by rw [HYZ.out], rfl⟩
                  · have HYZ := Lib.hid (show y = z2 by rw [HY0.out, if_neg hw2]; exact HZZ.out.2)
                    obtain ⟨v2, hv2⟩ : ∃ v, wonR s xn yn = v := ⟨_, rfl⟩
                    have hv20 : 0 < v2 := by rcases wonR_range s xn yn with h | h | h <;> omega
                    have hzz := HZZ.out.1
                    rw [hv2]
                    clear hw2 hv2
                    go_wp2_with fail
                    go_meet
                    exact ⟨by rw [HYZ.out], rfl⟩
                case rest =>
                  obtain ⟨rfl, hw6⟩ := hcut
                  rw [hw6]
                  clear hw6
                  have hrow6 := hrow.below hB6 hrow.lt
                  have hown6 := own_below hown hB6
                  have hR6 := hR.below hB6
                  have hk6 := (hB6.block _ hltb).trans hk
                  have hBB6 := hB.trans (hB6.mono hB.size)
                  have cx6 := (HKS.out _ hB6).2.2
                  have z6 : gq0 + 2 ≤ w6.heap.size := Nat.le_trans hsz hB6.size
                  have hlq6 : gq < w6.heap.size := Nat.lt_of_lt_of_le hlq hB6.size
                  have hgqS : gS + 1 ≤ gq := hgq
                  have hneq : gq ≠ gq0 + 1 := fun e => hR6.own (by rw [e]; rfl)
                  have hgSq : gS < gq0 := by have := zz; omega
                  obtain ⟨u, v1, v2, v3, v4, v5⟩ := hR6.drew.row hyn
                  have hun : ∀ b, u.ownBlock = some b → b ≠ gq := fun b hb e => v4 b hb (by rw [e]; rfl)
                  have hlenY := hP.2 y
                  have V5 := Lib.hid v5; have V4 := Lib.hid v4; have HUN := Lib.hid hun; have HP := Lib.hid hP
                  clear hown hrow hR hk hB hBt hB6 v5 v4 hun hP hx6 HKS hltb hsz
                  have cxd : w6.drew.cell? ⟨gq, d, none⟩ = some (.int .i64 (x : Int)) := cx6
                  have hO8 : (w6.drew.alloc (.cells #[.int .i64 (x : Int)] 3)).ownsRow (gq0 + 2) 3 1 u (Lst y).length ((Lst y).map (fun i : Nat => Value.int .i64 i)) := own_below v3 (below1 _ _)
                  have hd8 := HD.out
                  go_upto_region 22 with fail
                  go_cut [15] from 82 to 146 (fun s15 wx => s15 = .int .i64 (y : Int) ∧ RowB wx gS 4 n F ∧ wx.ownsRow (gS + 1) 3 1 (.slice (some ⟨gq, 0, none⟩) L cq) L (natS (D ++ x :: T)) ∧ RowsQ wx (gq0 + 2) (gq0 + 1) 23 3 n (fun z => if z = y then Lst y ++ [x] else Lst z) (.slice (some ⟨gq, 0, none⟩) L cq) ∧
                    wx.heap[w.heap.size]? = some (.cells #[.int .i64 s, .int .i64 f, .int .i64 o, .slice A js.length c, .int .i64 me, .int .i64 dx, .int .i64 dy] 48 (0, 0)) ∧ Below w.heap.size w wx ∧ gq0 + 2 ≤ wx.heap.size)
                  case first =>
                    refine wp_region_held_drew (S := (fun w' => w'.cell? ⟨gq, d, none⟩ = some (.int .i64 (x : Int)))) (by kernel_rfl) cxd (fun hS => ?_)
                    refine wpAnyH_take (i := 0) (oi := ⟨some 122, _, _, _, _, _⟩) (v := ?vb1) rfl (by kernel_rfl) (by kernel_rfl) (by kernel_rfl) (fun _ _ _ h => h) (Or.inl ⟨by rfl, ?hb1⟩) hS ?rb1
                    case hb1 => (intro w' hSw; (try dsimp only at hSw); go_simp; (try with_reducible rfl))
                    try simp only [Act.put, List.setIfInBounds_toArray, List.set_cons_zero, List.set_cons_succ]
                    refine wpAnyH_take (i := 1) (oi := ⟨some 123, _, _, _, _, _⟩) (v := ?vb2) rfl (by kernel_rfl) (by kernel_rfl) (by kernel_rfl) (fun _ _ _ h => h) (Or.inl ⟨by rfl, ?hb2⟩) hS ?rb2
                    case hb2 => (intro w' hSw; (try dsimp only at hSw); go_simp; (try with_reducible rfl))
                    try simp only [Act.put, List.setIfInBounds_toArray, List.set_cons_zero, List.set_cons_succ]
                    refine wpAnyH_take (i := 2) (oi := ⟨some 124, _, _, _, _, _⟩) (v := ?vb3) rfl (by kernel_rfl) (by kernel_rfl) (by kernel_rfl) (fun _ _ _ h => h) (Or.inl ⟨by rfl, ?hb3⟩) hS ?rb3
                    case hb3 => (intro w' hSw; (try dsimp only at hSw); go_simp; (try with_reducible rfl))
                    try simp only [Act.put, List.setIfInBounds_toArray, List.set_cons_zero, List.set_cons_succ]
                    refine wpAnyH_take (i := 3) (oi := ⟨some 125, _, _, _, _, _⟩) (v := ?vb4) rfl (by kernel_rfl) (by kernel_rfl) (by kernel_rfl) (fun _ _ _ h => h) (Or.inl ⟨by rfl, ?hb4⟩) hS ?rb4
                    case hb4 => (intro w' hSw; (try dsimp only at hSw); go_simp; (try with_reducible rfl))
                    try simp only [Act.put, List.setIfInBounds_toArray, List.set_cons_zero, List.set_cons_succ]
                    refine wpAnyH_take (i := 4) (oi := ⟨some 126, _, _, _, _, _⟩) (v := ?vb5) rfl (by kernel_rfl) (by kernel_rfl) (by kernel_rfl) (fun _ _ _ h => h) (Or.inl ⟨by rfl, ?hb5⟩) hS ?rb5
                    case hb5 => (intro w' hSw; (try dsimp only at hSw); go_simp; (try with_reducible rfl))
                    try simp only [Act.put, List.setIfInBounds_toArray, List.set_cons_zero, List.set_cons_succ]
                    refine wpAnyH_take (i := 6) (oi := ⟨some 128, _, _, _, _, _⟩) (v := ?vb6) rfl (by kernel_rfl) (by kernel_rfl) (by kernel_rfl) (fun _ _ _ h => h) (Or.inl ⟨by rfl, ?hb6⟩) hS ?rb6
                    case hb6 => (intro w' hSw; (try dsimp only at hSw); go_simp; (try with_reducible rfl))
                    try simp only [Act.put, List.setIfInBounds_toArray, List.set_cons_zero, List.set_cons_succ]
                    refine wpAnyH_take (i := 7) (oi := ⟨some 129, _, _, _, _, _⟩) (v := ?vb7) rfl (by kernel_rfl) (by kernel_rfl) (by kernel_rfl) (fun _ _ _ h => h) (Or.inl ⟨by rfl, ?hb7⟩) hS ?rb7
                    case hb7 => (intro w' hSw; (try dsimp only at hSw); go_simp; (try with_reducible rfl))
                    try simp only [Act.put, List.setIfInBounds_toArray, List.set_cons_zero, List.set_cons_succ]
                    refine wpAnyH_take (i := 8) (oi := ⟨some 130, _, _, _, _, _⟩) (v := ?vb8) rfl (by kernel_rfl) (by kernel_rfl) (by kernel_rfl) (fun _ _ _ h => h) (Or.inl ⟨by rfl, ?hb8⟩) hS ?rb8
                    case hb8 => (intro w' hSw; (try dsimp only at hSw); go_simp; (try with_reducible rfl))
                    try simp only [Act.put, List.setIfInBounds_toArray, List.set_cons_zero, List.set_cons_succ]
                    refine wpAnyH_take (i := 9) (oi := ⟨some 131, _, _, _, _, _⟩) (v := ?vb9) rfl (by kernel_rfl) (by kernel_rfl) (by kernel_rfl) (fun _ _ _ h => h) (Or.inl ⟨by rfl, ?hb9⟩) hS ?rb9
                    case hb9 => (intro w' hSw; (try dsimp only at hSw); go_simp; (try with_reducible rfl))
                    try simp only [Act.put, List.setIfInBounds_toArray, List.set_cons_zero, List.set_cons_succ]
                    refine wpAnyH_ready (rs := [5, 10]) (by kernel_rfl) (by simp) ?_
                    refine AllReadyH.cons (o := ⟨some 127, _, _, _, _, _⟩) rfl (fun K' hK' => ?_) (AllReadyH.cons (o := ⟨some 132, _, _, _, _, _⟩) rfl (fun K' hK' => ?_) AllReadyH.nil)
                    focus
                      go_simp
                      skip
                      refine hK'.out _ _ (by assumption) (fun _ => ?_)
                      clear hK' K'
                      try simp only [Act.put, List.setIfInBounds_toArray, List.set_cons_zero, List.set_cons_succ]
                      refine wpAnyH_ready (rs := [10]) (by kernel_rfl) (by simp) ?_
                      refine AllReadyH.cons (o := ⟨some 132, _, _, _, _, _⟩) rfl (fun K' hK' => ?_) AllReadyH.nil
                      go_simp
                      have v1e : (w6.alloc (.cells #[.int .i64 (x : Int)] 3)).drew.cell? ⟨gq0 + 1, y, none⟩ = some u := (bcell (below1 w6 (.cells #[.int .i64 (x : Int)] 3)) (show gq0 + 1 < w6.heap.size by omega)).trans v1
                      have cxe := (bcell (w' := w6.drew.alloc (.cells #[.int .i64 (x : Int)] 3)) (below1 _ _) hlq6).trans cxd
                      refine hK'.out _ _ ((bcell (below1 _ _) hlq6).trans cxd) (fun _ => ?_)
                      clear hK' K'
                      try simp only [Act.put, List.setIfInBounds_toArray, List.set_cons_zero, List.set_cons_succ]
                      refine wpAnyH_ready (rs := [11]) (by kernel_rfl) (by simp) ?_
                      refine AllReadyH.cons (o := ⟨some 133, _, _, _, _, _⟩) rfl (fun K' hK' => ?_) AllReadyH.nil
                      rw [if_pos (wantedS rfl)]
                      refine wpK_append_at _ _ 23 rfl (gq0 + 2) 3 j0 (.int .i64 0) 1 8 Try.underlying23 hji hjz0 hjz1 hjz2 rfl (by decide) _ _ _ rfl hO8 ⟨w6.heap.size, 0, none⟩ 1 1 [.int .i64 (x : Int)] rfl rfl (cell_newS _ _ _ rfl) (one_int _) (by unfold maxLen; omega) (by omega) (by simp; omega) ?_
                      intro v7 w7 hown7 hg7 hat7
                      obtain ⟨A7, c7, rfl⟩ := own_sliceS hown7
                      have hnb : ∀ b, b < gq0 + 2 → some b ≠ u.ownBlock := fun b hb e => by have := own_from v3 b e.symm; omega
                      have hb7 := (hg7.block (gq0 + 1) (by simp; omega) (hnb _ (by omega)))
                      have c7' : w7.cell? ⟨gq0 + 1, y, none⟩ = some u := (World.cell?_of_block (a := ⟨gq0 + 1, y, none⟩) hb7).trans ((bcell (below1 _ _) (show gq0 + 1 < w6.heap.size by omega)).trans v1)
                      have f7' : w7.frozen? ⟨gq0 + 1, y, none⟩ = false := (World.frozen?_of_block (a := ⟨gq0 + 1, y, none⟩) hb7).trans ((World.frozen?_of_block (a := ⟨gq0 + 1, y, none⟩) (Below.heap_alloc w6.drew _ (gq0 + 1) (show gq0 + 1 < w6.heap.size by omega))).trans v2)
                      have cx7 : w7.cell? ⟨gq, d, none⟩ = some (.int .i64 (x : Int)) := (World.cell?_of_block (a := ⟨gq, d, none⟩) (hg7.block gq (by simp; omega) (fun e => HUN.out gq e.symm rfl))).trans ((bcell (below1 _ _) hlq6).trans cxd)
                      refine hK'.out _ _ cx7 (fun _ => ?_)
                      clear hK' K'
                      try simp only [Act.put, List.setIfInBounds_toArray, List.set_cons_zero, List.set_cons_succ]
                      refine wpAnyH_take (i := 12) (oi := ⟨some 134, _, _, _, _, _⟩) (v := ?vb10) rfl (by kernel_rfl) (by kernel_rfl) (by kernel_rfl) (fun _ _ _ h => h) (Or.inl ⟨by rfl, ?hb10⟩) cx7 ?rb10
                      case hb10 => (intro w' hSw; (try dsimp only at hSw); go_simp; (try with_reducible rfl))
                      try simp only [Act.put, List.setIfInBounds_toArray, List.set_cons_zero, List.set_cons_succ]
                      refine wpAnyH_ready (rs := [13]) (by kernel_rfl) (by simp) ?_
                      refine AllReadyH.cons (o := ⟨none, _, _, _, _, _⟩) rfl (fun K' hK' => ?_) AllReadyH.nil
                      go_simp
                      skip
                      refine hK'.out _ _ ((World.cell?_of_block (a := ⟨gq, d, none⟩) (Below.heap_setCell _ _ _ _ hneq)).trans cx7) (fun _ => ?_)
                      clear hK' K'
                      try simp only [Act.put, List.setIfInBounds_toArray, List.set_cons_zero, List.set_cons_succ]
                      refine wpAnyH_done (by kernel_rfl) ?_ _
                    rotate_left 1
                    focus
                      go_simp
                      have v1e : (w6.alloc (.cells #[.int .i64 (x : Int)] 3)).drew.cell? ⟨gq0 + 1, y, none⟩ = some u := (bcell (below1 w6 (.cells #[.int .i64 (x : Int)] 3)) (show gq0 + 1 < w6.heap.size by omega)).trans v1
                      have cxe := (bcell (w' := w6.drew.alloc (.cells #[.int .i64 (x : Int)] 3)) (below1 _ _) hlq6).trans cxd
                      refine hK'.out _ _ ((bcell (below1 _ _) hlq6).trans cxd) (fun _ => ?_)
                      clear hK' K'
                      try simp only [Act.put, List.setIfInBounds_toArray, List.set_cons_zero, List.set_cons_succ]
                      refine wpAnyH_ready (rs := [5]) (by kernel_rfl) (by simp) ?_
                      refine AllReadyH.cons (o := ⟨some 127, _, _, _, _, _⟩) rfl (fun K' hK' => ?_) AllReadyH.nil
                      go_simp
                      skip
                      refine hK'.out _ _ (by assumption) (fun _ => ?_)
                      clear hK' K'
                      try simp only [Act.put, List.setIfInBounds_toArray, List.set_cons_zero, List.set_cons_succ]
                      refine wpAnyH_ready (rs := [11]) (by kernel_rfl) (by simp) ?_
                      refine AllReadyH.cons (o := ⟨some 133, _, _, _, _, _⟩) rfl (fun K' hK' => ?_) AllReadyH.nil
                      rw [if_pos (wantedS rfl)]
                      refine wpK_append_at _ _ 23 rfl (gq0 + 2) 3 j0 (.int .i64 0) 1 8 Try.underlying23 hji hjz0 hjz1 hjz2 rfl (by decide) _ _ _ rfl hO8 ⟨w6.heap.size, 0, none⟩ 1 1 [.int .i64 (x : Int)] rfl rfl (cell_newS _ _ _ rfl) (one_int _) (by unfold maxLen; omega) (by omega) (by simp; omega) ?_
                      intro v7 w7 hown7 hg7 hat7
                      obtain ⟨A7, c7, rfl⟩ := own_sliceS hown7
                      have hnb : ∀ b, b < gq0 + 2 → some b ≠ u.ownBlock := fun b hb e => by have := own_from v3 b e.symm; omega
                      have hb7 := (hg7.block (gq0 + 1) (by simp; omega) (hnb _ (by omega)))
                      have c7' : w7.cell? ⟨gq0 + 1, y, none⟩ = some u := (World.cell?_of_block (a := ⟨gq0 + 1, y, none⟩) hb7).trans ((bcell (below1 _ _) (show gq0 + 1 < w6.heap.size by omega)).trans v1)
                      have f7' : w7.frozen? ⟨gq0 + 1, y, none⟩ = false := (World.frozen?_of_block (a := ⟨gq0 + 1, y, none⟩) hb7).trans ((World.frozen?_of_block (a := ⟨gq0 + 1, y, none⟩) (Below.heap_alloc w6.drew _ (gq0 + 1) (show gq0 + 1 < w6.heap.size by omega))).trans v2)
                      have cx7 : w7.cell? ⟨gq, d, none⟩ = some (.int .i64 (x : Int)) := (World.cell?_of_block (a := ⟨gq, d, none⟩) (hg7.block gq (by simp; omega) (fun e => HUN.out gq e.symm rfl))).trans ((bcell (below1 _ _) hlq6).trans cxd)
                      refine hK'.out _ _ cx7 (fun _ => ?_)
                      clear hK' K'
                      try simp only [Act.put, List.setIfInBounds_toArray, List.set_cons_zero, List.set_cons_succ]
                      refine wpAnyH_take (i := 12) (oi := ⟨some 134, _, _, _, _, _⟩) (v := ?vb11) rfl (by kernel_rfl) (by kernel_rfl) (by kernel_rfl) (fun _ _ _ h => h) (Or.inl ⟨by rfl, ?hb11⟩) cx7 ?rb11
                      case hb11 => (intro w' hSw; (try dsimp only at hSw); go_simp; (try with_reducible rfl))
                      try simp only [Act.put, List.setIfInBounds_toArray, List.set_cons_zero, List.set_cons_succ]
                      refine wpAnyH_ready (rs := [13]) (by kernel_rfl) (by simp) ?_
                      refine AllReadyH.cons (o := ⟨none, _, _, _, _, _⟩) rfl (fun K' hK' => ?_) AllReadyH.nil
                      go_simp
                      skip
                      refine hK'.out _ _ ((World.cell?_of_block (a := ⟨gq, d, none⟩) (Below.heap_setCell _ _ _ _ hneq)).trans cx7) (fun _ => ?_)
                      clear hK' K'
                      try simp only [Act.put, List.setIfInBounds_toArray, List.set_cons_zero, List.set_cons_succ]
                      refine wpAnyH_done (by kernel_rfl) ?_ _
                    rotate_left 1
                    all_goals
                      go_wp2_with fail
                      go_meet
                      have hs7 := hg7.size
                      simp only [World.size_alloc, World.drew] at hs7
                      refine ⟨rfl, ?_, ?_, ?_, ?_, ?_, ?_⟩
                      · exact (((show RowB w6.drew gS 4 n F from hrow6).alloc _).grown hg7 (hnb gS (by omega))).far (p := ⟨gq0 + 1, y, none⟩) (by dsimp only; omega) _
                      · exact World.ownsRow.kept ((own_below (show World.ownsRow w6.drew (gS + 1) 3 1 (.slice (some ⟨gq, 0, none⟩) L cq) L (natS (D ++ x :: T)) from hown6) (below1 _ _)).kept hg7 (.inr fun e => HUN.out gq e.symm rfl)) (grown_setCell (grown_refl _ _) ⟨gq0 + 1, y, none⟩ _ rfl) (.inr fun e => hneq (by injection e))
                      · exact V5.out (.cells #[.int .i64 (x : Int)] 3) w7 _ x hg7 hown7 hat7 (by simp only [World.drew]; omega) (fun b hb => by injection hb with hb; subst hb; exact hlq6)
                      · exact (Below.heap_setCell _ _ _ _ (by dsimp only; omega)).trans ((hg7.block w.heap.size (by simp only [World.size_alloc, World.drew]; omega) (hnb _ (by omega))).trans ((Below.heap_alloc _ _ _ (show w.heap.size < w6.heap.size by omega)).trans hk6))
                      · exact ((hBB6.drew.alloc (by simp only [World.drew]; omega) _).grown hg7 (by simp only [World.size_alloc, World.drew]; omega) (fun b hb => by have := own_from v3 b hb; omega)).setCell (by dsimp only; omega) _
                      · simp only [World.size_setCell]; omega
                  case rest =>
                    obtain ⟨rfl, hrow7, hown7, hR7, hk7, hB7, z7⟩ := hcut
                    have e1 := hrow7.cell hyn
                    have e2 := hrow7.free y
                    have hlq7 : gq < wc.heap.size := own_ltS hown7 gq rfl
                    have qb := fun i => cell_of_row wc w.heap.size i _ _ _ hk7
                    have HPS := Lib.hid (HP.out.step HWX.out HY.out)
                    have HSR := Lib.hid hSr
                    clear hrow6 hown6 hR6 hk6 hBB6 cx6 cxd v1 v2 v3 hO8 z6 hlq6 hSr hlenY
                    cases hF : F y
                    · have HFY := Lib.hid hF
                      rw [hF] at e1
                      have hS8 := Lib.hid (HSR.out.push (x := x) (face := j + 1) (.inr (by simp)) (by omega) (by omega) (fun z hz face h1 _ => okQ_nxS HG.out hz h1) HY.out hF)
                      have hlen8 := hS8.out.len HLT.out
                      have hrow8 := (hrow7.set hyn true).alloc (.cells #[.int .i64 (y : Int)] 3)
                      have hB8 := (hB7.setCell (p := ⟨gS, y, none⟩) (by dsimp only; omega) (.bool true)).alloc (by simp; omega) (.cells #[.int .i64 (y : Int)] 3)
                      have hgS7 := hrow7.lt
                      have hgr := grown_setCell (grown_refl wc (some gS)) ⟨gS, y, none⟩ (.bool true) rfl
                      have hne8 : gq ≠ gS := by omega
                      have hown8 := (World.ownsRow.kept hown7 hgr (.inr fun e => hne8 (by injection e))).alloc (.cells #[.int .i64 (y : Int)] 3)
                      have hR8 := hR7.far (p := ⟨gS, y, none⟩) (by dsimp only; omega) (by dsimp only; omega) (.bool true)
                      have hk8 := (Below.heap_setCell wc ⟨gS, y, none⟩ (.bool true) w.heap.size (by dsimp only; omega)).trans hk7
                      have hLL := HL.out
                      simp only [List.length_cons, List.length_append] at hLL hlen8
                      have hLn8 : L + 1 ≤ 3400 := by simp at hlen8; omega
                      clear hrow7 hown7 hR7 hk7 hB7 hF hLL
                      go_wp2_with (at_builtin; go_loud (refine wpList_append_own_at _ rfl _ _ 23 rfl (gS + 1) 3 j0 (.int .i64 0) 1 8 Try.underlying23 hji hjz0 hjz1 hjz2 rfl (by decide) _ _ _ rfl hown8 ⟨wc.heap.size, 0, none⟩ 1 1 [.int .i64 (y : Int)] rfl rfl (cell_newS _ _ _ (by simp)) (one_int _) (by unfold maxLen; omega) (by omega) (by simp; omega) ?_; intro v9 w9 hown9 hg9 _ hat9))
                      have hs9 := hg9.size
                      simp only [World.size_alloc, World.size_setCell] at hs9
                      go_roundw
                      case rel =>
                        refine ⟨j + 1, T ++ [y], setB F y, _, L + 1, hlj, by go_num, ?_, ?_, ?_, hR8.push hg9 hat9, HPS.out, hS8.out, fun face h1 h2 => ?_, ?_, ?_, by omega⟩
                        · rw [← HL.out]; simp; omega
                        · rw [← List.cons_append, ← List.append_assoc, natS_snoc]; exact hown9
                        · exact (hrow8.grown hg9 (fun e => hne8 (by injection e with e; exact e.symm))).congr fun i _ => by unfold setB; rfl
                        · unfold setB
                          by_cases e : nxS s o js me x face = y
                          · rw [if_pos e]
                          · rw [if_neg e]
                            by_cases e2 : face = j + 1
                            · exact absurd (by rw [e2]; exact HY.out) e
                            · exact HF.out face h1 (by omega)
                        · exact (hg9.block w.heap.size (by simp; omega) (fun e => by injection e with e; have e2 : w.heap.size = gq := e; omega)).trans ((Below.heap_alloc _ _ _ (by simp; omega)).trans hk8)
                        · exact hB8.grown hg9 (by simp; omega) (fun b e => by injection e with e; have e2 : gq = b := e; omega)
                      case measure => simp [intOf]; omega
                    · have HFY := Lib.hid hF
                      rw [hF] at e1
                      clear hF
                      go_wp2
                      go_roundw
                      case rel =>
                        refine ⟨j + 1, T, F, _, L, hlj, by go_num, HL.out, hown7, hrow7, hR7, HPS.out, HSR.out, fun face h1 h2 => ?_, hk7, hB7, z7⟩
                        by_cases e : face = j + 1
                        · rw [e, HY.out]; exact HFY.out
                        · exact HF.out face h1 (by omega)
                      case measure => simp [intOf]; omega
            · have h4 : ¬ (j : Int) + 1 ≤ f := by omega
              obtain rfl : j = f.toNat := by omega
              have HSF := Lib.hid (hSr.finish hfaces)
              have HPD := Lib.hid (hP.done (by omega) (.inl rfl) 0)
              have HLX := Lib.hid hL
              clear hSr hfaces hP hL hL2 hlen hd
              go_wp2_with fail
              go_roundw
              case rel => exact ⟨D ++ [x], T, F, Lst, d + 1, L, dx, dy, by rw [← HD.out]; simp, by rw [← HLX.out]; simp, by go_num, by simpa using hown, hrow, hR, HPD.out, HSF.out, hk, hB, hsz⟩
              case measure => simp [intOf]; omega
        · have HWX := Lib.hid (show ¬ wonQ s x = 0 by rw [HWQ.out]; exact hw)
          obtain ⟨v, hv⟩ : ∃ v, wonR s dx dy = v := ⟨_, rfl⟩
          have hv0 : 0 < v := by rcases wonR_range s dx dy with h | h | h <;> omega
          rw [hv]
          have hFx : F x = true := (hSr.seen x).2 (.inr (by simp))
          have HSF := Lib.hid (hSr.finish fun face _ _ => by rw [nxS_won HWX.out]; exact hFx)
          have HPD := Lib.hid ((hP.other x).done (by omega) (.inr HWX.out) 0)
          have hLn : L ≤ n := by have := HL.out; simp at this hlen; have := HD.out; omega
          have hdn : d < n := by omega
          clear hw hv hFx hSr hP hlen
          go_wp2_with fail
          go_roundw
          case rel => exact ⟨D ++ [x], T, F, Lst, d + 1, L, dx, dy, by rw [← HD.out]; simp, by rw [← HL.out]; simp, by go_num, by simpa using hown5, hrow5, hR5, HPD.out, HSF.out, k5, hB5, hsz5⟩
          case measure => simp [intOf]; omega
        --]]
end Go.Proofs.Ytknclgfjoajldab

/-
  Races: the program's ways.
-/
import Derived.Test.YtknclgfjoajldabC4k
import Derived.Test.YtknclgfjoajldabM26
import Derived.Test.YtknclgfjoajldabM22
import Derived.Test.YtknclgfjoajldabWSeek
import Derived.Deep.CutRange
import Derived.Deep.QuietTactic
namespace Go.Proofs.Ytknclgfjoajldab
open Go.RowKit

theorem metZero : Try.zeroCells126 = arrM (fun _ => false) := by kernel_rfl
theorem sizeMet : (Try.prog.info? 126).map (·.size) = some 3362 := by kernel_rfl
theorem infoWay : (Try.prog.info? 108).map (fun i => (i.zero, i.size, i.bytes)) = some (some (.agg #[.int .i64 0, .int .i64 0, .int .i64 0, .int .i64 0, .int .i64 0]), 5, 40) := by kernel_rfl
/-- An entry's cells. -/
def cellsW (W : Nat) (e : We) : List Value := [.int .i64 (Dx W e.q : Nat), .int .i64 (Dy W e.q : Nat), .int .i64 (Dt e.q : Nat), .int .i64 (e.face : Nat), .int .i64 (e.before : Nat)]
def flatW (W : Nat) (L : List We) : List Value := L.flatMap (cellsW W)
theorem flatW_at (W : Nat) : ∀ (L : List We) (k : Nat) (hk : k < L.length), (flatW W L)[k * 5]? = some (.int .i64 (Dx W L[k].q : Nat)) ∧ (flatW W L)[k * 5 + 1]? = some (.int .i64 (Dy W L[k].q : Nat)) ∧ (flatW W L)[k * 5 + 2]? = some (.int .i64 (Dt L[k].q : Nat)) ∧ (flatW W L)[k * 5 + 3]? = some (.int .i64 (L[k].face : Nat)) ∧ (flatW W L)[k * 5 + 4]? = some (.int .i64 (L[k].before : Nat))
  | [], k, hk => by simp at hk
  | e :: L, 0, _ => by simp [flatW, cellsW]
  | e :: L, k + 1, hk => by
    have h := flatW_at W L k (by simpa using hk)
    have e1 : ∀ j, (flatW W (e :: L))[(k + 1) * 5 + j]? = (flatW W L)[k * 5 + j]? := fun j => by
      show ((cellsW W e) ++ flatW W L)[(k + 1) * 5 + j]? = _
      rw [List.getElem?_append_right (by simp [cellsW]; omega)]
      congr 1
      simp [cellsW]; omega
    refine ⟨(e1 0).trans h.1, (e1 1).trans h.2.1, (e1 2).trans h.2.2.1, (e1 3).trans h.2.2.2.1, (e1 4).trans h.2.2.2.2⟩
theorem own_openW {w : World} {t base n W : Nat} {v : Value} {L : List We} (h : w.ownsRow base t 5 v n (flatW W L)) (_ : L.length = n) (h0 : 0 < n) :
    ∃ g c, v = .slice (some ⟨g, 0, none⟩) n c ∧ base ≤ g ∧ n ≤ c ∧ g < w.heap.size ∧ ∀ k (hk : k < L.length), w.cell? ⟨g, k * 5, none⟩ = some (.int .i64 (Dx W L[k].q : Nat)) ∧ w.cell? ⟨g, k * 5 + 1, none⟩ = some (.int .i64 (Dy W L[k].q : Nat)) ∧ w.cell? ⟨g, k * 5 + 2, none⟩ = some (.int .i64 (Dt L[k].q : Nat)) ∧ w.cell? ⟨g, k * 5 + 3, none⟩ = some (.int .i64 (L[k].face : Nat)) ∧ w.cell? ⟨g, k * 5 + 4, none⟩ = some (.int .i64 (L[k].before : Nat)) := by
  have h' := h
  obtain ⟨_, ⟨rfl, hz⟩ | ⟨g, cap, cs, rfl, hg, hh, hnc, _, hsz, htk⟩⟩ := h
  · omega
  · have hc := h'.cells (g := g) rfl
    refine ⟨g, cap, rfl, hg, hnc, heap_lt hh, fun k hk => ?_⟩
    obtain ⟨a1, a2, a3, a4, a5⟩ := flatW_at W L k hk
    have e : ∀ j, (⟨g, 0, none⟩ : Addr).add j = ⟨g, j, none⟩ := fun j => by simp [Addr.add]; exact fun h => h.symm
    exact ⟨by rw [← e]; exact hc _ _ a1, by rw [← e]; exact hc _ _ a2, by rw [← e]; exact hc _ _ a3, by rw [← e]; exact hc _ _ a4, by rw [← e]; exact hc _ _ a5⟩
theorem throw_tok (g : Nat) (s f o me u v x y : Int) (t : Nat) (ht : t < 2) (face : Int) (js : List (Int × Int)) (w : World) (hN : NV w g s f o (fun i => jumpOf js i) (me == 1) u v) (hgw : g < w.heap.size) (hg : good ⟨s, f, o, js⟩ = true) (hx : sqR s js x) (hy : sqR s js y) (hf0 : 1 ≤ face) (hf : face ≤ 8) :
    Calls Try.prog 83 #[.pointer (some ⟨g, 0, none⟩), .agg #[.int .i64 x, .int .i64 y], .int .i64 (t : Int), .int .i64 face] w (BehBack w (stepR s o js me x y (t == 1) face)) := by
  match t, ht with
  | 0, _ => exact throw_any g s f o me u v x y false face js w hN hgw hg hx hy hf0 hf
  | 1, _ => exact throw_any g s f o me u v x y true face js w hN hgw hg hx hy hf0 hf
theorem ok_le {s : Int} {js : List (Int × Int)} {W q : Nat} (hW : W = s.toNat + 1) (h41 : W ≤ 41) (h : okQ s js q) : Dx W q ≤ 40 ∧ Dy W q ≤ 40 := by
  subst hW
  have h1 := h.1.2.1
  have h2 := h.2.2.1
  omega
theorem flatW_snoc (W : Nat) (L : List We) (e : We) : flatW W (L ++ [e]) = flatW W L ++ cellsW W e := by simp [flatW]
theorem cell_new5 (w : World) (a b c d e : Value) (t : TypeId) {g : Nat} (hg : g = w.heap.size) : ∀ (j : Nat) u, [a, b, c, d, e][j]? = some u → (w.alloc (.cells #[a, b, c, d, e] t)).cell? ((⟨g, 0, none⟩ : Addr).add j) = some u := by
  intro j u h
  subst hg
  match j, h with
  | 0, h => simp at h; subst h; simp [Addr.add, World.cell?_alloc_at _ _ _ _ rfl]
  | 1, h => simp at h; subst h; simp [Addr.add, World.cell?_alloc_at _ _ _ _ rfl]
  | 2, h => simp at h; subst h; simp [Addr.add, World.cell?_alloc_at _ _ _ _ rfl]
  | 3, h => simp at h; subst h; simp [Addr.add, World.cell?_alloc_at _ _ _ _ rfl]
  | 4, h => simp at h; subst h; simp [Addr.add, World.cell?_alloc_at _ _ _ _ rfl]
theorem five_int (a b c d e : Int) : ∀ u ∈ [Value.int .i64 a, .int .i64 b, .int .i64 c, .int .i64 d, .int .i64 e], u.oneCell' = true := by
  intro u hu
  simp at hu
  rcases hu with rfl | rfl | rfl | rfl | rfl <;> rfl
/-- A state that has just been met, among the booleans. -/
theorem met_set {s : Int} {js : List (Int × Int)} {W y z : Nat} {P : Nat → Bool} {l l' : List Nat} (hW : W = s.toNat + 1) (h41 : W ≤ 41) (hy : okQ s js y) (hz : ixQ W y = z) (h : ∀ q, okQ s js q → (P (ixQ W q) = true ↔ q ∈ l)) (hl : ∀ q, q ∈ l' ↔ q ∈ l ∨ q = y) (q : Nat) (hq : okQ s js q) : ((fun i => if i = z then true else P i) (ixQ W q) = true ↔ q ∈ l') := by
  have h1 := ok_le hW h41 hq
  have h2 := ok_le hW h41 hy
  rw [hl]
  by_cases e : ixQ W q = z
  · have : q = y := ixQ_inj h1.1 h1.2 h2.1 h2.2 (by rw [e, hz])
    constructor
    · intro _; exact .inr this
    · intro _; simp [e]
  · have : q ≠ y := fun e2 => e (by rw [e2, hz])
    simp only [e, if_false, this, or_false]
    exact h q hq
/-- What ways hands back. -/
def WaysIs (w : World) (s f o : Int) (js : List (Int × Int)) (me : Int) (q0 : Nat) (e : Ending) (w' : World) : Prop :=
  ∃ (L : List We) (v : Value), e = .returned v ∧ w'.ownsRow (w.heap.size + 1) 108 5 v L.length (flatW (s.toNat + 1) L) ∧ Ways (nxP s o js me) (wonQ s) f.toNat (okQ s js) q0 L L.length 0 ∧ Below w.heap.size w w'

set_option maxRecDepth 100000 in
set_option maxHeartbeats 1000000 in
theorem ways_any (g : Nat) (s f o me fi ot : Int) (js : List (Int × Int)) (w : World) (hN : NV w g s f o (fun i => jumpOf js i) (me == 1) fi ot) (hgw : g < w.heap.size) (hr : raceOk s f o js me fi ot = true) :
    Calls Try.prog 68 #[.pointer (some ⟨g, 0, none⟩)] w (WaysIs w s f o js me (cd (s.toNat + 1) fi.toNat ot.toNat 0)) := by
  obtain ⟨hg, h40, hme, ho1, ho2, hlt⟩ := raceOk_parts hr
  have hz := good_sizes hg
  have hsx := sqR_of ho1
  have hsy := sqR_of ho2
  obtain ⟨xf, rfl⟩ := Int.eq_ofNat_of_zero_le hsx.1
  obtain ⟨yo, rfl⟩ := Int.eq_ofNat_of_zero_le hsy.1
  have hxs := hsx.2.1
  have hys := hsy.2.1
  have hok0 := okQ_cd (t := 0) hsx hsy (by omega)
  simp only [Int.toNat_natCast] at hok0 ⊢
  obtain ⟨W, hW⟩ : ∃ W : Nat, W = s.toNat + 1 := ⟨_, rfl⟩
  have hW41 : W ≤ 41 := by omega
  obtain ⟨q0, hq0⟩ : ∃ q, q = cd (s.toNat + 1) xf yo 0 := ⟨_, rfl⟩
  rw [← hq0] at hok0 ⊢
  have HQ0 := Lib.hid hq0; have HW := Lib.hid hW; have HG := Lib.hid hg; have HSX := Lib.hid hsx; have HSY := Lib.hid hsy; have HOK := Lib.hid hok0; have HN := Lib.hid hN
  have c5 := hN.fi; have c6 := hN.ot; have c1 := hN.cv.fa
  have ix0 : (xf : Int) < 41 := by omega
  have iy0 : (yo : Int) < 41 := by omega
  clear hr hg ho1 ho2 hsx hsy hok0 hW hq0 hlt hme hN
  obtain ⟨ti, hi, hiz0, hiz1, hiz2⟩ := info_parts infoWay
  go_enter Try.func68, Try.ntmps68
  go_upto_region 3 with fail
  obtain ⟨W1, hW1⟩ : ∃ W1, W1 = (w.alloc (.cells Try.zeroCells126 126)).alloc (.cells #[.int .i64 xf, .int .i64 yo, .int .i64 0, .int .i64 0, .int .i64 0] 108) := ⟨_, rfl⟩
  have z1 : W1.heap.size = w.heap.size + 2 := by rw [hW1]; simp
  have hB1 : Below w.heap.size w W1 := by rw [hW1]; exact below2 _ _ _
  have kM : W1.heap[w.heap.size]? = some (.cells (arrM fun _ => false) 126 (0, 0)) := by rw [hW1, metZero]; exact (Below.heap_alloc _ _ _ (by simp)).trans (heap_alloc_at _ _ _ rfl)
  have kL : W1.heap[w.heap.size + 1]? = some (.cells #[.int .i64 xf, .int .i64 yo, .int .i64 0, .int .i64 0, .int .i64 0] 108 (0, 0)) := by rw [hW1]; exact heap_alloc_at _ _ _ (by simp)
  rw [← hW1]
  clear hW1
  have hN1 := HN.out.below hB1 hgw
  have d5 := hN1.fi; have d6 := hN1.ot
  have dm := (cell_of_row W1 w.heap.size (xf * 41 + yo) _ _ _ kM).trans (arrM_at _ (by omega))
  have fm : W1.frozen? ⟨w.heap.size, xf * 41 + yo, none⟩ = false := frozen_row (i := xf * 41 + yo) kM
  have HN1 := Lib.hid hN1
  have hgne : ¬ g = w.heap.size := by omega
  clear hN1 c5 c6
  have s5 : (W1.setCell ⟨w.heap.size, xf * 41 + yo, none⟩ (.bool true)).drew.cell? ⟨g, 105, none⟩ = some (.int .i64 (xf : Int)) := (World.cell?_of_block (a := ⟨g, 105, none⟩) (Below.heap_setCell _ _ _ _ hgne)).trans d5
  have s6 : (W1.setCell ⟨w.heap.size, xf * 41 + yo, none⟩ (.bool true)).drew.cell? ⟨g, 106, none⟩ = some (.int .i64 (yo : Int)) := (World.cell?_of_block (a := ⟨g, 106, none⟩) (Below.heap_setCell _ _ _ _ hgne)).trans d6
  go_region_held3 (fun w' => w'.cell? ⟨g, 105, none⟩ = some (.int .i64 (xf : Int)) ∧ w'.cell? ⟨g, 106, none⟩ = some (.int .i64 (yo : Int))) (first | exact ⟨d5, d6⟩ | exact ⟨s5, s6⟩) (fail)
  have hq00 : ixQ W q0 = xf * 41 + yo := by
    have hyl : yo < W := by have := HW.out; omega
    rw [HQ0.out, ← HW.out, ixQ_cd hyl (by omega)]; omega
  have hDq : Dx W q0 = xf ∧ Dy W q0 = yo ∧ Dt q0 = 0 := by
    have hyl : yo < W := by have := HW.out; omega
    rw [HQ0.out, ← HW.out]
    exact ⟨Dx_cd hyl (by omega), Dy_cd hyl (by omega), Dt_cd (by omega)⟩
  obtain ⟨W2, hW2⟩ : ∃ W2, W2 = (W1.setCell ⟨w.heap.size, xf * 41 + yo, none⟩ (.bool true)).drew := ⟨_, rfl⟩
  have hB2 : Below w.heap.size w W2 := by rw [hW2]; exact (hB1.setCell (by dsimp only; omega) _).drew
  have kM2 : W2.heap[w.heap.size]? = some (.cells (arrM fun i => i == ixQ W q0) 126 (0, 0)) := by
    rw [hW2, hq00]
    show (W1.setCell _ _).heap[w.heap.size]? = _
    rw [heap_set W1 w.heap.size (xf * 41 + yo) _ _ (.bool true) kM, arrM_set _ (by omega)]
    have e : (fun i => if i = xf * 41 + yo then true else (fun _ => false) i) = (fun i : Nat => i == xf * 41 + yo) := by
      funext i
      by_cases e : i = xf * 41 + yo <;> simp [e]
    rw [e]
  have kL2 : W2.ownsRow (w.heap.size + 1) 108 5 (.slice (some ⟨w.heap.size + 1, 0, none⟩) 1 1) 1 (flatW W [⟨q0, 0, 0, []⟩]) := by
    refine ⟨rfl, .inr ⟨w.heap.size + 1, 1, #[.int .i64 xf, .int .i64 yo, .int .i64 0, .int .i64 0, .int .i64 0], rfl, Nat.le_refl _, ?_, Nat.le_refl _, by decide, rfl, ?_⟩⟩
    · rw [hW2]
      show (W1.setCell _ _).heap[w.heap.size + 1]? = _
      exact (Below.heap_setCell _ _ _ _ (by dsimp only; omega)).trans kL
    · simp [flatW, cellsW, hDq.1, hDq.2.1, hDq.2.2]
  have z2 : w.heap.size + 2 ≤ W2.heap.size := by rw [hW2]; simp; omega
  have hWa : Ways (nxP s o js me) (wonQ s) f.toNat (okQ s js) q0 [⟨q0, 0, 0, []⟩] 0 0 := Ways.begin HOK.out
  (try rw [← hW2])
  clear hW2 kM kL d5 d6 dm fm hB1 z1 HN1 s5 s6
  go_wp2_with fail
  go_loopw [4, 5, 6, 7, 8, 9, 10, 11] (fun v i _ _ _ _ _ _ wr => ∃ (L : List We) (d n : Nat) (P : Nat → Bool), L.length = n ∧ d ≤ n ∧ i = .int .i64 (d : Int) ∧ wr.ownsRow (w.heap.size + 1) 108 5 v n (flatW W L) ∧ wr.heap[w.heap.size]? = some (.cells (arrM P) 126 (0, 0)) ∧ (∀ q, okQ s js q → (P (ixQ W q) = true ↔ q ∈ L.map (·.q))) ∧ Ways (nxP s o js me) (wonQ s) f.toNat (okQ s js) q0 L d 0 ∧ Below w.heap.size w wr ∧ w.heap.size + 2 ≤ wr.heap.size) (fun _ i _ _ _ _ _ _ _ => 3362 - (intOf i).toNat)
  case atStart =>
    refine ⟨[⟨q0, 0, 0, []⟩], 0, 1, _, rfl, Nat.zero_le _, rfl, kL2, kM2, fun q hq => ?_, hWa, hB2, z2⟩
    have h1 := ok_le HW.out hW41 hq
    have h2 := ok_le HW.out hW41 HOK.out
    constructor
    · intro h
      have : q = q0 := ixQ_inj h1.1 h1.2 h2.1 h2.2 (by simpa using h)
      simp [this]
    · intro h
      have : q = q0 := by simpa using h
      simp [this]
  case round =>
    clear hB2 kM2 kL2 z2 hWa
    obtain ⟨L, d, n, P, hLn, hdn, rfl, hown, kM, hP, hWy, hB, hsz⟩ := hrel
    have hokb : ∀ q, okQ s js q → q < 3362 := fun q hq => by
      have h1 := okQ_lt hq
      rw [← HW.out] at h1
      have h2 : W * W ≤ 41 * 41 := Nat.mul_le_mul hW41 hW41
      omega
    have hnb := hWy.len hokb
    have HOKB := Lib.hid hokb
    clear hokb
    have hdb : d ≤ 3362 := by omega
    by_cases hlt : d < n
    · have t1 : (d : Int) < (n : Int) := by omega
      obtain ⟨gq, cq, rfl, hgq, hcq, hlq, hcell⟩ := own_openW hown hLn (by omega)
      obtain ⟨a1, a2, a3, a4, a5⟩ := hcell d (by omega)
      have hdL : d < L.length := by omega
      have hoke := hWy.on L[d] (List.getElem_mem _)
      unfold okQ at hoke
      rw [← HW.out] at hoke
      have hqd : wonQ s L[d].q = wonR s (Dx W L[d].q : Nat) (Dy W L[d].q : Nat) := by unfold wonQ; rw [← HW.out]
      obtain ⟨e, he⟩ : ∃ e, L[d] = e := ⟨_, rfl⟩
      rw [he] at a1 a2 a3 a4 a5 hoke hqd
      obtain ⟨q, fe, be, pe⟩ := e
      dsimp only at a1 a2 a3 a4 a5 hoke hqd
      obtain ⟨dx, hdx⟩ : ∃ n, Dx W q = n := ⟨_, rfl⟩
      obtain ⟨dy, hdy⟩ : ∃ n, Dy W q = n := ⟨_, rfl⟩
      obtain ⟨dt, hdt⟩ : ∃ n, Dt q = n := ⟨_, rfl⟩
      rw [hdx] at a1 hoke hqd
      rw [hdy] at a2 hoke hqd
      rw [hdt] at a3
      have HE := Lib.hid he; have HOKE := Lib.hid hoke; have HQD := Lib.hid hqd; have HDX := Lib.hid hdx; have HDY := Lib.hid hdy; have HDT := Lib.hid hdt
      have HLN := Lib.hid hLn; have HWY := Lib.hid hWy; have HP := Lib.hid hP
      clear hcell he hoke hqd hdx hdy hdt hLn hWy hP
      go_wp2_with fail
      have hBa : Below w.heap.size w (wr.alloc (.cells #[.int .i64 dx, .int .i64 dy, .int .i64 dt, .int .i64 fe, .int .i64 be] 108)) := hB.alloc hB.size _
      refine (winner_any g s f o _ _ _ _ _ _ _ (HN.out.below hBa hgw) (by simp; omega)).mono ?_
      rintro e w5 ⟨rfl, hx5⟩
      have hB5 : Below wr.heap.size wr w5 := (below1 _ _).trans (hx5.mono (by simp))
      have kF5 : w5.heap[wr.heap.size]? = some (.cells #[.int .i64 dx, .int .i64 dy, .int .i64 dt, .int .i64 fe, .int .i64 be] 108 (0, 0)) := (hx5.block _ (by simp)).trans (heap_alloc_at _ _ _ rfl)
      have hown5 := own_below hown hB5
      have kM5 := (hB5.block w.heap.size (by omega)).trans kM
      have hBw5 := hB.trans (hB5.mono hB.size)
      have hs5 : wr.heap.size < w5.heap.size := by have := hx5.size; simp at this; omega
      obtain ⟨bF, hbF⟩ : ∃ b, b = wr.heap.size := ⟨_, rfl⟩
      rw [← hbF] at kF5 hs5
      rw [← hbF]
      have hbF2 : w.heap.size + 2 ≤ bF := by omega
      have hqF : gq ≠ bF := by omega
      clear hx5 hB5 hBa hown kM hB hsz a1 a2 a3 a4 a5 hgq hcq hlq hbF
      by_cases hw : wonR s dx dy = 0
      · have HWX := Lib.hid (show wonQ s q = 0 by rw [HQD.out]; exact hw)
        rw [hw]
        clear hw
        go_wp2_with fail
        go_loopw [4, 7, 8, 9, 10, 11] (fun v fc _ _ _ _ wi => ∃ (L : List We) (n j : Nat) (P : Nat → Bool), L.length = n ∧ d < n ∧ j ≤ f.toNat ∧ fc = .int .i64 ((j : Int) + 1) ∧ (∀ h : d < L.length, L[d] = ⟨q, fe, be, pe⟩) ∧ wi.ownsRow (w.heap.size + 1) 108 5 v n (flatW W L) ∧ wi.heap[w.heap.size]? = some (.cells (arrM P) 126 (0, 0)) ∧ (∀ q, okQ s js q → (P (ixQ W q) = true ↔ q ∈ L.map (·.q))) ∧ Ways (nxP s o js me) (wonQ s) f.toNat (okQ s js) q0 L d j ∧
          wi.heap[bF]? = some (.cells #[.int .i64 dx, .int .i64 dy, .int .i64 dt, .int .i64 fe, .int .i64 be] 108 (0, 0)) ∧ Below w.heap.size w wi ∧ bF + 1 ≤ wi.heap.size ∧ v.ownBlock ≠ some bF) (fun _ fc _ _ _ _ _ => f.toNat + 1 - (intOf fc).toNat)
        case atStart => exact ⟨L, n, 0, P, HLN.out, hlt, Nat.zero_le _, rfl, fun _ => HE.out, hown5, kM5, HP.out, HWY.out, kF5, hBw5, hs5, fun e => hqF (by injection e)⟩
        case round =>
          clear hown5 kM5 kF5 hBw5 hs5
          obtain ⟨L, n, j, P, hLn, hdn2, hjf, rfl, hE, hown, kM, hP, hWy, kF, hB, hsz, hvb⟩ := hrel
          have hNw := HN.out.below hB hgw
          have cf := hNw.cv.fa
          obtain ⟨gv, cv, rfl, hgv, _, hlv, _⟩ := own_openW hown hLn (by omega)
          have hbv : bF ≠ gv := fun e => hvb (by rw [e]; rfl)
          by_cases hlj : j < f.toNat
          · have h4 : (j : Int) + 1 ≤ f := by omega
            have qF := fun i => cell_of_row wr bF i _ _ _ kF
            have hdt2 : dt < 2 := by rw [← HDT.out]; unfold Dt; omega
            have hst0 := stepR_sq (o := o) (me := me) (sec := dt == 1) (face := (j : Int) + 1) HG.out HOKE.out.1 HOKE.out.2 (by omega)
            obtain ⟨⟨⟨x', y'⟩, bs⟩, hst⟩ : ∃ R, stepR s o js me dx dy (dt == 1) ((j : Int) + 1) = R := ⟨_, rfl⟩
            rw [hst] at hst0
            obtain ⟨hsx', hsy'⟩ := hst0
            dsimp only at hsx' hsy'
            obtain ⟨xn, rfl⟩ := Int.eq_ofNat_of_zero_le hsx'.1
            obtain ⟨yn, rfl⟩ := Int.eq_ofNat_of_zero_le hsy'.1
            have hxn2 : xn < W := by have := hsx'.2.1; have := HW.out; omega
            have hyn2 : yn < W := by have := hsy'.2.1; have := HW.out; omega
            obtain ⟨tn, htn'⟩ : ∃ t, t = 1 - dt := ⟨_, rfl⟩
            have htn : 1 - (dt : Int) = (tn : Int) := by omega
            have htn2 : tn < 2 := by omega
            obtain ⟨y, hy⟩ : ∃ y, nxP s o js me q (j + 1) = y := ⟨_, rfl⟩
            have hcast : (((j + 1 : Nat) : Int)) = (j : Int) + 1 := by omega
            have hyc : y = cd W xn yn tn := by
              rw [← hy]
              unfold nxP
              rw [if_neg (by rw [HWX.out]; simp), ← HW.out, HDX.out, HDY.out, HDT.out, hcast, hst, htn']
              simp
            have hyo : okQ s js y := by rw [← hy]; exact okQ_nxP HG.out (by have := hWy.on _ (List.getElem_mem (show d < L.length by omega)); rw [hE (by omega)] at this; exact this) (by omega)
            have hiy : ixQ W y = tn * 1681 + xn * 41 + yn := by rw [hyc]; exact ixQ_cd hyn2 htn2
            have HY := Lib.hid hy; have HYC := Lib.hid hyc; have HYO := Lib.hid hyo; have HIY := Lib.hid hiy; have HST := Lib.hid hst; have HEE := Lib.hid hE
            have HLN2 := Lib.hid hLn; have HWY2 := Lib.hid hWy; have HP2 := Lib.hid hP
            have HNW := Lib.hid hNw
            have hnb2 := hWy.len HOKB.out
            clear hy hyc hyo hiy hst hE hLn hWy hP hNw hcast htn'
            go_wp2_with fail
            refine (throw_tok g s f o me _ _ _ _ dt hdt2 _ js _ HNW.out (by have := hB.size; omega) HG.out HOKE.out.1 HOKE.out.2 (by omega) (by omega)).mono ?_
            rintro e w6 ⟨rfl, hx6⟩
            rw [HST.out]
            dsimp only
            have hB6 : Below wr.heap.size wr w6 := hx6
            have hbw : bF < wr.heap.size := by omega
            have qF6 := fun i => (bcell (o := i) hB6 hbw).trans (qF i)
            have z6 : wr.heap.size ≤ w6.heap.size := hB6.size
            have hbw6 : bF < w6.heap.size := by omega
            clear qF hx6 cf
            go_upto_region 14 with fail
            obtain ⟨W8, hW8⟩ : ∃ W8, W8 = (w6.alloc (.cells #[.int .i64 xn, .int .i64 yn] 63)).alloc (.cells #[.int .i64 xn, .int .i64 yn, .int .i64 tn, .int .i64 ((j : Int) + 1), .int .i64 d] 108) := ⟨_, rfl⟩
            have hB8 : Below wr.heap.size wr W8 := by rw [hW8]; exact (hB6.alloc z6 _).alloc (by simp; omega) _
            have z8 : W8.heap.size = w6.heap.size + 2 := by rw [hW8]; simp
            have kA : W8.heap[w6.heap.size]? = some (.cells #[.int .i64 xn, .int .i64 yn] 63 (0, 0)) := by rw [hW8]; exact (Below.heap_alloc _ _ _ (by simp)).trans (heap_alloc_at _ _ _ rfl)
            have kC : W8.heap[w6.heap.size + 1]? = some (.cells #[.int .i64 xn, .int .i64 yn, .int .i64 tn, .int .i64 ((j : Int) + 1), .int .i64 d] 108 (0, 0)) := by rw [hW8]; exact heap_alloc_at _ _ _ (by simp)
            rw [← hW8]
            clear hW8
            have qA := fun i => cell_of_row W8 w6.heap.size i _ _ _ kA
            have qC := fun i => cell_of_row W8 (w6.heap.size + 1) i _ _ _ kC
            have ixn : (xn : Int) < 41 := by omega
            have iyn : (yn : Int) < 41 := by omega
            have itn : (tn : Int) < 2 := by omega
            clear qF6 hB6
            go_quiet (fail)
            obtain ⟨z, hz'⟩ : ∃ z, z = tn * 1681 + xn * 41 + yn := ⟨_, rfl⟩
            have hz33 : z < 3362 := by omega
            rw [← hz']
            have HZ := Lib.hid hz'
            clear hz'
            have hown8 := own_below hown hB8
            have kM8 := (hB8.block w.heap.size (by omega)).trans kM
            have hBw8 := hB.trans (hB8.mono hB.size)
            have kF8 := (hB8.block bF hbw).trans kF
            have dm := (cell_of_row W8 w.heap.size z _ _ _ kM8).trans (arrM_at _ hz33)
            have fm : W8.frozen? ⟨w.heap.size, z, none⟩ = false := frozen_row (i := z) kM8
            have hz8 : w.heap.size < w6.heap.size := by omega
            have HIZ := Lib.hid (show ixQ W y = z by rw [HIY.out, HZ.out])
            have hLnn := HLN2.out
            have hn33 : n ≤ 3362 := by omega
            have hdL2 : d < L.length := by omega
            have z8' : w6.heap.size + 2 ≤ W8.heap.size := by omega
            clear hown kM hB kF hB8 kA kC hLnn qA z8
            cases hPz : P z
            · rw [hPz] at dm
              have hnew : ∀ e ∈ L, e.q ≠ y := fun e he hq => by
                have h1 := (HP2.out y HYO.out).2 (List.mem_map.2 ⟨e, he, hq⟩)
                rw [HIZ.out, hPz] at h1
                cases h1
              have HPU := Lib.hid (HWY2.out.push hdL2 (by rw [HEE.out hdL2]; exact HWX.out) (by omega) (by rw [HEE.out hdL2]; exact HY.out) HYO.out hnew)
              have HPZ := Lib.hid hPz
              have hown9 := own_below (show World.ownsRow (W8.drewN nq) (w.heap.size + 1) 108 5 (.slice (some ⟨gv, 0, none⟩) n cv) n (flatW W L) from hown8) (below1 _ (.cells #[.int .i64 xn, .int .i64 yn, .int .i64 tn, .int .i64 ((j : Int) + 1), .int .i64 d] 108))
              clear hPz hnew hown8
              go_wp2_with (at_builtin; go_loud (refine wpList_append_own_at _ rfl _ _ 104 rfl (w.heap.size + 1) 108 ti (.agg #[.int .i64 0, .int .i64 0, .int .i64 0, .int .i64 0, .int .i64 0]) 5 40 Try.underlying104 hi hiz0 hiz1 hiz2 rfl (by decide) _ _ _ rfl hown9 ⟨W8.heap.size, 0, none⟩ 1 1 [.int .i64 xn, .int .i64 yn, .int .i64 tn, .int .i64 ((j : Int) + 1), .int .i64 d] rfl rfl (cell_new5 _ _ _ _ _ _ _ rfl) (five_int _ _ _ _ _) (by unfold maxLen; omega) (by omega) (by simp; omega) ?_; intro v9 w9 hown10 hg9 _ hat9; have hM9 := (hg9.block w.heap.size (by simp; omega) (fun e => by injection e with e; have e2 : w.heap.size = gv := e; omega)).trans ((Below.heap_alloc (W8.drewN nq) _ w.heap.size (show w.heap.size < W8.heap.size by omega)).trans kM8); have dm9 : w9.cell? ⟨w.heap.size, z, none⟩ = some (.bool false) := (cell_of_row w9 w.heap.size z _ _ _ hM9).trans ((arrM_at _ hz33).trans (by rw [HPZ.out])); have fm9 : w9.frozen? ⟨w.heap.size, z, none⟩ = false := frozen_row (i := z) hM9))
              have hs9 := hg9.size
              simp only [World.size_alloc] at hs9
              have hs9' : W8.heap.size + 1 ≤ w9.heap.size := hs9
              clear dm9 fm9
              go_roundw
              case rel =>
                refine ⟨L ++ [⟨y, j + 1, d, pe ++ [j + 1]⟩], n + 1, j + 1, fun i => if i = z then true else P i, by simp [HLN2.out], by omega, hlj, by go_num, fun h => ?_, ?_, ?_, met_set HW.out hW41 HYO.out HIZ.out HP2.out (fun q => ?_), ?_, ?_, ?_, ?_⟩
                · rw [List.getElem_append_left hdL2]; exact HEE.out hdL2
                · have e := flatW_snoc W L ⟨y, j + 1, d, pe ++ [j + 1]⟩
                  rw [e]
                  have hcy := HYC.out
                  have e1 : Dx W y = xn := by rw [hcy]; exact Dx_cd hyn2 htn2
                  have e2 : Dy W y = yn := by rw [hcy]; exact Dy_cd hyn2 htn2
                  have e3 : Dt y = tn := by rw [hcy]; exact Dt_cd htn2
                  have e4 : cellsW W ⟨y, j + 1, d, pe ++ [j + 1]⟩ = [.int .i64 xn, .int .i64 yn, .int .i64 tn, .int .i64 ((j : Int) + 1), .int .i64 d] := by
                    unfold cellsW
                    rw [e1, e2, e3]
                    rfl
                  rw [e4]
                  exact ownsRow_setCell_below hown10 (by dsimp only; omega) _
                · rw [heap_set w9 w.heap.size z _ _ (.bool true) hM9, arrM_set _ hz33]
                · simp
                · have := HPU.out
                  simp only [HEE.out hdL2] at this
                  exact this
                · exact (Below.heap_setCell _ _ _ _ (by dsimp only; omega)).trans ((hg9.block bF (by simp; omega) (fun e => by injection e with e; have e2 : bF = gv := e; exact hbv e2)).trans ((Below.heap_alloc (W8.drewN nq) _ bF (show bF < W8.heap.size by omega)).trans kF8))
                · exact (((drewB hBw8 nq).alloc (show w.heap.size ≤ W8.heap.size by omega) _).grown hg9 (by simp; omega) (fun k e => by injection e with e; have e2 : gv = k := e; omega)).setCell (by dsimp only; omega) _
                · refine ⟨by simp only [World.size_setCell]; omega, fun e => ?_⟩
                  rcases hat9 with h | h
                  · rw [h] at e; injection e with e; exact hbv e.symm
                  · rw [h] at e; injection e with e; have e2 : W8.heap.size + 1 = bF := by simpa using e
                    omega
              case measure => simp [intOf]; omega
            · rw [hPz] at dm
              have hold : ∃ e ∈ L, e.q = y := List.mem_map.1 ((HP2.out y HYO.out).1 (by rw [HIZ.out]; exact hPz))
              have HSK := Lib.hid (HWY2.out.skip hdL2 (by rw [HEE.out hdL2]; exact HY.out) hold)
              have HPZ := Lib.hid hPz
              clear hPz hold
              go_wp2_with fail
              go_roundw
              case rel =>
                refine ⟨L, n, j + 1, fun i => if i = z then true else P i, HLN2.out, hdn2, hlj, by go_num, HEE.out, ?_, ?_, met_set HW.out hW41 HYO.out HIZ.out HP2.out (fun q => ⟨fun h => .inl h, fun h => ?_⟩), HSK.out, ?_, ?_, ?_⟩
                · exact ownsRow_setCell_below hown8 (show w.heap.size < w.heap.size + 1 by omega) _
                · exact (heap_set W8 w.heap.size z _ _ (.bool true) kM8).trans (by rw [arrM_set _ hz33])
                · rcases List.mem_map.1 ((HP2.out y HYO.out).1 (by rw [HIZ.out]; exact HPZ.out)) with ⟨e, he, hq⟩
                  rcases h with h | h
                  · exact h
                  · rw [h]; exact List.mem_map.2 ⟨e, he, hq⟩
                · exact (Below.heap_setCell _ _ _ _ (show bF ≠ w.heap.size by omega)).trans kF8
                · exact (drewB hBw8 nq).setCell (show w.heap.size ≤ w.heap.size from Nat.le_refl _) _
                · refine ⟨?_, fun e => by injection e with e; exact hbv e.symm⟩
                  simp only [World.size_setCell]; show bF + 1 ≤ W8.heap.size; omega
              case measure => simp [intOf]; omega
          · have h4 : ¬ (j : Int) + 1 ≤ f := by omega
            have HWY2 := Lib.hid hWy; have HP2 := Lib.hid hP; have HLN2 := Lib.hid hLn
            clear hWy hP hLn hE
            go_wp2_with fail
            go_roundw
            case rel => exact ⟨L, d + 1, n, P, HLN2.out, by omega, by go_num, hown, kM, HP2.out, HWY2.out.done (by have := HLN2.out; omega) (.inl (by omega)), hB, by omega⟩
            case measure => simp [intOf]; omega
      · have HWX := Lib.hid (show ¬ wonQ s q = 0 by rw [HQD.out]; exact hw)
        have hvb : (wonR s dx dy != 0) = true := by simpa using hw
        clear hw
        go_wp2_with fail
        go_roundw
        case rel => exact ⟨L, d + 1, n, P, HLN.out, hlt, by go_num, hown5, kM5, HP.out, HWY.out.done hdL (.inr (by have := HE.out; rw [this]; exact HWX.out)), hBw5, by omega⟩
        case measure => simp [intOf]; omega
    · have t1 : ¬ (d : Int) < (n : Int) := by omega
      obtain rfl : n = d := by omega
      have HLN := Lib.hid hLn; have HWY := Lib.hid hWy
      obtain ⟨Av, cv, rfl⟩ := own_sliceS hown
      clear hP hLn hWy
      go_wp2_with fail
      go_ret
      refine ⟨L, .slice Av n cv, rfl, ?_, ?_, hB⟩
      · rw [HLN.out, ← HW.out]; exact hown
      · have := HWY.out
        rw [HLN.out]
        exact this
end Go.Proofs.Ytknclgfjoajldab

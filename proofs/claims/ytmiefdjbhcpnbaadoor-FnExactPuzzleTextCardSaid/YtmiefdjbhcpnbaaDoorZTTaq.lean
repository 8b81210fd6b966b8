/- Several texts, one behind the other: T3. -/
import Derived.Deep.RegionHeld3
import Derived.Test.YtmiefdjbhcpnbaaDoorZTTah
import Derived.Test.YtmiefdjbhcpnbaaDoorZTTap

namespace Go.Proofs.YtmiefdjbhcpnbaaDoor
open Go.RowKit

/-- A clue's text. -/
def clL (c : Qd) : List UInt8 := numL c.1 ++ 46 :: (numL c.2.1 ++ 46 :: (numL c.2.2.1 ++ 46 :: numL c.2.2.2))
def clTB (c : Qd) : ByteArray := ⟨(clL c).toArray⟩
def clsL (L : List Qd) : List UInt8 := joinL 44 (L.map clL)
/-- The text of a puzzle with these clues. -/
def pzL (q f : Int) (L : List Qd) : List UInt8 := numL q ++ 100 :: (numL f ++ 58 :: clsL L)
def pzTB (q f : Int) (L : List Qd) : ByteArray := ⟨(pzL q f L).toArray⟩
/-- A clue's numbers are small. -/
structure ClTx (c : Qd) : Prop where
  n1 : 0 ≤ c.1 ∧ c.1 ≤ 999
  n2 : 0 ≤ c.2.1 ∧ c.2.1 ≤ 999
  n3 : 0 ≤ c.2.2.1 ∧ c.2.2.1 ≤ 999
  n4 : 0 ≤ c.2.2.2 ∧ c.2.2.2 ≤ 999
theorem clTx_of {q f : Int} {c : Qd} (hq : q ≤ 10) (hf : f ≤ 8) (h : clQ q f c = true) : ClTx c := by
  obtain ⟨k, a, b, d⟩ := c
  unfold clQ at h
  dsimp only at h
  have hk := clB_k h
  rw [clB_eq hk.1 hk.2, Bool.and_eq_true, Bool.and_eq_true, inB_iff, inB_iff, inB_iff] at h
  obtain ⟨⟨⟨a0, a1⟩, b0, b1⟩, c0, c1⟩ := h
  have m1 : moA q k ≤ 20 := by unfold moA; split <;> (try split) <;> omega
  have m2 : moB f k ≤ 8 := by unfold moB; split <;> omega
  have m3 : moC q k ≤ 10 := by unfold moC; split <;> (try split) <;> (try split) <;> omega
  have m4 : 0 ≤ leB k := by unfold leB; split <;> omega
  exact ⟨by dsimp only; omega, by dsimp only; omega, by dsimp only; omega, by dsimp only; omega⟩
theorem clL_len {c : Qd} (h : ClTx c) : (clL c).length ≤ 15 := by
  have l1 := numL_len _ h.n1.2
  have l2 := numL_len _ h.n2.2
  have l3 := numL_len _ h.n3.2
  have l4 := numL_len _ h.n4.2
  simp only [clL, List.length_append, List.length_cons]
  omega
theorem clsL_len (L : List Qd) (h : ∀ c ∈ L, ClTx c) : (clsL L).length ≤ 16 * L.length := by
  have := joinL_len 44 15 (L.map clL) (fun y hy => by
    obtain ⟨x, hx, rfl⟩ := List.mem_map.1 hy
    exact clL_len (h x hx))
  rw [List.length_map] at this
  exact this
theorem clsL_step (L : List Qd) (k : Nat) (hk : k < L.length) (h0 : 0 < k) : clsL (L.take (k + 1)) = clsL (L.take k) ++ 44 :: clL L[k] := by
  unfold clsL
  rw [List.take_succ_eq_append_getElem hk, List.map_append, List.map_singleton, joinL_snoc _ _ _ (by
    intro e
    have h2 : ((L.take k).map clL).length = 0 := by rw [e]; rfl
    rw [List.length_map, List.length_take] at h2
    omega)]
theorem clsL_one (L : List Qd) (hk : 0 < L.length) : clsL (L.take 1) = clL L[0] := by
  unfold clsL
  rw [List.take_succ_eq_append_getElem hk]
  simp [joinL]
theorem cl_adds (P : Program) (k a b c : Int) (h : ClTx (k, a, b, c)) : ∃ s1 s2 s3 s4 s5 : ByteArray,
    (∀ W, (Op.stringOp .add (numB k) ⟨#[46]⟩).run P W = .ok (.string s1) W) ∧ (∀ W, (Op.stringOp .add s1 (numB a)).run P W = .ok (.string s2) W) ∧
    (∀ W, (Op.stringOp .add s2 ⟨#[46]⟩).run P W = .ok (.string s3) W) ∧ (∀ W, (Op.stringOp .add s3 (numB b)).run P W = .ok (.string s4) W) ∧
    (∀ W, (Op.stringOp .add s4 ⟨#[46]⟩).run P W = .ok (.string s5) W) ∧ (∀ W, (Op.stringOp .add s5 (numB c)).run P W = .ok (.string (clTB (k, a, b, c))) W) := by
  have l1 := numL_len k h.n1.2
  have l2 := numL_len a h.n2.2
  have l3 := numL_len b h.n3.2
  have l4 := numL_len c h.n4.2
  refine ⟨_, _, _, _, _, addL P (numL k) [46] (by simp; omega), addL P _ (numL a) (by simp; omega), addL P _ [46] (by simp; omega), addL P _ (numL b) (by simp; omega), addL P _ [46] (by simp; omega), fun W => ?_⟩
  have e := addL P (((((numL k ++ [46]) ++ numL a) ++ [46]) ++ numL b) ++ [46]) (numL c) (by simp; omega) W
  rw [show (((((numL k ++ [46]) ++ numL a) ++ [46]) ++ numL b) ++ [46]) ++ numL c = clL (k, a, b, c) by simp [clL]] at e
  exact e
theorem pz_adds (P : Program) (q f : Int) (hq : q ≤ 999) (hf : f ≤ 999) : ∃ s1 s2 : ByteArray,
    (∀ W, (Op.stringOp .add (numB q) ⟨#[100]⟩).run P W = .ok (.string s1) W) ∧ (∀ W, (Op.stringOp .add s1 (numB f)).run P W = .ok (.string s2) W) ∧ (∀ W, (Op.stringOp .add s2 ⟨#[58]⟩).run P W = .ok (.string (pzTB q f [])) W) := by
  have l1 := numL_len q hq
  have l2 := numL_len f hf
  refine ⟨_, _, addL P (numL q) [100] (by simp; omega), addL P _ (numL f) (by simp; omega), fun W => ?_⟩
  have e := addL P ((numL q ++ [100]) ++ numL f) [58] (by simp; omega) W
  rw [show ((numL q ++ [100]) ++ numL f) ++ [58] = pzL q f [] by simp [pzL, clsL, joinL]] at e
  exact e
/-- One clue more. -/
theorem pz_first (P : Program) (q f : Int) (L : List Qd) (hq : q ≤ 999) (hf : f ≤ 999) (hL : ∀ c ∈ L, ClTx c) (hp : 0 < L.length) : ∀ W, (Op.stringOp .add (pzTB q f []) (clTB L[0])).run P W = .ok (.string (pzTB q f (L.take 1))) W := by
  intro W
  have l1 := numL_len q hq
  have l2 := numL_len f hf
  have l3 := clL_len (hL L[0] (List.getElem_mem hp))
  have e := addL P (pzL q f []) (clL L[0]) (by simp [pzL, clsL, joinL]; omega) W
  rw [← clsL_one L hp] at e
  rw [show pzL q f [] ++ clsL (L.take 1) = pzL q f (L.take 1) by simp [pzL, clsL, joinL], clsL_one L hp] at e
  exact e
theorem pz_more (P : Program) (q f : Int) (L : List Qd) (hq : q ≤ 999) (hf : f ≤ 999) (hL : ∀ c ∈ L, ClTx c) (h6 : L.length ≤ 6) (k : Nat) (hk : k < L.length) (h0 : 0 < k) : ∃ s : ByteArray,
    (∀ W, (Op.stringOp .add (pzTB q f (L.take k)) ⟨#[44]⟩).run P W = .ok (.string s) W) ∧ (∀ W, (Op.stringOp .add s (clTB L[k])).run P W = .ok (.string (pzTB q f (L.take (k + 1)))) W) := by
  have l1 := numL_len q hq
  have l2 := numL_len f hf
  have l3 := clL_len (hL L[k] (List.getElem_mem hk))
  have l4 := clsL_len (L.take k) fun c hc => hL c (List.mem_of_mem_take hc)
  rw [List.length_take] at l4
  have l5 : min k L.length ≤ 6 := by omega
  have l6 : (pzL q f (L.take k)).length ≤ 200 := by simp only [pzL, List.length_append, List.length_cons]; omega
  refine ⟨_, addL P (pzL q f (L.take k)) [44] (by simp; omega), fun W => ?_⟩
  have e := addL P (pzL q f (L.take k) ++ [44]) (clL L[k]) (by simp; omega) W
  rw [show pzL q f (L.take k) ++ [44] ++ clL L[k] = pzL q f (L.take (k + 1)) by rw [pzL, pzL, clsL_step L k hk h0]; simp] at e
  exact e
theorem pz_nums {q f : Int} {L : List Qd} (h : pzB q f L = true) : (0 ≤ q ∧ q ≤ 999) ∧ (0 ≤ f ∧ f ≤ 999) ∧ L.length ≤ 6 ∧ ∀ c ∈ L, ClTx c := by
  obtain ⟨h1, h2, h3, h4⟩ := pzB_parts h
  refine ⟨by omega, by omega, h3, fun c hc => ?_⟩
  obtain ⟨j, hj, rfl⟩ := List.mem_iff_getElem.1 hc
  exact clTx_of h1.2 h2.2 (h4 j hj)
set_option maxHeartbeats 8000000 in
set_option maxRecDepth 100000 in
theorem pzText_any (q f : Int) (A : Option Addr) (cp : Nat) (L : List Qd) (w : World) (hL : RQ w w.heap.size A L) (hq : 0 ≤ q ∧ q ≤ 999) (hf : 0 ≤ f ∧ f ≤ 999) (h6 : L.length ≤ 6) (hcx : ∀ c ∈ L, ClTx c) :
    Calls Tryd.prog 41 #[.agg #[.int .i64 q, .int .i64 f, .slice A L.length cp]] w fun e w' => e = .returned (.string (pzTB q f L)) ∧ Below w.heap.size w w' := by
  have hl := hL.1
  obtain ⟨s1, s2, a1, a2, a3⟩ := pz_adds Tryd.prog q f hq.2 hf.2
  have hw0 : Below w.heap.size w (w.alloc (.cells #[.int .i64 q, .int .i64 f, .slice A L.length cp] 43)) := below1 _ _
  have hb0 : Below (w.heap.size + 1) (w.alloc (.cells #[.int .i64 q, .int .i64 f, .slice A L.length cp] 43)) (w.alloc (.cells #[.int .i64 q, .int .i64 f, .slice A L.length cp] 43)).drew := (Below.refl _ _).drew
  have qb := boxcells hb0
  have HQ := Lib.hid hq
  have HF := Lib.hid hf
  have HX := Lib.hid hcx
  clear hq hf hcx
  go_enter Tryd.func41, Tryd.ntmps41
  go_wp2_with fail
  go_region_held3 (fun w' => Below (w.heap.size + 1) (w.alloc (.cells #[.int .i64 q, .int .i64 f, .slice A L.length cp] 43)) w' ∧ (∀ i, w'.cell? ⟨w.heap.size, i, none⟩ = #[.int .i64 q, .int .i64 f, .slice A L.length cp][i]?)) (go_keep)
    (first
      | (go_at_call 57; refine (l1Num_on _ (by with_reducible first | exact HQ.out.1 | exact HF.out.1) (by with_reducible first | exact HQ.out.2 | exact HF.out.2) (by assumption)).mono ?_; rintro e w1 ⟨rfl, k1, k2⟩))
  go_wp2_with fail
  have hb1 := k1
  clear k1 k2 hb0 qb
  go_loopw [3, 18] (fun r i wr => ∃ k : Nat, k ≤ L.length ∧ i = .int .i64 k ∧ r = .string (pzTB q f (L.take k)) ∧ Below (w.heap.size + 1) (w.alloc (.cells #[.int .i64 q, .int .i64 f, .slice A L.length cp] 43)) wr) (fun _ i _ => L.length - (intOf i).toNat)
  case atStart => exact ⟨0, Nat.zero_le _, rfl, rfl, hb1⟩
  case round =>
    clear hb1
    obtain ⟨k, hk, rfl, rfl, hb⟩ := hrel
    have hb' := hw0.trans (hb.mono (by omega))
    by_cases hlt : k < L.length
    · obtain ⟨b, off, rfl, hB, h1, h2, h3, h4⟩ := hL.at_ hb' hlt
      have hs := hb.size
      have hcl := HX.out L[k] (List.getElem_mem hlt)
      by_cases hk0 : k = 0
      · subst hk0
        have e1 := pz_first Tryd.prog q f L HQ.out.2 HF.out.2 HX.out hlt
        obtain ⟨d, hd⟩ : ∃ d, d = L[0] := ⟨_, rfl⟩
        rw [← hd] at h1 h2 h3 h4 hcl e1
        clear hd
        obtain ⟨k0, a0, b0, d0⟩ := d
        dsimp only at h1 h2 h3 h4
        simp only [Nat.zero_mul, Nat.add_zero] at h1 h2 h3 h4
        obtain ⟨t1, t2, t3, t4, t5, b1, b2, b3, b4, b5, b6⟩ := cl_adds Tryd.prog k0 a0 b0 d0 hcl
        have H1 := Lib.hid hcl.n1; have H2 := Lib.hid hcl.n2; have H3 := Lib.hid hcl.n3; have H4 := Lib.hid hcl.n4
        obtain ⟨CT, hCT⟩ : ∃ CT, CT = clTB (k0, a0, b0, d0) := ⟨_, rfl⟩
        rw [← hCT] at b6 e1
        clear hcl hCT
        have hc0 : Below (wr.heap.size + 1) (wr.alloc (.cells #[.int .i64 k0, .int .i64 a0, .int .i64 b0, .int .i64 d0] 67)) (wr.alloc (.cells #[.int .i64 k0, .int .i64 a0, .int .i64 b0, .int .i64 d0] 67)).drew := (Below.refl _ _).drew
        have qc := boxcells hc0
        go_wp2_with fail
        go_region_held3 (fun w' => Below (wr.heap.size + 1) (wr.alloc (.cells #[.int .i64 k0, .int .i64 a0, .int .i64 b0, .int .i64 d0] 67)) w' ∧ (∀ i, w'.cell? ⟨wr.heap.size, i, none⟩ = #[.int .i64 k0, .int .i64 a0, .int .i64 b0, .int .i64 d0][i]?)) (go_keep)
          (first
            | (go_at_call 57; refine (l1Num_on _ (by with_reducible first | exact H1.out.1 | exact H2.out.1 | exact H3.out.1 | exact H4.out.1) (by with_reducible first | exact H1.out.2 | exact H2.out.2 | exact H3.out.2 | exact H4.out.2) (by assumption)).mono ?_; rintro e w1 ⟨rfl, k1, k2⟩))
        go_wp2_with fail
        go_roundw
        case rel => exact ⟨1, hlt, rfl, rfl, hb.trans (((below1 _ _).trans (k1.mono (by omega))).mono (by have := hb.size; simpa using this))⟩
        case measure => simp [intOf]; omega
      · have kp : 0 < k := by omega
        have kp2 : (0 : Int) < (k : Int) := by omega
        obtain ⟨s3, e0, e1⟩ := pz_more Tryd.prog q f L HQ.out.2 HF.out.2 HX.out h6 k hlt kp
        obtain ⟨d, hd⟩ : ∃ d, d = L[k] := ⟨_, rfl⟩
        rw [← hd] at h1 h2 h3 h4 hcl e1
        clear hd hk0
        obtain ⟨k0, a0, b0, d0⟩ := d
        dsimp only at h1 h2 h3 h4
        obtain ⟨t1, t2, t3, t4, t5, b1, b2, b3, b4, b5, b6⟩ := cl_adds Tryd.prog k0 a0 b0 d0 hcl
        have H1 := Lib.hid hcl.n1; have H2 := Lib.hid hcl.n2; have H3 := Lib.hid hcl.n3; have H4 := Lib.hid hcl.n4
        obtain ⟨CT, hCT⟩ : ∃ CT, CT = clTB (k0, a0, b0, d0) := ⟨_, rfl⟩
        rw [← hCT] at b6 e1
        clear hcl hCT
        have hc0 : Below (wr.heap.size + 1) (wr.alloc (.cells #[.int .i64 k0, .int .i64 a0, .int .i64 b0, .int .i64 d0] 67)) (wr.alloc (.cells #[.int .i64 k0, .int .i64 a0, .int .i64 b0, .int .i64 d0] 67)).drew := (Below.refl _ _).drew
        have qc := boxcells hc0
        go_wp2_with fail
        go_region_held3 (fun w' => Below (wr.heap.size + 1) (wr.alloc (.cells #[.int .i64 k0, .int .i64 a0, .int .i64 b0, .int .i64 d0] 67)) w' ∧ (∀ i, w'.cell? ⟨wr.heap.size, i, none⟩ = #[.int .i64 k0, .int .i64 a0, .int .i64 b0, .int .i64 d0][i]?)) (go_keep)
          (first
            | (go_at_call 57; refine (l1Num_on _ (by with_reducible first | exact H1.out.1 | exact H2.out.1 | exact H3.out.1 | exact H4.out.1) (by with_reducible first | exact H1.out.2 | exact H2.out.2 | exact H3.out.2 | exact H4.out.2) (by assumption)).mono ?_; rintro e w1 ⟨rfl, k1, k2⟩))
        go_wp2_with fail
        go_roundw
        case rel => exact ⟨k + 1, by omega, by go_num, rfl, hb.trans (((below1 _ _).trans (k1.mono (by omega))).mono (by have := hb.size; simpa using this))⟩
        case measure => simp [intOf]; omega
    · go_wp2
      go_ret
      exact ⟨by rw [List.take_of_length_le (by omega)]; rfl, hb'⟩
set_option maxRecDepth 100000 in
theorem specPuzzleText_any (q f : Int) (A : Option Addr) (cp : Nat) (L : List Qd) (w : World) (hL : RQ w w.heap.size A L) (x : ByteArray) (ok : Bool) (hok : pzB q f L = ok) (hx : x = if ok then pzTB q f L else ⟨#[]⟩) :
    Calls Tryd.prog 17 #[.agg #[.int .i64 q, .int .i64 f, .slice A L.length cp]] w fun e w' => e = .returned (.tuple #[.string x, .bool ok]) ∧ Below w.heap.size w w' := by
  have hl := hL.1
  have hw0 : Below w.heap.size w (w.alloc (.cells #[.int .i64 q, .int .i64 f, .slice A L.length cp] 43)) := below1 _ _
  have HG := Lib.hid (fun (W : World) (g1 : RQ W W.heap.size A L) => pzGood_any q f A cp L W g1)
  rw [hok] at HG
  cases ok with
  | false =>
    simp only [Bool.false_eq_true, if_false] at hx
    subst hx
    go_enter Tryd.func17, Tryd.ntmps17
    go_wp2_with (go_at_call 40; refine (HG.out _ (hL.go hw0)).mono ?_; rintro e w1 ⟨rfl, hx⟩)
    go_ret2
    exact ⟨rfl, hw0.trans (hx.mono (by simp))⟩
  | true =>
    simp only [if_true] at hx
    obtain ⟨p1, p2, p3, p4⟩ := pz_nums hok
    have H1 := Lib.hid p1; have H2 := Lib.hid p2; have H3 := Lib.hid p3; have H4 := Lib.hid p4
    have HX := Lib.hid hx
    clear hok hx p1 p2 p3 p4
    go_enter Tryd.func17, Tryd.ntmps17
    go_wp2_with fail
    refine (HG.out _ (hL.go hw0)).mono ?_
    rintro e w1 ⟨rfl, hx⟩
    have hb := box_on (Below.refl _ _) hx (by simp)
    have qq := boxcells hb
    have hb' := hw0.trans (hb.mono (by omega))
    go_wp2_with fail
    refine (pzText_any _ _ _ _ _ _ (hL.go hb') H1.out H2.out H3.out H4.out).mono ?_
    rintro e w2 ⟨rfl, hy⟩
    rw [← HX.out]
    go_wp2_with fail
    go_ret2
    exact ⟨rfl, hb'.trans (hy.mono hb'.size)⟩
set_option maxHeartbeats 4000000 in
set_option maxRecDepth 100000 in
theorem clueText_any (k0 a0 b0 d0 : Int) (w : World) (h : ClTx (k0, a0, b0, d0)) (ht : Tens w) :
    Calls Tryd.prog 44 #[.agg #[.int .i64 k0, .int .i64 a0, .int .i64 b0, .int .i64 d0]] w fun e w' => e = .returned (.string (clTB (k0, a0, b0, d0))) ∧ Below w.heap.size w w' := by
  obtain ⟨t1, t2, t3, t4, t5, b1, b2, b3, b4, b5, b6⟩ := cl_adds Tryd.prog k0 a0 b0 d0 h
  have H1 := Lib.hid h.n1; have H2 := Lib.hid h.n2; have H3 := Lib.hid h.n3; have H4 := Lib.hid h.n4
  obtain ⟨CT, hCT⟩ : ∃ CT, CT = clTB (k0, a0, b0, d0) := ⟨_, rfl⟩
  rw [← hCT] at b6 ⊢
  clear h hCT
  have hc0 : Below (w.heap.size + 1) (w.alloc (.cells #[.int .i64 k0, .int .i64 a0, .int .i64 b0, .int .i64 d0] 67)) (w.alloc (.cells #[.int .i64 k0, .int .i64 a0, .int .i64 b0, .int .i64 d0] 67)).drew := (Below.refl _ _).drew
  have qc := boxcells hc0
  go_enter Tryd.func44, Tryd.ntmps44
  go_wp2_with fail
  go_region_held3 (fun w' => Below (w.heap.size + 1) (w.alloc (.cells #[.int .i64 k0, .int .i64 a0, .int .i64 b0, .int .i64 d0] 67)) w' ∧ (∀ i, w'.cell? ⟨w.heap.size, i, none⟩ = #[.int .i64 k0, .int .i64 a0, .int .i64 b0, .int .i64 d0][i]?)) (go_keep)
    (first
      | (go_at_call 30; refine (itoa_on ht _ (by with_reducible first | exact H1.out.1 | exact H2.out.1 | exact H3.out.1 | exact H4.out.1) (by with_reducible first | exact H1.out.2 | exact H2.out.2 | exact H3.out.2 | exact H4.out.2) (by assumption)).mono ?_; rintro e w1 ⟨rfl, k1, k2⟩))
  go_wp2_with fail
  go_ret
  exact ⟨rfl, (below1 _ _).trans (k1.mono (by omega))⟩
end Go.Proofs.YtmiefdjbhcpnbaaDoor

/- Several texts, one behind the other: T2 L8. -/
import Derived.Deep.RegionHeld3
import Derived.Test.YtmiefdjbhcpnbaaDoorChecked
import Derived.BigQuiet
import Derived.Deep.QuietTactic
import Derived.Test.YtmiefdjbhcpnbaaDoorZTTah
import Derived.Test.YtmiefdjbhcpnbaaDoorZTTaj
import Derived.Test.YtmiefdjbhcpnbaaDoorZTTab

namespace Go.Proofs.YtmiefdjbhcpnbaaDoor
open Go.RowKit

/-- A track's text. -/
def trkL (q f k : Int) (st sf : List Int) : List UInt8 := numL q ++ 111 :: (numL f ++ 120 :: (numL k ++ 58 :: (comL st ++ 58 :: lstL sf)))
def trkB (q f k : Int) (st sf : List Int) : ByteArray := ⟨(trkL q f k st sf).toArray⟩
theorem trk_adds (P : Program) (q f k : Int) (st sf : List Int) (hq : q ≤ 999) (hf : f ≤ 999) (hk : k ≤ 999) (hS : (comL st).length ≤ 100000) (hF : (lstL sf).length ≤ 100000) : ∃ s1 s2 s3 s4 s5 s6 s7 : ByteArray,
    (∀ W, (Op.stringOp .add (numB q) ⟨#[111]⟩).run P W = .ok (.string s1) W) ∧ (∀ W, (Op.stringOp .add s1 (numB f)).run P W = .ok (.string s2) W) ∧
    (∀ W, (Op.stringOp .add s2 ⟨#[120]⟩).run P W = .ok (.string s3) W) ∧ (∀ W, (Op.stringOp .add s3 (numB k)).run P W = .ok (.string s4) W) ∧
    (∀ W, (Op.stringOp .add s4 ⟨#[58]⟩).run P W = .ok (.string s5) W) ∧ (∀ W, (Op.stringOp .add s5 (comB st)).run P W = .ok (.string s6) W) ∧
    (∀ W, (Op.stringOp .add s6 ⟨#[58]⟩).run P W = .ok (.string s7) W) ∧ (∀ W, (Op.stringOp .add s7 (lstB sf)).run P W = .ok (.string (trkB q f k st sf)) W) := by
  have l1 := numL_len q hq
  have l2 := numL_len f hf
  have l3 := numL_len k hk
  refine ⟨_, _, _, _, _, _, _, addL P (numL q) [111] (by simp; omega), addL P _ (numL f) (by simp; omega), addL P _ [120] (by simp; omega), addL P _ (numL k) (by simp; omega), addL P _ [58] (by simp; omega), addL P _ (comL st) (by simp; omega), addL P _ [58] (by simp; omega), fun W => ?_⟩
  have e := addL P (((((((numL q ++ [111]) ++ numL f) ++ [120]) ++ numL k) ++ [58]) ++ comL st) ++ [58]) (lstL sf) (by simp; omega) W
  rw [show (((((((numL q ++ [111]) ++ numL f) ++ [120]) ++ numL k) ++ [58]) ++ comL st) ++ [58]) ++ lstL sf = trkL q f k st sf by simp [trkL]] at e
  exact e
/-- What a track that there is gives for its text. -/
structure TrkTx (q f k : Int) (st sf : List Int) : Prop where
  nq : 0 ≤ q ∧ q ≤ 999
  nf : 0 ≤ f ∧ f ≤ 999
  nk : 0 ≤ k ∧ k ≤ 999
  nst : ∀ x ∈ st, 0 ≤ x ∧ x ≤ 999
  nsf : ∀ x ∈ sf, 0 ≤ x ∧ x ≤ 999
  ne : st ≠ []
  lst : (comL st).length ≤ 100000
  lsf : (lstL sf).length ≤ 100000
theorem trkTx_of {q f k : Int} {st sf : List Int} (h : trkOk q f k st sf = true) : TrkTx q f k st sf := by
  have hT := trk_of h
  have h1 := hT.q4
  have h2 := hT.q60
  have h3 := hT.f1
  have h4 := hT.f8
  have h5 := hT.k1
  have h6 := hT.k4
  have h7 := hT.n2
  have h8 := hT.n4
  have hst : ∀ x ∈ st, 0 ≤ x ∧ x ≤ 999 := fun x hx => by
    obtain ⟨j, hj, rfl⟩ := List.mem_iff_getElem.1 hx
    have := hT.st0 j hj
    omega
  have hsf : ∀ x ∈ sf, 0 ≤ x ∧ x ≤ 999 := fun x hx => by
    have := hT.sf0 x hx
    omega
  have l1 := comL_len st fun x hx => (hst x hx).2
  have l2 := comL_len sf fun x hx => (hsf x hx).2
  have hl := hT.sfl
  refine ⟨by omega, by omega, by omega, hst, hsf, fun e => by rw [e] at h7; simp at h7, by omega, ?_⟩
  unfold lstL
  split
  · simp
  · omega

set_option maxHeartbeats 4000000 in
set_option maxRecDepth 100000 in
theorem trText_any (q f k : Int) (A1 A2 : Option Addr) (c1 c2 : Nat) (st sf : List Int) (w : World) (h1 : RI w w.heap.size A1 st) (h2 : RI w w.heap.size A2 sf) (hT : TrkTx q f k st sf) :
    Calls Tryd.prog 27 #[.agg #[.int .i64 q, .int .i64 f, .int .i64 k, .slice A1 st.length c1, .slice A2 sf.length c2]] w fun e w' => e = .returned (.string (trkB q f k st sf)) ∧ Below w.heap.size w w' := by
  have hl := h1.1
  have hl2 := h2.1
  obtain ⟨s1, s2, s3, s4, s5, s6, s7, a1, a2, a3, a4, a5, a6, a7, a8⟩ := trk_adds Tryd.prog q f k st sf hT.nq.2 hT.nf.2 hT.nk.2 hT.lst hT.lsf
  obtain ⟨R, hR⟩ : ∃ R, R = trkB q f k st sf := ⟨_, rfl⟩
  rw [← hR] at a8 ⊢
  have hcs := fun (W : World) (h : RI W W.heap.size A1 st) => trList_any A1 st.length c1 st rfl W h hT.nst
  have hcf := fun (W : World) (h : RI W W.heap.size A2 sf) => trList_any A2 sf.length c2 sf rfl W h hT.nsf
  have HCS := Lib.hid hcs
  have HCF := Lib.hid hcf
  have HQ := Lib.hid hT.nq
  have HF := Lib.hid hT.nf
  have HK := Lib.hid hT.nk
  clear hT hR hcs hcf
  have hw0 : Below w.heap.size w (w.alloc (.cells #[.int .i64 q, .int .i64 f, .int .i64 k, .slice A1 st.length c1, .slice A2 sf.length c2] 28)) := below1 _ _
  by_cases hnil : sf = []
  · have e1 : lstB sf = ⟨#[45]⟩ := by rw [hnil]; rfl
    have e0 : ((sf.length : Int) == 0) = true := by rw [hnil]; rfl
    rw [e1] at a8
    clear e1 hnil
    go_enter Tryd.func27, Tryd.ntmps27
    go_wp2_with fail
    refine (HCF.out _ (h2.go hw0)).mono ?_
    rintro e w2 ⟨rfl, hx⟩
    have hb1 := box_on (Below.refl _ _) hx (by simp)
    have q1 := boxcells hb1
    go_wp2_with fail
    have hb0 := hb1.drew
    have qd := boxcells hb0
    clear q1 hb1 hx
    go_region_held3 (fun w' => Below (w.heap.size + 1) (w.alloc (.cells #[.int .i64 q, .int .i64 f, .int .i64 k, .slice A1 st.length c1, .slice A2 sf.length c2] 28)) w' ∧ (∀ i, w'.cell? ⟨w.heap.size, i, none⟩ = #[.int .i64 q, .int .i64 f, .int .i64 k, .slice A1 st.length c1, .slice A2 sf.length c2][i]?)) (go_keep)
      (first
        | (go_at_call 57; refine (l1Num_on _ (by with_reducible first | exact HQ.out.1 | exact HF.out.1 | exact HK.out.1) (by with_reducible first | exact HQ.out.2 | exact HF.out.2 | exact HK.out.2) (by assumption)).mono ?_; rintro e w1 ⟨rfl, k1, k2⟩)
        | (go_at_call 56; have g := ‹Below (w.heap.size + 1) _ _ ∧ _›; refine (HCS.out _ (h1.go (hw0.trans (g.1.mono (by omega))))).mono ?_; rintro e w1 ⟨rfl, hx⟩; have k1 := keepB g.1 (by simp) hx; have k2 := boxcells k1))
    go_wp2_with fail
    go_ret
    exact ⟨rfl, hw0.trans (k1.mono (by omega))⟩
  · have hpos : 0 < sf.length := List.length_pos_iff.2 hnil
    have e0 : ((sf.length : Int) == 0) = false := beq_eq_false_iff_ne.2 (by omega)
    have e1 : lstB sf = comB sf := by unfold lstB lstL; rw [if_neg hnil]; rfl
    rw [e1] at a8
    clear e1 hnil
    go_enter Tryd.func27, Tryd.ntmps27
    go_wp2_with fail
    refine (HCF.out _ (h2.go hw0)).mono ?_
    rintro e w2 ⟨rfl, hx⟩
    have hb1 := box_on (Below.refl _ _) hx (by simp)
    have q1 := boxcells hb1
    go_wp2_with fail
    have hb0 := hb1.drew
    have qd := boxcells hb0
    clear q1 hb1 hx
    go_region_held3 (fun w' => Below (w.heap.size + 1) (w.alloc (.cells #[.int .i64 q, .int .i64 f, .int .i64 k, .slice A1 st.length c1, .slice A2 sf.length c2] 28)) w' ∧ (∀ i, w'.cell? ⟨w.heap.size, i, none⟩ = #[.int .i64 q, .int .i64 f, .int .i64 k, .slice A1 st.length c1, .slice A2 sf.length c2][i]?)) (go_keep)
      (first
        | (go_at_call 57; refine (l1Num_on _ (by with_reducible first | exact HQ.out.1 | exact HF.out.1 | exact HK.out.1) (by with_reducible first | exact HQ.out.2 | exact HF.out.2 | exact HK.out.2) (by assumption)).mono ?_; rintro e w1 ⟨rfl, k1, k2⟩)
        | (go_at_call 56; have g := ‹Below (w.heap.size + 1) _ _ ∧ _›; refine (HCS.out _ (h1.go (hw0.trans (g.1.mono (by omega))))).mono ?_; rintro e w1 ⟨rfl, hx⟩; have k1 := keepB g.1 (by simp) hx; have k2 := boxcells k1))
    go_wp2_with fail
    go_ret
    exact ⟨rfl, hw0.trans (k1.mono (by omega))⟩
set_option maxRecDepth 100000 in
theorem specTrackText_any (q f k : Int) (A1 A2 : Option Addr) (c1 c2 : Nat) (st sf : List Int) (w : World) (h1 : RI w w.heap.size A1 st) (h2 : RI w w.heap.size A2 sf) (hc : st.length ≤ c1) (x : ByteArray) (ok : Bool) (hok : trkOk q f k st sf = ok) (hx : x = if ok then trkB q f k st sf else ⟨#[]⟩) :
    Calls Tryd.prog 8 #[.agg #[.int .i64 q, .int .i64 f, .int .i64 k, .slice A1 st.length c1, .slice A2 sf.length c2]] w fun e w' => e = .returned (.tuple #[.string x, .bool ok]) ∧ Below w.heap.size w w' := by
  have hl := h1.1
  have hl2 := h2.1
  have hw0 : Below w.heap.size w (w.alloc (.cells #[.int .i64 q, .int .i64 f, .int .i64 k, .slice A1 st.length c1, .slice A2 sf.length c2] 28)) := below1 _ _
  have HG := Lib.hid (fun (W : World) (g1 : RI W W.heap.size A1 st) (g2 : RI W W.heap.size A2 sf) => trGood_any q f k A1 A2 c1 c2 st sf W g1 g2 hc)
  rw [hok] at HG
  cases ok with
  | false =>
    simp only [Bool.false_eq_true, if_false] at hx
    subst hx
    go_enter Tryd.func8, Tryd.ntmps8
    go_wp2_with (go_at_call 26; refine (HG.out _ (h1.go hw0) (h2.go hw0)).mono ?_; rintro e w1 ⟨rfl, hx⟩)
    go_ret2
    exact ⟨rfl, hw0.trans (hx.mono (by simp))⟩
  | true =>
    simp only [if_true] at hx
    have HT := Lib.hid (trkTx_of hok)
    have HX := Lib.hid hx
    clear hok hx
    go_enter Tryd.func8, Tryd.ntmps8
    go_wp2_with fail
    refine (HG.out _ (h1.go hw0) (h2.go hw0)).mono ?_
    rintro e w1 ⟨rfl, hx⟩
    have hb := box_on (Below.refl _ _) hx (by simp)
    have qq := boxcells hb
    have hb' := hw0.trans (hb.mono (by omega))
    go_wp2_with fail
    refine (trText_any _ _ _ _ _ _ _ _ _ _ (h1.go hb') (h2.go hb') HT.out).mono ?_
    rintro e w2 ⟨rfl, hy⟩
    rw [← HX.out]
    go_wp2_with fail
    go_ret2
    exact ⟨rfl, hb'.trans (hy.mono hb'.size)⟩
set_option maxHeartbeats 4000000 in
set_option maxRecDepth 100000 in
theorem implTrackText_any (q f k : Int) (A1 A2 : Option Addr) (c1 c2 : Nat) (st sf : List Int) (w : World) (h1 : RI w w.heap.size A1 st) (h2 : RI w w.heap.size A2 sf) (hc : st.length ≤ c1) (ht : Tens w) (x : ByteArray) (ok : Bool) (hok : trkOk q f k st sf = ok) (hx : x = if ok then trkB q f k st sf else ⟨#[]⟩) :
    Calls Tryd.prog 10 #[.agg #[.int .i64 q, .int .i64 f, .int .i64 k, .slice A1 st.length c1, .slice A2 sf.length c2]] w fun e w' => e = .returned (.tuple #[.string x, .bool ok]) ∧ Below w.heap.size w w' := by
  have hl := h1.1
  have hl2 := h2.1
  have hw0 : Below w.heap.size w (w.alloc (.cells #[.int .i64 q, .int .i64 f, .int .i64 k, .slice A1 st.length c1, .slice A2 sf.length c2] 28)) := below1 _ _
  have HG := Lib.hid (fun (W : World) (g1 : RI W W.heap.size A1 st) (g2 : RI W W.heap.size A2 sf) => implIsTrack_any q f k A1 A2 c1 c2 st sf W g1 g2 hc)
  rw [hok] at HG
  cases ok with
  | false =>
    simp only [Bool.false_eq_true, if_false] at hx
    subst hx
    go_enter Tryd.func10, Tryd.ntmps10
    go_wp2_with (go_at_call 29; refine (HG.out _ (h1.go hw0) (h2.go hw0)).mono ?_; rintro e w1 ⟨rfl, hx⟩)
    go_ret2
    exact ⟨rfl, hw0.trans (hx.mono (by simp))⟩
  | true =>
    simp only [if_true] at hx
    have hT := trkTx_of hok
    obtain ⟨s1, s2, s3, s4, s5, s6, s7, a1, a2, a3, a4, a5, a6, a7, a8⟩ := trk_adds Tryd.prog q f k st sf hT.nq.2 hT.nf.2 hT.nk.2 hT.lst hT.lsf
    have e1 : lstB st = comB st := by unfold lstB lstL; rw [if_neg hT.ne]; rfl
    rw [← hx] at a8
    have hcs := fun (W : World) (h : RI W W.heap.size A1 st) (t : Tens W) => listText_any A1 st.length c1 st rfl W h hT.nst t
    have hcf := fun (W : World) (h : RI W W.heap.size A2 sf) (t : Tens W) => listText_any A2 sf.length c2 sf rfl W h hT.nsf t
    simp only [e1] at hcs
    have HCS := Lib.hid hcs
    have HCF := Lib.hid hcf
    have HQ := Lib.hid hT.nq
    have HF := Lib.hid hT.nf
    have HK := Lib.hid hT.nk
    clear hok hx hT hcs hcf e1
    go_enter Tryd.func10, Tryd.ntmps10
    go_wp2_with fail
    refine (HG.out _ (h1.go hw0) (h2.go hw0)).mono ?_
    rintro e w2 ⟨rfl, hx⟩
    have hb1 := box_on (Below.refl _ _) hx (by simp)
    have q1 := boxcells hb1
    go_wp2_with fail
    have hb0 := hb1.drew
    have qd := boxcells hb0
    clear q1 hb1 hx
    go_region_held3 (fun w' => Below (w.heap.size + 1) (w.alloc (.cells #[.int .i64 q, .int .i64 f, .int .i64 k, .slice A1 st.length c1, .slice A2 sf.length c2] 28)) w' ∧ (∀ i, w'.cell? ⟨w.heap.size, i, none⟩ = #[.int .i64 q, .int .i64 f, .int .i64 k, .slice A1 st.length c1, .slice A2 sf.length c2][i]?)) (go_keep)
      (first
        | (go_at_call 30; refine (itoa_on ht _ (by with_reducible first | exact HQ.out.1 | exact HF.out.1 | exact HK.out.1) (by with_reducible first | exact HQ.out.2 | exact HF.out.2 | exact HK.out.2) (by assumption)).mono ?_; rintro e w1 ⟨rfl, k1, k2⟩))
    clear hb0 qd
    go_wp2_with fail
    have hb0 := k1.drew
    have qd := boxcells hb0
    clear k1 k2
    trace_state
    go_region_held3 (fun w' => Below (w.heap.size + 1) (w.alloc (.cells #[.int .i64 q, .int .i64 f, .int .i64 k, .slice A1 st.length c1, .slice A2 sf.length c2] 28)) w' ∧ (∀ i, w'.cell? ⟨w.heap.size, i, none⟩ = #[.int .i64 q, .int .i64 f, .int .i64 k, .slice A1 st.length c1, .slice A2 sf.length c2][i]?)) (go_keep)
      (first
        | (go_at_call 31; have g := ‹Below (w.heap.size + 1) _ _ ∧ _›; refine (HCS.out _ (h1.go (hw0.trans (g.1.mono (by omega)))) (ht.on (hw0.trans (g.1.mono (by omega))))).mono ?_; rintro e w1 ⟨rfl, hx⟩; have k1 := keepB g.1 (by simp) hx; have k2 := boxcells k1; clear HCS)
        | (go_at_call 31; have g := ‹Below (w.heap.size + 1) _ _ ∧ _›; refine (HCF.out _ (h2.go (hw0.trans (g.1.mono (by omega)))) (ht.on (hw0.trans (g.1.mono (by omega))))).mono ?_; rintro e w1 ⟨rfl, hx⟩; have k1 := keepB g.1 (by simp) hx; have k2 := boxcells k1; clear HCF))
    go_wp2_with fail
    go_ret2
    exact ⟨rfl, hw0.trans (k1.mono (by omega))⟩
/-- Both sides give one text. -/
theorem trackText_both (q f k : Int) (st sf : List Int) : ∃ (x : ByteArray) (ok : Bool),
    (∀ (A1 A2 : Option Addr) (c1 c2 : Nat) (W : World), RI W W.heap.size A1 st → RI W W.heap.size A2 sf → st.length ≤ c1 → Calls Tryd.prog 8 #[.agg #[.int .i64 q, .int .i64 f, .int .i64 k, .slice A1 st.length c1, .slice A2 sf.length c2]] W fun e w' => e = .returned (.tuple #[.string x, .bool ok]) ∧ Below W.heap.size W w') ∧
    (∀ (A1 A2 : Option Addr) (c1 c2 : Nat) (W : World), RI W W.heap.size A1 st → RI W W.heap.size A2 sf → st.length ≤ c1 → Tens W → Calls Tryd.prog 10 #[.agg #[.int .i64 q, .int .i64 f, .int .i64 k, .slice A1 st.length c1, .slice A2 sf.length c2]] W fun e w' => e = .returned (.tuple #[.string x, .bool ok]) ∧ Below W.heap.size W w') :=
  ⟨_, trkOk q f k st sf, fun _ _ _ _ _ h1 h2 h3 => specTrackText_any _ _ _ _ _ _ _ _ _ _ h1 h2 h3 _ _ rfl rfl, fun _ _ _ _ _ h1 h2 h3 ht => implTrackText_any _ _ _ _ _ _ _ _ _ _ h1 h2 h3 ht _ _ rfl rfl⟩
end Go.Proofs.YtmiefdjbhcpnbaaDoor

namespace Go.Proofs.YtmiefdjbhcpnbaaDoor
open Go.RowKit

/-- What marks write, from k on. -/
def marksI (k : Int) (i : Nat) : Int := k + i

theorem infoInt : (Tryd.prog.info? 3).map (fun i => (i.zero, i.size, i.bytes)) = some (some (.int .i64 0), 1, 8) := by kernel_rfl

set_option maxHeartbeats 400000 in
theorem toIntS_any (A : Option Addr) (c : Nat) (xs : List Int) (w : World) (hj : RI w w.heap.size A xs) :
    Calls Tryd.prog 28 #[.slice A xs.length c] w fun e w' => e = .returned (.slice (some ⟨w.heap.size, 0, none⟩) xs.length xs.length) ∧ RowI w' w.heap.size 3 xs.length (fun k => xs.getD k 0) ∧ Below w.heap.size w w' := by
  have hl := hj.1
  obtain ⟨i0, hi, hz0, hz1, hz2⟩ := info_parts infoInt
  go_enter Tryd.func28, Tryd.ntmps28
  go_wp2_with (at_make; refine wpList_make_full _ rfl _ _ 22 rfl w.heap.size 3 i0 _ 1 Tryd.underlying22 hi hz0 hz1 _ _ _ _ xs.length rfl rfl rfl rfl (by rw [hz2]; omega) (by unfold maxLen; omega) (Nat.le_refl _) ?_; intro w1 hown hgrow)
  have hrow := madeI hown rfl
  go_loopw [4] (fun i wr => ∃ k : Nat, k ≤ xs.length ∧ i = .int .i64 k ∧ Below w.heap.size w wr ∧ RowI wr w.heap.size 3 xs.length (fun i => if i < k then xs.getD i 0 else 0)) (fun i _ => xs.length - (intOf i).toNat)
  case atStart => exact ⟨0, Nat.zero_le _, rfl, (Below.refl _ _).grown hgrow (Nat.le_refl _) (fun j h => by cases h), hrow.congr (by simp)⟩
  case round =>
    clear hrow hown hgrow
    obtain ⟨k, hk, rfl, hb, hrow⟩ := hrel
    by_cases hlt : k < xs.length
    · obtain ⟨b, off, rfl, hB, h1⟩ := hj.at_ hb hlt
      have d1 := hrow.cell hlt
      have d3 := hrow.free k
      go_wp2
      go_roundw
      case rel => exact ⟨k + 1, by omega, by go_num, hb.setCell (Nat.le_refl _) _, (hrow.set hlt _).congr (fun i hi => by
        by_cases e : i = k
        · subst e; simp [hlt]
        · have e2 : (i < k + 1) = (i < k) := by apply propext; omega
          simp [e, e2])⟩
      case measure => simp [intOf]; omega
    · obtain rfl : k = xs.length := by omega
      go_wp2
      go_ret
      exact ⟨rfl, hrow.congr (fun i hi => by simp [hi]), hb⟩

set_option maxHeartbeats 400000 in
theorem markIntS_any (A : Option Addr) (n c lo : Nat) (F : Nat → Int) (k0 : Int) (w : World) (h : OI w lo 3 A n F) (hn : n ≤ 1048576) (h0 : 0 ≤ k0) (h1 : k0 ≤ 1000000000) :
    Calls Tryd.prog 37 #[.slice A n c, .int .i64 k0] w fun e w' => e = .returned (.int .i64 (k0 + n)) ∧ OI w' lo 3 A n (marksI k0) ∧ (∀ B, B ≤ lo → Below B w w') ∧ w'.heap.size = w.heap.size := by
  go_enter Tryd.func37, Tryd.ntmps37
  go_wp2
  go_loopw [1, 5] (fun v i wr => ∃ k : Nat, k ≤ n ∧ i = .int .i64 k ∧ v = .int .i64 (k0 + k) ∧ OI wr lo 3 A n (fun j => if j < k then marksI k0 j else F j) ∧ Hid (∀ B, B ≤ lo → Below B w wr) ∧ Hid (wr.heap.size = w.heap.size)) (fun _ i _ => n - (intOf i).toNat)
  case atStart => exact ⟨0, Nat.zero_le _, rfl, by simp, h.congr (by simp), Lib.hid (fun _ _ => Below.refl _ _), Lib.hid rfl⟩
  case round =>
    obtain ⟨k, hk, rfl, rfl, ho, hg, hsz⟩ := hrel
    by_cases hlt : k < n
    · obtain ⟨g, rfl, hlo, hr⟩ := ho.get hlt
      have c1 := hr.cell hlt
      have f1 := hr.free k
      go_wp2
      go_roundw
      case rel => exact ⟨k + 1, by omega, by go_num, by go_num, .inr ⟨g, rfl, hlo, (hr.set hlt _).congr (fun j hj => by
        by_cases e : j = k
        · subst e; simp [marksI]
        · have e2 : (j < k + 1) = (j < k) := by apply propext; omega
          simp [e, e2])⟩, Lib.hid (fun B hB => (hg.out B hB).setCell (by dsimp only; omega) _), Lib.hid (by simp; exact hsz.out)⟩
      case measure => simp [intOf]; omega
    · obtain rfl : k = n := by omega
      go_wp2
      go_ret
      exact ⟨rfl, ho.congr (fun j hj => by simp [hj]), hg.out, hsz.out⟩

set_option maxHeartbeats 400000 in
theorem heldIntS_any (A : Option Addr) (n c lo : Nat) (k0 : Int) (w : World) (h : OI w lo 3 A n (marksI k0)) (hn : n ≤ 1048576) (h0 : 0 ≤ k0) (h1 : k0 ≤ 1000000000) :
    Calls Tryd.prog 38 #[.slice A n c, .int .i64 k0] w fun e w' => e = .returned (.int .i64 (k0 + n)) ∧ w = w' := by
  go_enter Tryd.func38, Tryd.ntmps38
  go_wp2
  go_loop [1, 5] (fun v i => ∃ k : Nat, k ≤ n ∧ i = .int .i64 k ∧ v = .int .i64 (k0 + k)) (fun _ i => n - (intOf i).toNat)
  case atStart => exact ⟨0, Nat.zero_le _, rfl, by simp⟩
  case round =>
    obtain ⟨k, hk, rfl, rfl⟩ := hrel
    by_cases hlt : k < n
    · obtain ⟨g, rfl, hlo, hr⟩ := h.get hlt
      have c1 : w.cell? ⟨g, k, none⟩ = some (.int .i64 (k0 + k)) := hr.cell hlt
      go_wp2
      go_round
      case rel => exact ⟨k + 1, by omega, by go_num, by go_num⟩
      case measure => simp [intOf]; omega
    · obtain rfl : k = n := by omega
      go_wp2
      go_ret
      exact ⟨rfl, rfl⟩

set_option maxHeartbeats 400000 in
theorem heldIntS_big (A : Option Addr) (n c lo : Nat) (k0 : Int) (w : World) (h : OI w lo 3 A n (marksI k0)) (hn : n ≤ 1048576) (h0 : 0 ≤ k0) (h1 : k0 ≤ 10000000000000) :
    Calls Tryd.prog 38 #[.slice A n c, .int .i64 k0] w fun e w' => e = .returned (.int .i64 (k0 + n)) ∧ w = w' := by
  go_enter Tryd.func38, Tryd.ntmps38
  go_wp2
  go_loop [1, 5] (fun v i => ∃ k : Nat, k ≤ n ∧ i = .int .i64 k ∧ v = .int .i64 (k0 + k)) (fun _ i => n - (intOf i).toNat)
  case atStart => exact ⟨0, Nat.zero_le _, rfl, by simp⟩
  case round =>
    obtain ⟨k, hk, rfl, rfl⟩ := hrel
    by_cases hlt : k < n
    · obtain ⟨g, rfl, hlo, hr⟩ := h.get hlt
      have c1 : w.cell? ⟨g, k, none⟩ = some (.int .i64 (k0 + k)) := hr.cell hlt
      go_wp2
      go_round
      case rel => exact ⟨k + 1, by omega, by go_num, by go_num⟩
      case measure => simp [intOf]; omega
    · obtain rfl : k = n := by omega
      go_wp2
      go_ret
      exact ⟨rfl, rfl⟩

set_option maxRecDepth 100000 in
set_option maxHeartbeats 400000 in
theorem eqIntS_any (A A' : Option Addr) (c c' : Nat) (xs ys : List Int) (w : World) (hj : RI w w.heap.size A xs) (hj' : RI w w.heap.size A' ys) :
    Calls Tryd.prog 32 #[.slice A xs.length c, .slice A' ys.length c'] w fun e w' => e = .returned (.bool (xs == ys)) ∧ Below w.heap.size w w' := by
  have hl := hj.1
  have hl' := hj'.1
  by_cases hne : xs.length = ys.length
  · have hq : ((xs.length : Int) != (ys.length : Int)) = false := bne_eq_false_iff_eq.2 (by omega)
    go_enter Tryd.func32, Tryd.ntmps32
    go_wp2
    have hne' := Lib.hid hne; clear hne
    go_loopw [5] (fun i wr => ∃ k : Nat, k ≤ xs.length ∧ i = .int .i64 k ∧ Below w.heap.size w wr ∧ (xs == ys) = (xs.drop k == ys.drop k)) (fun i _ => xs.length - (intOf i).toNat)
    case atStart => exact ⟨0, Nat.zero_le _, rfl, Below.refl _ _, rfl⟩
    case round =>
      obtain ⟨k, hk, rfl, hb, hd⟩ := hrel
      have Hd := Lib.hid hd; clear hd
      by_cases hlt : k < xs.length
      · have hlt' : k < ys.length := by have := hne'.out; omega
        obtain ⟨b, off, rfl, hB, h1⟩ := hj.at_ hb hlt
        obtain ⟨b', off', rfl, hB', h3⟩ := hj'.at_ hb hlt'
        go_wp2
        go_quiet (fail)
        go_wp2
        · have hn : (xs[k] == ys[k]) = false := by simpa using (show (xs[k] != ys[k]) = true by assumption)
          go_ret
          exact ⟨ret_bool (by rw [Hd.out, drop_step _ _ hlt, drop_step _ _ hlt', List.cons_beq_cons, hn]; rfl), drewB hb _⟩
        · have hn : (xs[k] == ys[k]) = true := by simpa using (show (xs[k] != ys[k]) = false by assumption)
          go_roundw
          case rel => exact ⟨k + 1, by omega, by go_num, drewB hb _, by rw [Hd.out, drop_step _ _ hlt, drop_step _ _ hlt', List.cons_beq_cons, hn, Bool.true_and]⟩
          case measure => simp [intOf]; omega
      · go_wp2
        go_ret
        exact ⟨ret_bool (by rw [Hd.out, List.drop_eq_nil_of_le (by omega), List.drop_eq_nil_of_le (by have := hne'.out; omega)]; rfl), hb⟩
  · have hq : ((xs.length : Int) != (ys.length : Int)) = true := bne_iff_ne.2 (by omega)
    go_enter Tryd.func32, Tryd.ntmps32
    go_wp2
    go_ret
    exact ⟨ret_bool (by have h2 : ¬ xs = ys := fun e => hne (by rw [e]); simpa using h2), Below.refl _ _⟩
end Go.Proofs.YtmiefdjbhcpnbaaDoor

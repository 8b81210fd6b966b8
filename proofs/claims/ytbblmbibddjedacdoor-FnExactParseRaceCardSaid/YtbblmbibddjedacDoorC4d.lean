/-
  The text of a race, on both sides.
-/
import Derived.Test.YtbblmbibddjedacDoorC4c
import Derived.Test.YtbblmbibddjedacDoorC1ce
namespace Go.Proofs.YtbblmbibddjedacDoor
open Go.RowKit

/-- What follows a board's text in a race's. -/
def tailR (a b c : Int) : List UInt8 := 64 :: (numL a ++ 58 :: (numL b ++ 58 :: numL c))
/-- A text L with a race's numbers behind it. -/
def txtR (L : List UInt8) (a b c : Int) : ByteArray := ⟨(L ++ tailR a b c).toArray⟩
theorem raceS_adds (P : Program) (L : List UInt8) (hL : L.length ≤ 100000000) (a b c : Int) (ha : a ≤ 999) (hb : b ≤ 999) (hc : c ≤ 999) : ∃ s1 s2 s3 s4 s5 : ByteArray,
    (∀ W, (Op.stringOp .add ⟨L.toArray⟩ ⟨#[64]⟩).run P W = .ok (.string s1) W) ∧ (∀ W, (Op.stringOp .add s1 (numB a)).run P W = .ok (.string s2) W) ∧
    (∀ W, (Op.stringOp .add s2 ⟨#[58]⟩).run P W = .ok (.string s3) W) ∧ (∀ W, (Op.stringOp .add s3 (numB b)).run P W = .ok (.string s4) W) ∧
    (∀ W, (Op.stringOp .add s4 ⟨#[58]⟩).run P W = .ok (.string s5) W) ∧ (∀ W, (Op.stringOp .add s5 (numB c)).run P W = .ok (.string (txtR L a b c)) W) := by
  have la := numL_len a ha
  have lb := numL_len b hb
  have lc := numL_len c hc
  have e : ∀ l : List UInt8, (⟨l.toArray⟩ : ByteArray).size = l.length := fun l => by show l.toArray.size = _; simp
  refine ⟨⟨(L ++ [64]).toArray⟩, ⟨(L ++ 64 :: numL a).toArray⟩, ⟨(L ++ 64 :: (numL a ++ [58])).toArray⟩, ⟨(L ++ 64 :: (numL a ++ 58 :: numL b)).toArray⟩, ⟨(L ++ 64 :: (numL a ++ 58 :: (numL b ++ [58]))).toArray⟩,
    add_run _ ⟨[64].toArray⟩ _ (by apply ByteArray.ext; simp) (by rw [e, e]; simp; omega),
    add_run _ _ _ (by apply ByteArray.ext; simp [numB]) (by rw [numB_size, e]; simp; omega),
    add_run _ ⟨[58].toArray⟩ _ (by apply ByteArray.ext; simp) (by rw [e, e]; simp; omega),
    add_run _ _ _ (by apply ByteArray.ext; simp [numB]) (by rw [numB_size, e]; simp; omega),
    add_run _ ⟨[58].toArray⟩ _ (by apply ByteArray.ext; simp) (by rw [e, e]; simp; omega),
    add_run _ _ _ (by apply ByteArray.ext; simp [numB, txtR, tailR]) (by rw [numB_size, e]; simp; omega)⟩
theorem raceI_adds (P : Program) (L : List UInt8) (hL : L.length ≤ 100000000) (a b c : Int) (ha : a ≤ 999) (hb : b ≤ 999) (hc : c ≤ 999) : ∃ s1 s2 s3 s4 s5 : ByteArray,
    (∀ W, (Op.stringOp .add ⟨#[64]⟩ (numB a)).run P W = .ok (.string s1) W) ∧ (∀ W, (Op.stringOp .add s1 ⟨#[58]⟩).run P W = .ok (.string s2) W) ∧
    (∀ W, (Op.stringOp .add s2 (numB b)).run P W = .ok (.string s3) W) ∧ (∀ W, (Op.stringOp .add s3 ⟨#[58]⟩).run P W = .ok (.string s4) W) ∧
    (∀ W, (Op.stringOp .add s4 (numB c)).run P W = .ok (.string s5) W) ∧ (∀ W, (Op.stringOp .add ⟨L.toArray⟩ s5).run P W = .ok (.string (txtR L a b c)) W) := by
  have la := numL_len a ha
  have lb := numL_len b hb
  have lc := numL_len c hc
  have e : ∀ l : List UInt8, (⟨l.toArray⟩ : ByteArray).size = l.length := fun l => by show l.toArray.size = _; simp
  refine ⟨⟨(64 :: numL a).toArray⟩, ⟨(64 :: (numL a ++ [58])).toArray⟩, ⟨(64 :: (numL a ++ 58 :: numL b)).toArray⟩, ⟨(64 :: (numL a ++ 58 :: (numL b ++ [58]))).toArray⟩, ⟨(tailR a b c).toArray⟩,
    add_run ⟨[64].toArray⟩ _ _ (by apply ByteArray.ext; simp [numB]) (by rw [numB_size, e]; simp; omega),
    add_run _ ⟨[58].toArray⟩ _ (by apply ByteArray.ext; simp) (by rw [e, e]; simp; omega),
    add_run _ _ _ (by apply ByteArray.ext; simp [numB]) (by rw [numB_size, e]; simp; omega),
    add_run _ ⟨[58].toArray⟩ _ (by apply ByteArray.ext; simp) (by rw [e, e]; simp; omega),
    add_run _ _ _ (by apply ByteArray.ext; simp [numB, tailR]) (by rw [numB_size, e]; simp; omega),
    add_run _ _ _ (by apply ByteArray.ext; simp [txtR]) (by rw [e, e]; simp [tailR]; omega)⟩

/-- A board's text, as a list of bytes. -/
def brdL (s f o : Int) (js : List (Int × Int)) : List UInt8 := (numL s ++ 100 :: (numL f ++ 47 :: numL o)) ++ jumpsL js
theorem txtB_brd (s f o : Int) (js : List (Int × Int)) : txtB s f o js = ⟨(brdL s f o js).toArray⟩ := rfl
theorem brdL_len {s f o : Int} {js : List (Int × Int)} (hg : good ⟨s, f, o, js⟩ = true) : (brdL s f o js).length ≤ 100000000 := by
  have hz := good_sizes hg
  obtain ⟨h1, h2, h3, h4⟩ := good_bounds hg
  have := txtB_size s f o js h1.2 h2.2 h3.2 fun j hj => (h4 j hj).2
  rw [txtB_brd] at this
  have e : (⟨(brdL s f o js).toArray⟩ : ByteArray).size = (brdL s f o js).length := by show (brdL s f o js).toArray.size = _; simp
  omega
theorem raceOk_nums {s f o me fi ot : Int} {js : List (Int × Int)} (h : raceOk s f o js me fi ot = true) : (0 ≤ me ∧ me ≤ 999) ∧ (0 ≤ fi ∧ fi ≤ 999) ∧ (0 ≤ ot ∧ ot ≤ 999) := by
  obtain ⟨hg, h40, hme, h1, h2, _⟩ := raceOk_parts h
  have := onSq_in h1
  have := onSq_in h2
  omega

set_option maxHeartbeats 4000000 in
set_option maxRecDepth 100000 in
theorem raText_any (s f o me fi ot : Int) (A : Option Addr) (c : Nat) (js : List (Int × Int)) (w : World) (hj : RJ w w.heap.size A js) (hr : raceOk s f o js me fi ot = true) :
    Calls Tryd.prog 22 #[.agg #[.int .i64 s, .int .i64 f, .int .i64 o, .slice A js.length c, .int .i64 me, .int .i64 fi, .int .i64 ot]] w fun e w' => e = .returned (.string (txtR (brdL s f o js) me fi ot)) ∧ Below w.heap.size w w' := by
  have hl := hj.1
  obtain ⟨hg, _⟩ := raceOk_parts hr
  obtain ⟨Hm, Hx, Hy⟩ := raceOk_nums hr
  have hL := brdL_len hg
  obtain ⟨g1, g2, g3, g4⟩ := good_bounds hg
  have hsq := fun (W : World) (h : RJ W W.heap.size A js) => sqText_any s f o A c js W h g1 g2 g3 g4
  simp only [txtB_brd] at hsq
  generalize brdL s f o js = L at *
  obtain ⟨s1, s2, s3, s4, s5, a1, a2, a3, a4, a5, a6⟩ := raceS_adds Tryd.prog L hL me fi ot Hm.2 Hx.2 Hy.2
  obtain ⟨R, hR⟩ : ∃ R, R = txtR L me fi ot := ⟨_, rfl⟩
  rw [← hR] at a6 ⊢
  have HM := Lib.hid Hm; have HX := Lib.hid Hx; have HY := Lib.hid Hy; clear Hm Hx Hy hr hg g1 g2 g3 g4 hR hL
  have hw0 : Below w.heap.size w (w.alloc (.cells #[.int .i64 s, .int .i64 f, .int .i64 o, .slice A js.length c, .int .i64 me, .int .i64 fi, .int .i64 ot] 34)) := below1 _ _
  have hb0 : Below (w.heap.size + 1) (w.alloc (.cells #[.int .i64 s, .int .i64 f, .int .i64 o, .slice A js.length c, .int .i64 me, .int .i64 fi, .int .i64 ot] 34)) (w.alloc (.cells #[.int .i64 s, .int .i64 f, .int .i64 o, .slice A js.length c, .int .i64 me, .int .i64 fi, .int .i64 ot] 34)).drew := (Below.refl _ _).drew
  have q := boxcells hb0
  go_enter Tryd.func22, Tryd.ntmps22
  go_wp2_with fail
  go_region_held3 (fun w' => Below (w.heap.size + 1) (w.alloc (.cells #[.int .i64 s, .int .i64 f, .int .i64 o, .slice A js.length c, .int .i64 me, .int .i64 fi, .int .i64 ot] 34)) w' ∧ (∀ i, w'.cell? ⟨w.heap.size, i, none⟩ = #[.int .i64 s, .int .i64 f, .int .i64 o, .slice A js.length c, .int .i64 me, .int .i64 fi, .int .i64 ot][i]?)) (go_keep)
    (first
      | (go_at_call 41; refine (l1Num_on _ (by with_reducible first | exact HM.out.1 | exact HX.out.1 | exact HY.out.1) (by with_reducible first | exact HM.out.2 | exact HX.out.2 | exact HY.out.2) (by assumption)).mono ?_; rintro e w1 ⟨rfl, k1, k2⟩)
      | (go_at_call 40; have g := ‹Below (w.heap.size + 1) _ _ ∧ _›; refine (hsq _ ((hj.below (hw0.trans (g.1.mono (by omega)))).more (by have := (hw0.trans (g.1.mono (by omega))).size; exact this))).mono ?_; rintro e w1 ⟨rfl, hx⟩; have k1 := keepB g.1 (by simp) hx; have k2 := boxcells k1))
  go_wp2_with fail
  go_ret
  exact ⟨rfl, hw0.trans (k1.mono (by omega))⟩

theorem specRaceText_any (s f o me fi ot : Int) (A : Option Addr) (c : Nat) (js : List (Int × Int)) (w : World) (hj : RJ w w.heap.size A js) :
    Calls Tryd.prog 7 #[.agg #[.int .i64 s, .int .i64 f, .int .i64 o, .slice A js.length c, .int .i64 me, .int .i64 fi, .int .i64 ot]] w fun e w' => e = .returned (.tuple #[.string (if raceOk s f o js me fi ot then txtR (brdL s f o js) me fi ot else ⟨#[]⟩), .bool (raceOk s f o js me fi ot)]) ∧ Below w.heap.size w w' := by
  have hl := hj.1
  have hw0 : Below w.heap.size w (w.alloc (.cells #[.int .i64 s, .int .i64 f, .int .i64 o, .slice A js.length c, .int .i64 me, .int .i64 fi, .int .i64 ot] 34)) := below1 _ _
  cases hg : raceOk s f o js me fi ot
  · go_enter Tryd.func7, Tryd.ntmps7
    go_wp2_with (go_at_call 21; refine (raGood_any _ _ _ _ _ _ _ _ _ _ ((hj.below hw0).more (by simp))).mono ?_; rintro e w1 ⟨rfl, hx⟩; rw [hg])
    go_ret2
    exact ⟨rfl, hw0.trans (hx.mono (by simp))⟩
  · have hok := Lib.hid hg
    clear hg
    go_enter Tryd.func7, Tryd.ntmps7
    go_wp2_with fail
    refine (raGood_any _ _ _ _ _ _ _ _ _ _ ((hj.below hw0).more (by simp))).mono ?_
    rintro e w1 ⟨rfl, hx⟩
    rw [hok.out]
    have hb := box_on (Below.refl _ _) hx (by simp)
    have q := boxcells hb
    have hb' := hw0.trans (hb.mono (by omega))
    go_wp2_with fail
    refine (raText_any _ _ _ _ _ _ _ _ _ _ ((hj.below hb').more (by have := hb'.size; exact this)) hok.out).mono ?_
    rintro e w2 ⟨rfl, hy⟩
    go_wp2_with fail
    go_ret2
    exact ⟨rfl, hb'.trans (hy.mono (by have := hb'.size; exact this))⟩

set_option maxHeartbeats 4000000 in
set_option maxRecDepth 100000 in
theorem implRaceText_any (s f o me fi ot : Int) (A : Option Addr) (c : Nat) (js : List (Int × Int)) (w : World) (hj : RJ w w.heap.size A js) (ht : Tens w) :
    Calls Tryd.prog 9 #[.agg #[.int .i64 s, .int .i64 f, .int .i64 o, .slice A js.length c, .int .i64 me, .int .i64 fi, .int .i64 ot]] w fun e w' => e = .returned (.tuple #[.string (if raceOk s f o js me fi ot then txtR (brdL s f o js) me fi ot else ⟨#[]⟩), .bool (raceOk s f o js me fi ot)]) ∧ Below w.heap.size w w' := by
  have hl := hj.1
  have hw0 : Below w.heap.size w (w.alloc (.cells #[.int .i64 s, .int .i64 f, .int .i64 o, .slice A js.length c, .int .i64 me, .int .i64 fi, .int .i64 ot] 34)) := below1 _ _
  cases hr : raceOk s f o js me fi ot
  · go_enter Tryd.func9, Tryd.ntmps9
    go_wp2_with (go_at_call 24; refine (implIsRace_any _ _ _ _ _ _ _ _ _ _ ((hj.below hw0).more (by simp))).mono ?_; rintro e w1 ⟨rfl, hx⟩; rw [hr])
    go_ret2
    exact ⟨rfl, hw0.trans (hx.mono (by simp))⟩
  · obtain ⟨hg, _⟩ := raceOk_parts hr
    obtain ⟨Hm, Hx, Hy⟩ := raceOk_nums hr
    have hL := brdL_len hg
    have hBT := fun (W : World) (h : RJ W W.heap.size A js) (h2 : Tens W) => implBoardText_good s f o A c js W h h2 hg
    simp only [txtB_brd] at hBT
    simp only [if_true]
    generalize brdL s f o js = L at *
    obtain ⟨s1, s2, s3, s4, s5, a1, a2, a3, a4, a5, a6⟩ := raceI_adds Tryd.prog L hL me fi ot Hm.2 Hx.2 Hy.2
    obtain ⟨R, hR⟩ : ∃ R, R = txtR L me fi ot := ⟨_, rfl⟩
    rw [← hR] at a6 ⊢
    have HM := Lib.hid Hm; have HX := Lib.hid Hx; have HY := Lib.hid Hy; have HR := Lib.hid hr; clear Hm Hx Hy hr hg hR hL
    go_enter Tryd.func9, Tryd.ntmps9
    go_wp2_with fail
    refine (implIsRace_any _ _ _ _ _ _ _ _ _ _ ((hj.below hw0).more (by simp))).mono ?_
    rintro e w1 ⟨rfl, hx⟩
    rw [HR.out]
    have hb1 := box_on (Below.refl _ _) hx (by simp)
    have q1 := boxcells hb1
    have hb' := hw0.trans (hb1.mono (by omega))
    go_wp2_with fail
    refine (hBT _ ((hj.below hb').more (by have := hb'.size; exact this)) (ht.on hb')).mono ?_
    rintro e w2 ⟨rfl, hy⟩
    have hb2 := box_on hb1 hy (by have := hb1.size; simpa using this)
    have hb0 := hb2.drew
    clear q1 hb1
    have q2 := boxcells hb2
    have q := boxcells hb0
    go_wp2_with fail
    clear q2 hb2
    go_region_held3 (fun w' => Below (w.heap.size + 1) (w.alloc (.cells #[.int .i64 s, .int .i64 f, .int .i64 o, .slice A js.length c, .int .i64 me, .int .i64 fi, .int .i64 ot] 34)) w' ∧ (∀ i, w'.cell? ⟨w.heap.size, i, none⟩ = #[.int .i64 s, .int .i64 f, .int .i64 o, .slice A js.length c, .int .i64 me, .int .i64 fi, .int .i64 ot][i]?)) (go_keep)
      (first
        | (go_at_call 26; refine (itoa_on ht _ (by with_reducible first | exact HM.out.1 | exact HX.out.1 | exact HY.out.1) (by with_reducible first | exact HM.out.2 | exact HX.out.2 | exact HY.out.2) (by assumption)).mono ?_; rintro e w1 ⟨rfl, k1, k2⟩))
    go_wp2_with fail
    go_ret2
    exact ⟨rfl, hw0.trans (k1.mono (by omega))⟩
end Go.Proofs.YtbblmbibddjedacDoor

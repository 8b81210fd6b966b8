/-
  IsGame, the model's and the program's.
-/
import Derived.Test.YtdjnfggcenkbfaaC8a
import Derived.Test.YtdjnfggcenkbfaaC1t
namespace Go.Proofs.Ytdjnfggcenkbfaa
open Go.RowKit

/-- Two booleans are handed back. -/
def BoolsIs (w : World) (x ok : Bool) (e : Ending) (w' : World) : Prop := e = .returned (.tuple #[.bool x, .bool ok]) ∧ Below w.heap.size w w'
theorem pathTo_end (s o : Int) (js : List (Int × Int)) (sq : Int) (xs : List Int) (n : Nat) (h : n < (pathTo s o js sq xs n).length) : (pathTo s o js sq xs n)[n] = walkTo s o js sq xs n := by
  have := pathTo_last s o js sq xs n
  rw [List.getElem?_eq_getElem h] at this
  exact Option.some.inj this
/-- What a board and throws ask. -/
def playOk (s f o : Int) (js : List (Int × Int)) (xs : List Int) : Bool := good ⟨s, f, o, js⟩ && throwsOk f xs
theorem asked0 {s f o : Int} {js : List (Int × Int)} : asked s f o js 0 = good ⟨s, f, o, js⟩ := by
  unfold asked
  cases h : good ⟨s, f, o, js⟩
  · rfl
  · have hz := good_sizes h
    have hj : jumpOf js 0 = 0 := by
      rw [good, Bool.and_eq_true, Bool.and_eq_true, jumpsOk_eq, Bool.and_eq_true] at h
      refine jumpOf_none js 0 fun j hj e => ?_
      have := List.all_eq_true.1 h.1.2.1 j hj
      simp only [okJump, Bool.and_eq_true, inB_iff] at this
      omega
    simp [onSq, inB, hj]; omega
theorem good_start {s f o : Int} {js : List (Int × Int)} (h : good ⟨s, f, o, js⟩ = true) : jumpOf js 0 = 0 := onSq_fix (asked_on (asked0.trans h))

set_option maxRecDepth 100000 in
set_option maxHeartbeats 1000000 in
theorem gaIs_any (s f o : Int) (A A' : Option Addr) (c c' : Nat) (xs : List Int) (js : List (Int × Int)) (w : World) (hj : RJ w w.heap.size A js) (hx : RI w w.heap.size A' xs) (hg : good ⟨s, f, o, js⟩ = true) (ht : throwsOk f xs = true) :
    Calls Try.prog 40 #[.agg #[.int .i64 s, .int .i64 f, .int .i64 o, .slice A js.length c], .slice A' xs.length c'] w fun e w' => e = .returned (.bool (gameB s o js xs)) ∧ Below w.heap.size w w' := by
  have hl := hj.1
  have hl' := throwsOk_len ht
  have hz := good_sizes hg
  obtain ⟨RB, hRB⟩ : ∃ RB, RB = gameB s o js xs := ⟨_, rfl⟩
  rw [← hRB]
  have HRB := Lib.hid hRB
  clear hRB
  go_enter Try.func40, Try.ntmps40
  go_wp2_with fail
  refine (sqPlay_any _ _ _ _ _ _ _ _ _ _ _ (hj.go (below1 _ _)) (hx.go (below1 _ _)) hg (by omega) (by omega) ht).mono ?_
  rintro e w3 ⟨v, rfl, hown, hx3⟩
  have hb := box_on (Below.refl _ _) hx3 (by simp)
  have q := boxcells hb
  have hB := (below1 w (.cells #[.int .i64 s, .int .i64 f, .int .i64 o, .slice A js.length c] 31)).trans (hb.mono (by omega))
  obtain ⟨A2, c2, rfl, ho⟩ := own_oi hown (pathTo_len _ _ _ _ _ _)
  have R3 := ho.ri (by rw [pathTo_len]; omega)
  obtain ⟨b, off, rfl, hBB, h3⟩ := R3.at_ (Below.refl _ _) (k := xs.length) (by rw [pathTo_len]; omega)
  rw [pathTo_end] at h3
  have hpl := pathTo_len s o js 0 xs xs.length
  rw [hpl]
  by_cases h0 : 0 < xs.length
  · obtain ⟨n, hn⟩ : ∃ n, xs.length = n + 1 := ⟨xs.length - 1, by omega⟩
    obtain ⟨b', off', e', _, h4⟩ := R3.at_ (Below.refl _ _) (k := n) (by rw [pathTo_len]; omega)
    simp at e'
    obtain ⟨rfl, rfl⟩ := e'
    have e4 : (pathTo s o js 0 xs xs.length)[n]'(by rw [pathTo_len]; omega) = walkTo s o js 0 xs n := by simp [pathTo]
    rw [e4] at h4
    have hv : gameB s o js xs = ((walkTo s o js 0 xs (n + 1) == s) && !(walkTo s o js 0 xs n == s)) := by unfold gameB; rw [hn]; simp
    rw [hn] at h3 ⊢
    obtain ⟨x, hxx⟩ : ∃ x, x = walkTo s o js 0 xs (n + 1) := ⟨_, rfl⟩
    obtain ⟨y, hyy⟩ : ∃ y, y = walkTo s o js 0 xs n := ⟨_, rfl⟩
    rw [← hxx] at h3 hv
    rw [← hyy] at h4 hv
    have HV := Lib.hid (HRB.out.trans hv)
    have i1 : IntKind.i64.wrap (((n + 1 + 1 : Nat) : Int) - 1) = ((n + 1 : Nat) : Int) := by rw [IntWalk.i64_in _ (by omega)]; omega
    have i2 : IntKind.i64.wrap (((n + 1 : Nat) : Int) - 1) = ((n : Nat) : Int) := by rw [IntWalk.i64_in _ (by omega)]; omega
    have i3 : (0 : Int) < (n : Int) + 1 := by omega
    have i5 : decide ((0 : Int) < (n : Int) + 1) = true := decide_eq_true i3
    have hnb : n ≤ 200 := by omega
    clear R3 ho hown hxx hyy hv hn hpl e4 h0
    cases hc1 : (x == s)
    · have HV2 := Lib.hid (show false = RB by rw [HV.out, hc1]; rfl)
      go_wp2_with fail
      go_quiet (fail)
      go_wp2
      go_ret
      exact ⟨ret_bool HV2.out, drewB hB _⟩
    · cases hc2 : (y == s)
      · have HV2 := Lib.hid (show true = RB by rw [HV.out, hc1, hc2]; rfl)
        have hc3 : (y != s) = true := by simpa using hc2
        go_wp2_with fail
        go_quiet (fail)
        go_wp2
        go_ret
        exact ⟨ret_bool HV2.out, drewB hB _⟩
      · have HV2 := Lib.hid (show false = RB by rw [HV.out, hc1, hc2]; rfl)
        have hc3 : (y != s) = false := by simpa using hc2
        go_wp2_with fail
        go_quiet (fail)
        go_wp2
        go_ret
        exact ⟨ret_bool HV2.out, drewB hB _⟩
  · have hn : xs.length = 0 := by omega
    have HV := Lib.hid (show false = RB by rw [HRB.out]; unfold gameB; simp [hn])
    rw [hn] at h3 ⊢
    have i1 : IntKind.i64.wrap (((0 + 1 : Nat) : Int) - 1) = 0 := by rw [IntWalk.i64_in _ (by omega)]; rfl
    clear R3 ho hown hn hpl h0
    go_wp2_with fail
    go_quiet (fail)
    go_wp2
    go_ret
    exact ⟨ret_bool HV.out, drewB hB _⟩

set_option maxHeartbeats 1000000 in
theorem isGameB_any (g : Nat) (s f o : Int) (A : Option Addr) (c : Nat) (xs : List Int) (js : List (Int × Int)) (w : World) (hC : CA w g s f o (fun i => jumpOf js i)) (hx : RI w w.heap.size A xs) (hg : good ⟨s, f, o, js⟩ = true) (ht : throwsOk f xs = true) :
    Calls Try.prog 44 #[.pointer (some ⟨g, 0, none⟩), .slice A xs.length c] w fun e w' => e = .returned (.bool (gameB s o js xs)) ∧ Below w.heap.size w w' := by
  have hl := hx.1
  have hz := good_sizes hg
  have HG := Lib.hid hg; have HT := Lib.hid ht
  clear hg ht
  go_enter Try.func44, Try.ntmps44
  go_wp2
  go_loopw [5, 10] (fun sv i wr => ∃ k : Nat, k ≤ xs.length ∧ i = .int .i64 k ∧ sv = .int .i64 (walkTo s o js 0 xs k) ∧ Hid (∀ i, i < k → ¬ walkTo s o js 0 xs i = s) ∧ Below w.heap.size w wr ∧ CA wr g s f o (fun i => jumpOf js i)) (fun _ i _ => xs.length - (intOf i).toNat)
  case atStart => exact ⟨0, Nat.zero_le _, rfl, by rw [walkTo_zero], Lib.hid (fun i hi => by omega), Below.refl _ _, hC⟩
  case round =>
    obtain ⟨k, hk, rfl, rfl, HN, hb, hCr⟩ := hrel
    have c0 := hCr.sq
    have hin := walkTo_in (sq := 0) HG.out (by omega) (by omega) HT.out k hk
    by_cases hlt : k < xs.length
    · obtain ⟨b, off, rfl, hB, h3⟩ := hx.at_ hb hlt
      have hf := throwsOk_at HT.out hlt
      have HW := Lib.hid (walkTo_succ s o js 0 xs k hlt)
      have HF := Lib.hid (walkTo_fix (sq := 0) (xs := xs) HG.out (good_start HG.out) k hk)
      obtain ⟨x, hxx⟩ : ∃ x, x = walkTo s o js 0 xs k := ⟨_, rfl⟩
      rw [← hxx] at hin ⊢
      have HX := Lib.hid hxx; clear hxx
      cases he : (x == s)
      · go_wp2_with (go_at_call 49; refine (behind_bel _ _ _ _ _ _ _ _ hCr.cv hz.1.1 hz.1.2 hz.2.2.1.1 hz.2.2.1.2 hin.1 hin.2 (good_end HG.out) (by rw [HX.out]; exact HF.out) hf.1 (by omega)).mono ?_; rintro e w' ⟨rfl, hxd, hsd⟩)
        go_roundw
        case rel => exact ⟨k + 1, by omega, by go_num, by rw [HW.out, HX.out], Lib.hid (fun i hi => by
          by_cases e : i = k
          · rw [e, ← HX.out]; simpa using he
          · exact HN.out i (by omega)), hb.trans (hxd.mono hb.size), hCr.below hxd hCr.lt⟩
        case measure => simp [intOf]; omega
      · have HE := Lib.hid (gameB_over (o := o) (js := js) (s := s) hlt (by rw [← HX.out]; simpa using he))
        go_wp2
        go_ret
        exact ⟨ret_bool HE.out.symm, hb⟩
    · obtain rfl : k = xs.length := by omega
      have HE := Lib.hid (gameB_end (o := o) (js := js) (s := s) (xs := xs) hz.1.1 HN.out)
      obtain ⟨x, hxx⟩ : ∃ x, x = walkTo s o js 0 xs xs.length := ⟨_, rfl⟩
      rw [← hxx]
      have HX := Lib.hid hxx; clear hxx
      go_wp2
      go_ret
      exact ⟨ret_bool (by rw [HE.out, HX.out]), hb⟩

set_option maxHeartbeats 400000 in
theorem specIsGame_any (s f o : Int) (A A' : Option Addr) (c c' : Nat) (xs : List Int) (js : List (Int × Int)) (w : World) (hj : RJ w w.heap.size A js) (hx : RI w w.heap.size A' xs) (r : Bool) (x : Bool) (hr : playOk s f o js xs = r) (h0 : r = false → x = false) (h1 : r = true → x = gameB s o js xs) :
    Calls Try.prog 13 #[.agg #[.int .i64 s, .int .i64 f, .int .i64 o, .slice A js.length c], .slice A' xs.length c'] w (BoolsIs w x r) := by
  have hl := hj.1
  have hl' := hx.1
  have hk : (asked s f o js 0 && throwsOk f xs) = r := by rw [asked0]; exact hr
  cases r
  · obtain rfl := h0 rfl
    have HK := Lib.hid hk; clear hk hr h0 h1
    go_enter Try.func13, Try.ntmps13
    go_wp2_with fail
    refine (sqThrows_any _ _ _ _ _ _ _ _ _ _ _ (hj.go (below1 _ _)) (hx.go (below1 _ _))).mono ?_
    rintro e w2 ⟨rfl, hx2⟩
    rw [HK.out]
    go_wp2
    go_ret2
    exact ⟨rfl, (below1 _ _).trans (hx2.mono (by simp))⟩
  · have hp := hr
    unfold playOk at hp
    rw [Bool.and_eq_true] at hp
    have HX := Lib.hid (h1 rfl)
    have HK := Lib.hid hk
    have HP := Lib.hid hp
    clear hk hr h0 h1 hp
    go_enter Try.func13, Try.ntmps13
    go_wp2_with fail
    refine (sqThrows_any _ _ _ _ _ _ _ _ _ _ _ (hj.go (below1 _ _)) (hx.go (below1 _ _))).mono ?_
    rintro e w2 ⟨rfl, hx2⟩
    rw [HK.out]
    have hb := box_on (Below.refl _ _) hx2 (by simp)
    have q := boxcells hb
    have hB := (below1 w (.cells #[.int .i64 s, .int .i64 f, .int .i64 o, .slice A js.length c] 31)).trans (hb.mono (by omega))
    go_wp2_with fail
    refine (gaIs_any _ _ _ _ _ _ _ _ _ _ (hj.go hB) (hx.go hB) HP.out.1 HP.out.2).mono ?_
    rintro e w3 ⟨rfl, hx3⟩
    rw [← HX.out]
    go_wp2
    go_ret2
    exact ⟨rfl, hB.trans (hx3.mono hB.size)⟩

set_option maxRecDepth 100000 in
set_option maxHeartbeats 400000 in
theorem implIsGame_any (s f o : Int) (A A' : Option Addr) (c c' : Nat) (xs : List Int) (js : List (Int × Int)) (w : World) (hj : RJ w w.heap.size A js) (hxs : RI w w.heap.size A' xs) (r : Bool) (x : Bool) (hr : playOk s f o js xs = r) (h0 : r = false → x = false) (h1 : r = true → x = gameB s o js xs) :
    Calls Try.prog 16 #[.agg #[.int .i64 s, .int .i64 f, .int .i64 o, .slice A js.length c], .slice A' xs.length c'] w (BoolsIs w x r) := by
  have hl := hj.1
  have hl' := hxs.1
  cases ha : good ⟨s, f, o, js⟩
  · obtain rfl : r = false := by rw [← hr, playOk, ha]; rfl
    obtain rfl := h0 rfl
    have hst := storeCourse 0 0 0 (fun _ => 0)
    clear h0 h1 hr
    go_enter Try.func16, Try.ntmps16
    go_wp2_with fail
    refine (courseOf_no _ _ _ _ _ _ _ (hj.go (below1 _ _)) ha).mono ?_
    rintro e w2 ⟨rfl, hx⟩
    go_wp2
    go_ret2
    exact ⟨rfl, ((below1 _ _).trans (hx.mono (by simp))).alloc (by have := hx.size; simp at this; omega) _⟩
  · have hst := storeCourse s f o (fun i => jumpOf js i)
    have HG := Lib.hid ha
    have hto : throwsOk f xs = r := by rw [← hr, playOk, ha]; rfl
    have HT := Lib.hid hto
    have HR := Lib.hid h0; have HX := Lib.hid h1
    clear h0 h1 hr hto
    go_enter Try.func16, Try.ntmps16
    go_wp2_with fail
    refine (courseOf_yes _ _ _ _ _ _ _ (hj.go (below1 _ _)) ha).mono ?_
    rintro e w2 ⟨rfl, hx⟩
    have hs2 : w.heap.size < w2.heap.size := by have := hx.size; simp at this; omega
    have hCn : CA (w2.alloc (.cells (crsCells s f o (fun i => jumpOf js i)) 57)) w2.heap.size s f o (fun i => jumpOf js i) := heap_alloc_at _ _ _ rfl
    have hB : Below w.heap.size w (w2.alloc (.cells (crsCells s f o (fun i => jumpOf js i)) 57)) := ((below1 _ _).trans (hx.mono (by simp))).alloc (by omega) _
    go_wp2_with fail
    refine (hasThrows_any _ _ _ _ _ _ _ _ _ hCn (hxs.go hB)).mono ?_
    rintro e w' ⟨rfl, rfl⟩
    rw [HT.out]
    cases r
    · obtain rfl := HR.out rfl
      go_wp2
      go_ret2
      exact ⟨rfl, hB⟩
    · obtain rfl := HX.out rfl
      go_wp2_with fail
      refine (isGameB_any _ _ _ _ _ _ _ _ _ hCn (hxs.go hB) HG.out HT.out).mono ?_
      rintro e w3 ⟨rfl, hx3⟩
      go_wp2
      go_ret2
      exact ⟨rfl, hB.trans (hx3.mono hB.size)⟩

theorem isGame_both (s f o : Int) (js : List (Int × Int)) (xs : List Int) : ∃ (x ok : Bool),
    (∀ (A A' : Option Addr) (c c' : Nat) (W : World), RJ W W.heap.size A js → RI W W.heap.size A' xs → Calls Try.prog 13 #[.agg #[.int .i64 s, .int .i64 f, .int .i64 o, .slice A js.length c], .slice A' xs.length c'] W (BoolsIs W x ok)) ∧
    (∀ (A A' : Option Addr) (c c' : Nat) (W : World), RJ W W.heap.size A js → RI W W.heap.size A' xs → Calls Try.prog 16 #[.agg #[.int .i64 s, .int .i64 f, .int .i64 o, .slice A js.length c], .slice A' xs.length c'] W (BoolsIs W x ok)) := by
  obtain ⟨r, hr⟩ : ∃ r, playOk s f o js xs = r := ⟨_, rfl⟩
  refine ⟨if r then gameB s o js xs else false, r, fun A A' c c' W h1 h2 => ?_, fun A A' c c' W h1 h2 => ?_⟩
  · exact specIsGame_any s f o A A' c c' xs js W h1 h2 r _ hr (fun e => by simp [e]) (fun e => by simp [e])
  · exact implIsGame_any s f o A A' c c' xs js W h1 h2 r _ hr (fun e => by simp [e]) (fun e => by simp [e])
end Go.Proofs.Ytdjnfggcenkbfaa

/-
  JumpsOfGame, the model's and the program's.
-/
import Derived.Test.YtdjnfggcenkbfaaC8a
import Derived.Test.YtdjnfggcenkbfaaC1t
namespace Go.Proofs.Ytdjnfggcenkbfaa
open Go.RowKit

def NumOk (w : World) (x : Int) (ok : Bool) (e : Ending) (w' : World) : Prop := e = .returned (.tuple #[.int .i64 x, .bool ok]) ∧ Below w.heap.size w w'
/-- What a board and throws ask. -/
def playsOk (s f o : Int) (js : List (Int × Int)) (xs : List Int) : Bool := good ⟨s, f, o, js⟩ && throwsOk f xs
theorem good_start0 {s f o : Int} {js : List (Int × Int)} (h : good ⟨s, f, o, js⟩ = true) : jumpOf js 0 = 0 := by
  have hz := good_sizes h
  rw [good, Bool.and_eq_true, Bool.and_eq_true, jumpsOk_eq, Bool.and_eq_true] at h
  refine jumpOf_none js 0 fun j hj e => ?_
  have := List.all_eq_true.1 h.1.2.1 j hj
  simp only [okJump, Bool.and_eq_true, inB_iff] at this
  omega
theorem asked_0 {s f o : Int} {js : List (Int × Int)} : asked s f o js 0 = good ⟨s, f, o, js⟩ := by
  unfold asked
  cases h : good ⟨s, f, o, js⟩
  · rfl
  · have hz := good_sizes h
    simp [onSq, inB, good_start0 h]; omega
theorem landed_plain (s o sq face : Int) : thrown s o [] sq face = landed s o sq face := rfl

set_option maxRecDepth 100000 in
set_option maxHeartbeats 1000000 in
theorem gaJumps_any (s f o : Int) (A : Option Addr) (c : Nat) (sq face : Int) (js : List (Int × Int)) (w : World) (hj : RJ w w.heap.size A js) (hg : good ⟨s, f, o, js⟩ = true) (h0 : 0 ≤ sq) (h1 : sq ≤ s) (hf0 : 1 ≤ face) (hf : face ≤ 8) :
    Calls Try.prog 46 #[.agg #[.int .i64 s, .int .i64 f, .int .i64 o, .slice A js.length c], .int .i64 sq, .int .i64 face] w fun e w' => e = .returned (.int .i64 (jmpS s o js sq face)) ∧ Below w.heap.size w w' := by
  have hl := hj.1
  have hz := good_sizes hg
  obtain ⟨x, hx⟩ : ∃ x, x = landed s o sq face := ⟨_, rfl⟩
  obtain ⟨RB, hRB⟩ : ∃ RB, RB = jmpS s o js sq face := ⟨_, rfl⟩
  rw [← hRB]
  have hv : RB = if x = sq then 0 else if jumpOf js x = x then 0 else 1 := by rw [hRB, hx]; rfl
  have hRJ0 : ∀ w : World, RJ w w.heap.size none [] := fun w => ⟨by simp, fun j h => by simp at h, .inl rfl⟩
  have HX := Lib.hid hx; have HV := Lib.hid hv
  clear hx hv hRB hg
  go_enter Try.func46, Try.ntmps46
  go_wp2_with fail
  refine (sqThrow_any s f o none 0 sq face [] _ (hRJ0 _) hz.1.1 hz.1.2 hz.2.2.1.1 hz.2.2.1.2 h0 h1 hf0 hf).mono ?_
  rintro e w3 ⟨rfl, hx3⟩
  rw [landed_plain, ← HX.out]
  have hb := box_on (Below.refl _ _) ((below1 _ _).trans (hx3.mono (by simp))) (show w.heap.size + 1 ≤ (w.alloc (.cells #[.int .i64 s, .int .i64 f, .int .i64 o, .slice A js.length c] 31)).heap.size by simp)
  have q := boxcells hb
  have hB := (below1 w (.cells #[.int .i64 s, .int .i64 f, .int .i64 o, .slice A js.length c] 31)).trans (hb.mono (by omega))
  cases he : (x == sq)
  · have hne : (x != sq) = true := by simpa using he
    go_wp2_with fail
    refine (sqJump_any s f o A c x js _ (hj.go hB)).mono ?_
    rintro e w4 ⟨rfl, hx4⟩
    obtain ⟨y, hy⟩ : ∃ y, y = jumpOf js x := ⟨_, rfl⟩
    rw [← hy]
    have HY := Lib.hid hy
    clear hy
    have hxs : ¬ x = sq := by simpa using he
    cases hyx : (y == x)
    · have hyx2 : (y != x) = true := by simpa using hyx
      have HV2 := Lib.hid (show 1 = RB by rw [HV.out, if_neg hxs, ← HY.out, if_neg (by simpa using hyx)])
      go_wp2_with fail
      go_ret
      exact ⟨ret_int HV2.out, hB.trans (hx4.mono hB.size)⟩
    · have hyx2 : (y != x) = false := by simpa using hyx
      have HV2 := Lib.hid (show 0 = RB by rw [HV.out, if_neg hxs, ← HY.out, if_pos (by simpa using hyx)])
      go_wp2_with fail
      go_ret
      exact ⟨ret_int HV2.out, hB.trans (hx4.mono hB.size)⟩
  · have hne : (x != sq) = false := by simpa using he
    have HV2 := Lib.hid (show 0 = RB by rw [HV.out, if_pos (by simpa using he)])
    go_wp2_with fail
    go_ret
    exact ⟨ret_int HV2.out, hB⟩

set_option maxRecDepth 100000 in
set_option maxHeartbeats 1000000 in
theorem specJumps_any (s f o : Int) (A A' : Option Addr) (c c' : Nat) (xs : List Int) (js : List (Int × Int)) (w : World) (hj : RJ w w.heap.size A js) (hx : RI w w.heap.size A' xs) (r : Bool) (x : Int) (hr : playsOk s f o js xs = r) (h0 : r = false → x = 0) (h1 : r = true → x = jumpsN s o js xs xs.length) :
    Calls Try.prog 19 #[.agg #[.int .i64 s, .int .i64 f, .int .i64 o, .slice A js.length c], .slice A' xs.length c'] w (NumOk w x r) := by
  have hl := hj.1
  have hl' := hx.1
  have hk : (asked s f o js 0 && throwsOk f xs) = r := by rw [asked_0]; exact hr
  cases r
  · obtain rfl := h0 rfl
    have HK := Lib.hid hk; clear hk hr h0 h1
    go_enter Try.func19, Try.ntmps19
    go_wp2_with fail
    refine (sqThrows_any _ _ _ _ _ _ _ _ _ _ _ (hj.go (below1 _ _)) (hx.go (below1 _ _))).mono ?_
    rintro e w2 ⟨rfl, hx2⟩
    rw [HK.out]
    go_wp2
    go_ret2
    exact ⟨rfl, (below1 _ _).trans (hx2.mono (by simp))⟩
  · have hp := hr
    unfold playsOk at hp
    rw [Bool.and_eq_true] at hp
    have hz := good_sizes hp.1
    have hl2 := throwsOk_len hp.2
    have HX := Lib.hid (h1 rfl)
    have HK := Lib.hid hk
    have HP := Lib.hid hp
    clear hk hr h0 h1 hp
    go_enter Try.func19, Try.ntmps19
    go_wp2_with fail
    refine (sqThrows_any _ _ _ _ _ _ _ _ _ _ _ (hj.go (below1 _ _)) (hx.go (below1 _ _))).mono ?_
    rintro e w2 ⟨rfl, hx2⟩
    rw [HK.out]
    have hb := box_on (Below.refl _ _) hx2 (by simp)
    go_wp2_with fail
    go_loopw [6, 7, 9, 16] (fun nv sv _ i wr => ∃ k : Nat, k ≤ xs.length ∧ i = .int .i64 k ∧ nv = .int .i64 (jumpsN s o js xs k) ∧ sv = .int .i64 (walkTo s o js 0 xs k) ∧ Below (w.heap.size + 1) (w.alloc (.cells #[.int .i64 s, .int .i64 f, .int .i64 o, .slice A js.length c] 31)) wr) (fun _ _ _ i _ => xs.length - (intOf i).toNat)
    case atStart => exact ⟨0, Nat.zero_le _, rfl, rfl, by rw [walkTo_zero], hb⟩
    case round =>
      clear hb
      obtain ⟨k, hk, rfl, rfl, rfl, hb⟩ := hrel
      have q := boxcells hb
      have hB := (below1 w (.cells #[.int .i64 s, .int .i64 f, .int .i64 o, .slice A js.length c] 31)).trans (hb.mono (by omega))
      have hsz : w.heap.size + 1 ≤ wr.heap.size := by have := hb.size; simpa using this
      have hin := walkTo_in (sq := 0) HP.out.1 (by omega) (by omega) HP.out.2 k hk
      have hjb := jumpsN_le s o js xs k
      by_cases hlt : k < xs.length
      · obtain ⟨b, off, rfl, hBb, h3⟩ := hx.at_ hB hlt
        have hf := throwsOk_at HP.out.2 hlt
        have HW := Lib.hid (walkTo_succ s o js 0 xs k hlt)
        have HN := Lib.hid (jumpsN_succ s o js xs hlt)
        have h01 := jmpS_01 s o js (walkTo s o js 0 xs k) xs[k]
        obtain ⟨y, hy⟩ : ∃ y, y = walkTo s o js 0 xs k := ⟨_, rfl⟩
        obtain ⟨u, hu⟩ : ∃ u, u = xs[k] := ⟨_, rfl⟩
        obtain ⟨n, hn⟩ : ∃ n, n = jumpsN s o js xs k := ⟨_, rfl⟩
        rw [← hy] at hin h01 ⊢
        rw [← hu] at h3 hf h01
        rw [← hn] at hjb ⊢
        have HY := Lib.hid hy; have HU := Lib.hid hu; have HNN := Lib.hid hn
        clear hy hu hn
        go_wp2_with fail
        refine (gaJumps_any s f o A c y u js _ (hj.go hB) HP.out.1 hin.1 hin.2 hf.1 (by omega)).mono ?_
        rintro e w5 ⟨rfl, hx5⟩
        obtain ⟨d, hd⟩ : ∃ d, d = jmpS s o js y u := ⟨_, rfl⟩
        rw [← hd] at h01 ⊢
        have HD := Lib.hid hd
        clear hd
        have hb5 := box_on hb hx5 hsz
        have q5 := boxcells hb5
        have hB5 := (below1 w (.cells #[.int .i64 s, .int .i64 f, .int .i64 o, .slice A js.length c] 31)).trans (hb5.mono (by omega))
        have hw : IntKind.i64.wrap (n + d) = n + d := IntWalk.i64_in _ (by omega)
        clear q
        go_wp2_with fail
        refine (sqThrow_any s f o A c y u js _ (hj.go hB5) hz.1.1 hz.1.2 hz.2.2.1.1 hz.2.2.1.2 hin.1 hin.2 hf.1 (by omega)).mono ?_
        rintro e w6 ⟨rfl, hx6⟩
        have hb6 := box_on hb5 hx6 (Nat.le_trans hsz hx5.size)
        go_wp2_with fail
        go_roundw
        case rel => exact ⟨k + 1, by omega, by go_num, by rw [HN.out, ← HNN.out, ← HY.out, ← HU.out, ← HD.out], by rw [HW.out, ← HY.out, ← HU.out], hb6⟩
        case measure => simp [intOf]; omega
      · obtain rfl : k = xs.length := by omega
        rw [← HX.out]
        clear HX
        go_wp2
        go_ret2
        exact ⟨rfl, hB⟩

set_option maxRecDepth 100000 in
set_option maxHeartbeats 1000000 in
theorem implJumps_any (s f o : Int) (A A' : Option Addr) (c c' : Nat) (xs : List Int) (js : List (Int × Int)) (w : World) (hj : RJ w w.heap.size A js) (hxs : RI w w.heap.size A' xs) (r : Bool) (x : Int) (hr : playsOk s f o js xs = r) (h0 : r = false → x = 0) (h1 : r = true → x = jumpsN s o js xs xs.length) :
    Calls Try.prog 20 #[.agg #[.int .i64 s, .int .i64 f, .int .i64 o, .slice A js.length c], .slice A' xs.length c'] w (NumOk w x r) := by
  have hl := hj.1
  have hl' := hxs.1
  cases ha : good ⟨s, f, o, js⟩
  · obtain rfl : r = false := by rw [← hr, playsOk, ha]; rfl
    obtain rfl := h0 rfl
    have hst := storeCourse 0 0 0 (fun _ => 0)
    clear h0 h1 hr
    go_enter Try.func20, Try.ntmps20
    go_wp2_with fail
    refine (courseOf_no _ _ _ _ _ _ _ (hj.go (below1 _ _)) ha).mono ?_
    rintro e w2 ⟨rfl, hx⟩
    go_wp2
    go_ret2
    exact ⟨rfl, ((below1 _ _).trans (hx.mono (by simp))).alloc (by have := hx.size; simp at this; omega) _⟩
  · have hst := storeCourse s f o (fun i => jumpOf js i)
    have HG := Lib.hid ha
    have hz := good_sizes ha
    have hto : throwsOk f xs = r := by rw [← hr, playsOk, ha]; rfl
    have HT := Lib.hid hto
    have HR := Lib.hid h0; have HX := Lib.hid h1
    clear h0 h1 hr hto
    go_enter Try.func20, Try.ntmps20
    go_wp2_with fail
    refine (courseOf_yes _ _ _ _ _ _ _ (hj.go (below1 _ _)) ha).mono ?_
    rintro e w2 ⟨rfl, hx⟩
    have hs2 : w.heap.size < w2.heap.size := by have := hx.size; simp at this; omega
    have hCn : CA (w2.alloc (.cells (crsCells s f o (fun i => jumpOf js i)) 57)) w2.heap.size s f o (fun i => jumpOf js i) := heap_alloc_at _ _ _ rfl
    have hB : Below w.heap.size w (w2.alloc (.cells (crsCells s f o (fun i => jumpOf js i)) 57)) := ((below1 _ _).trans (hx.mono (by simp))).alloc (by omega) _
    go_wp2_with fail
    refine (hasThrows_any _ _ _ _ _ _ _ _ _ hCn (hxs.go hB)).mono ?_
    rintro e w' ⟨rfl, rfl⟩
    rw [HT.out]
    cases r
    · obtain rfl := HR.out rfl
      go_wp2
      go_ret2
      exact ⟨rfl, hB⟩
    · have HXX := Lib.hid (HX.out rfl)
      have hl2 := throwsOk_len HT.out
      clear HX HR
      have hg := hCn.lt
      go_wp2_with fail
      go_loopw [8, 9, 11, 26] (fun sv nv _ i wr => ∃ k : Nat, k ≤ xs.length ∧ i = .int .i64 k ∧ nv = .int .i64 (jumpsN s o js xs k) ∧ sv = .int .i64 (walkTo s o js 0 xs k) ∧ Below w.heap.size w wr ∧ CA wr w2.heap.size s f o (fun i => jumpOf js i)) (fun _ _ _ i _ => xs.length - (intOf i).toNat)
      case atStart => exact ⟨0, Nat.zero_le _, rfl, rfl, by rw [walkTo_zero], hB, hCn⟩
      case round =>
        clear hB hCn
        obtain ⟨k, hk, rfl, rfl, rfl, hB, hCn⟩ := hrel
        have hin := walkTo_in (sq := 0) HG.out (by omega) (by omega) HT.out k hk
        have hjb := jumpsN_le s o js xs k
        by_cases hlt : k < xs.length
        · obtain ⟨b, off, rfl, hBb, h3⟩ := hxs.at_ hB hlt
          have hf := throwsOk_at HT.out hlt
          have hfx := walkTo_fix (sq := 0) (xs := xs) HG.out (good_start0 HG.out) k hk
          have HW := Lib.hid (walkTo_succ s o js 0 xs k hlt)
          have HN := Lib.hid (jumpsN_succ s o js xs hlt)
          have h01 := jmpS_01 s o js (walkTo s o js 0 xs k) xs[k]
          have hje := jmp_eq (s := s) (o := o) (face := xs[k]) hfx
          obtain ⟨y, hy⟩ : ∃ y, y = walkTo s o js 0 xs k := ⟨_, rfl⟩
          obtain ⟨u, hu⟩ : ∃ u, u = xs[k] := ⟨_, rfl⟩
          obtain ⟨n, hn⟩ : ∃ n, n = jumpsN s o js xs k := ⟨_, rfl⟩
          rw [← hy] at hin h01 hfx hje ⊢
          rw [← hu] at h3 hf h01 hje
          rw [← hn] at hjb ⊢
          obtain ⟨d, hd⟩ : ∃ d, d = jmpS s o js y u := ⟨_, rfl⟩
          rw [← hd] at h01 hje
          have HY := Lib.hid hy; have HU := Lib.hid hu; have HNN := Lib.hid hn; have HD := Lib.hid hd; have HFX := Lib.hid hfx; have HJE := Lib.hid hje
          have hw : IntKind.i64.wrap (n + d) = n + d := IntWalk.i64_in _ (by omega)
          clear hy hu hn hd hfx hje
          go_wp2_with fail
          refine (jumpsBy_any _ s f o js y u _ hCn.cv hz.1.1 hz.1.2 hz.2.2.1.1 hz.2.2.1.2 hin.1 hin.2 hf.1 (by omega)).mono ?_
          rintro e w5 ⟨rfl, rfl⟩
          rw [HJE.out]
          go_wp2_with fail
          refine (behind_bel _ s f o js y u _ hCn.cv hz.1.1 hz.1.2 hz.2.2.1.1 hz.2.2.1.2 hin.1 hin.2 (good_end HG.out) HFX.out hf.1 (by omega)).mono ?_
          rintro e w6 ⟨rfl, hx6, hs6⟩
          clear hs6
          go_wp2_with fail
          go_roundw
          case rel => exact ⟨k + 1, by omega, by go_num, by rw [HN.out, ← HNN.out, ← HY.out, ← HU.out, ← HD.out], by rw [HW.out, ← HY.out, ← HU.out], hB.trans (hx6.mono hB.size), hCn.below hx6 hCn.lt⟩
          case measure => simp [intOf]; omega
        · obtain rfl : k = xs.length := by omega
          rw [← HXX.out]
          clear HXX
          go_wp2
          go_ret2
          exact ⟨rfl, hB⟩

theorem jumpsOfGame_both (s f o : Int) (js : List (Int × Int)) (xs : List Int) : ∃ (x : Int) (ok : Bool),
    (∀ (A A' : Option Addr) (c c' : Nat) (W : World), RJ W W.heap.size A js → RI W W.heap.size A' xs → Calls Try.prog 19 #[.agg #[.int .i64 s, .int .i64 f, .int .i64 o, .slice A js.length c], .slice A' xs.length c'] W (NumOk W x ok)) ∧
    (∀ (A A' : Option Addr) (c c' : Nat) (W : World), RJ W W.heap.size A js → RI W W.heap.size A' xs → Calls Try.prog 20 #[.agg #[.int .i64 s, .int .i64 f, .int .i64 o, .slice A js.length c], .slice A' xs.length c'] W (NumOk W x ok)) := by
  obtain ⟨r, hr⟩ : ∃ r, playsOk s f o js xs = r := ⟨_, rfl⟩
  refine ⟨if r then jumpsN s o js xs xs.length else 0, r, fun A A' c c' W h1 h2 => ?_, fun A A' c c' W h1 h2 => ?_⟩
  · exact specJumps_any s f o A A' c c' xs js W h1 h2 r _ hr (fun e => by simp [e]) (fun e => by simp [e])
  · exact implJumps_any s f o A A' c c' xs js W h1 h2 r _ hr (fun e => by simp [e]) (fun e => by simp [e])
end Go.Proofs.Ytdjnfggcenkbfaa

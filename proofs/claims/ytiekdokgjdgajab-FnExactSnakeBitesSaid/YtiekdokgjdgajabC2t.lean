/-
  PlacesAfter, the model's and the program's.
-/
import Derived.Test.YtiekdokgjdgajabC2s
import Derived.Test.YtiekdokgjdgajabC2e
import Derived.Test.YtiekdokgjdgajabC1i
namespace Go.Proofs.Ytiekdokgjdgajab
open Go.RowKit

theorem arrLen : Try.prog.arrayLen 52 = 101 := by kernel_rfl
theorem arrElem (w : World) : (sizeOf (Try.prog.elem 52)).run Try.prog w = .ok 1 w := by kernel_rfl
theorem arrU : Try.prog.underlying 52 = some (.array (Try.prog.arrayLen 52) (Try.prog.elem 52)) := by kernel_rfl
theorem sliceArr (g n : Nat) (hn : n ≤ 101) (w : World) : (Instr.sliceAt 52 (.pointer (some ⟨g, 0, none⟩)) none (some (.int .i64 n)) none).run Try.prog w = .ok (.slice (some ⟨g, 0, none⟩) n 101) w := by
  rw [run_sliceAt_array_h w _ _ arrU .i64 n (by omega) (by rw [arrLen]; omega), arrElem, arrLen]
  simp [slicedAt, Result.andThen, Addr.add]
theorem storeArr (P : Nat → Int) (w : World) : (storeCells ⟨w.heap.size, 0, none⟩ (arrC P).toList 0).run Try.prog (w.alloc (.cells Try.zeroCells52 52)) = .ok () (w.alloc (.cells (arrC P) 52)) :=
  run_storeCells_new w _ _ _ (by rw [arr_size]; exact sizeArr) (by rw [arrZero, arr_size, arr_size]) (Array.all_eq_true_iff_forall_mem.2 fun u hu => arr_one _ u (Array.mem_toList_iff.2 hu))
set_option maxRecDepth 100000 in
set_option maxHeartbeats 400000 in
theorem specPlacesAfter_any (s f o : Int) (A : Option Addr) (c : Nat) (sq th : Int) (js : List (Int × Int)) (w : World) (hj : RJ w w.heap.size A js) :
    Calls Try.prog 16 #[.agg #[.int .i64 s, .int .i64 f, .int .i64 o, .slice A js.length c], .int .i64 sq, .int .i64 th] w (IntsBack w (placesR s f o js sq th)) := by
  have hl := hj.1
  cases ha : (asked s f o js sq && inB th 0 20)
  · have ht : placesR s f o js sq th = ([], false) := by rw [placesR, ha]; rfl
    rw [ht]
    have HA := Lib.hid ha; clear ha ht
    go_enter Try.func16, Try.ntmps16
    go_wp2_with (go_at_call 47; refine (chAsked_any _ _ _ _ _ _ _ _ _ (hj.go (below1 _ _))).mono ?_; rintro e w2 ⟨rfl, hx⟩; rw [HA.out])
    go_ret2
    exact ⟨none, 0, rfl, .inl rfl, (below1 _ _).trans (hx.mono (by simp))⟩
  · have ht : placesR s f o js sq th = (placesL s f o js sq th.toNat, true) := by rw [placesR, ha]; rfl
    rw [ht]
    have ha1 := ha
    rw [Bool.and_eq_true] at ha1
    have hz := good_sizes (asked_good ha1.1)
    have hth := inB_iff.1 ha1.2
    obtain ⟨t, rfl⟩ := Int.eq_ofNat_of_zero_le hth.1
    have HA := Lib.hid ha; have HA1 := Lib.hid ha1.1; clear ha ht ha1
    have ht20 : t ≤ 20 := by omega
    go_enter Try.func16, Try.ntmps16
    go_wp2_with fail
    refine (chAsked_any _ _ _ _ _ _ _ _ _ (hj.go (below1 _ _))).mono ?_
    rintro e w2 ⟨rfl, hx⟩
    rw [HA.out]
    have hb := box_on (Below.refl _ _) hx (by simp)
    have q := boxcells hb
    have hB2 := (below1 w (.cells #[.int .i64 s, .int .i64 f, .int .i64 o, .slice A js.length c] 31)).trans (hb.mono (by omega))
    go_wp2_with (go_at_call 48; refine (chPlaces_any _ _ _ _ _ _ _ _ _ (hj.go hB2) HA1.out ht20).mono ?_; rintro e w3 ⟨g, rfl, hg, hrow, hx3⟩)
    have hs2 := hB2.size
    go_ret2
    have hl2 := placesL_len s f o js sq t
    refine ⟨some ⟨g, 0, none⟩, nsq s, by simp only [Int.toNat_natCast, hl2]; rfl, .inr ⟨g, rfl, by omega, ?_⟩, hB2.trans (hx3.mono hs2)⟩
    simp only [Int.toNat_natCast]
    rw [hl2]
    exact hrow.congr fun k hk => by simp [placesL, List.getD_eq_getElem?_getD, hk]

set_option maxRecDepth 100000 in
set_option maxHeartbeats 400000 in
theorem implPlacesAfter_any (s f o : Int) (A : Option Addr) (c : Nat) (sq th : Int) (js : List (Int × Int)) (w : World) (hj : RJ w w.heap.size A js) :
    Calls Try.prog 18 #[.agg #[.int .i64 s, .int .i64 f, .int .i64 o, .slice A js.length c], .int .i64 sq, .int .i64 th] w (IntsBack w (placesR s f o js sq th)) := by
  have hl := hj.1
  cases ha : (asked s f o js sq && inB th 0 20)
  · have ht : placesR s f o js sq th = ([], false) := by rw [placesR, ha]; rfl
    rw [ht]
    have hn : (asked s f o js sq && decide (0 ≤ th) && decide (th ≤ 20)) = false := by rw [Bool.and_assoc]; exact ha
    have hst := fun w => storeWalk 0 0 0 (fun _ => 0) 0 0 none none w
    have HN := Lib.hid hn; clear ha ht hn
    go_enter Try.func18, Try.ntmps18
    go_wp2_with (go_at_call 50; refine (walkHome_no _ _ _ _ _ _ _ _ _ _ (hj.go (below1 _ _)) HN.out).mono ?_; rintro e w2 ⟨rfl, hx⟩)
    go_ret2
    exact ⟨none, 0, rfl, .inl rfl, ((below1 _ _).trans (hx.mono (by simp))).alloc (by have := hx.size; simp at this; omega) _⟩
  · have ht : placesR s f o js sq th = (placesL s f o js sq th.toNat, true) := by rw [placesR, ha]; rfl
    rw [ht]
    have ha1 := ha
    rw [Bool.and_eq_true] at ha1
    have hz := good_sizes (asked_good ha1.1)
    have hth := inB_iff.1 ha1.2
    obtain ⟨t, rfl⟩ := Int.eq_ofNat_of_zero_le hth.1
    have HA := Lib.hid ha1.1; clear ha ht ha1
    have hst : ∀ (x y : Option Nat) (w : World), (storeCells ⟨w.heap.size, 0, none⟩ (wlkCells s f o (fun i => jumpOf js i) s (f ^ t) x y).toList 0).run Try.prog (w.alloc (.cells Try.zeroCells57 57)) = .ok () (w.alloc (.cells (wlkCells s f o (fun i => jumpOf js i) s (f ^ t) x y) 57)) := fun x y w => storeWalk _ _ _ _ _ _ _ _ w
    go_enter Try.func18, Try.ntmps18
    go_wp2_with fail
    refine (walkHome_yes _ _ _ _ _ _ _ _ _ _ (hj.go (below1 _ _)) HA.out hth.2 (by omega)).mono ?_
    rintro e w1 ⟨bl, bb, rfl, l0, b0, hne, l1, b1, hL, hE, hx⟩
    have hs1 := hx.size
    simp only [World.size_alloc] at l0 b0 hs1
    have HNE := Lib.hid hne; clear hne
    have hW : WA (w1.alloc (.cells (wlkCells s f o (fun i => jumpOf js i) s (f ^ t) (some bl) (some bb)) 57)) w1.heap.size s f o (fun i => jumpOf js i) s (f ^ t) (some bl) (some bb) := heap_alloc_at _ _ _ rfl
    have hL1 := hL.alloc (.cells (wlkCells s f o (fun i => jumpOf js i) s (f ^ t) (some bl) (some bb)) 57)
    have hB1 : Below w.heap.size w w1 := (below1 _ _).trans (hx.mono (by simp))
    have hbox : Below (w.heap.size + 1) (w.alloc (.cells #[.int .i64 s, .int .i64 f, .int .i64 o, .slice A js.length c] 31)) w1 := box_on (Below.refl _ _) hx (by simp)
    have q1 := boxcells (hbox.alloc (by omega) (.cells (wlkCells s f o (fun i => jumpOf js i) s (f ^ t) (some bl) (some bb)) 57))
    have hp := pow_lt63 hz.2.1.1 hz.2.1.2 (show t ≤ 20 by omega)
    have hsum : ∀ q, ct s f o js s sq t q false + ct s f o js s sq t q true ≤ 1152921504606846976 := fun q => by
      rw [ct_pl]
      have := pl_le (asked_good HA.out) (asked_on HA.out) t q
      omega
    have HSUM := Lib.hid hsum; clear hsum hp
    go_wp2_with fail
    refine (places_any _ _ _ _ _ _ _ _ _ _ _ hW hL1 (fun q m => ct_nonneg _ _ _ _ _ _ _ _ _) HSUM.out).mono ?_
    rintro e w2 ⟨rfl, hx2⟩
    have hst2 := storeArr (fun i => ct s f o js s sq t i false + ct s f o js s sq t i true)
    have hs2 := hx2.size
    simp only [World.size_alloc] at hs2
    have hB2 : Below w.heap.size w w2 := (hB1.alloc (by omega) _).trans (hx2.mono (by simp; omega))
    have hbox2 : Below (w.heap.size + 1) (w.alloc (.cells #[.int .i64 s, .int .i64 f, .int .i64 o, .slice A js.length c] 31)) w2 := (hbox.alloc (by omega) _).trans (hx2.mono (by simp; omega))
    obtain ⟨n, hn⟩ : ∃ n : Nat, n = nsq s := ⟨_, rfl⟩
    have hsn : s + 1 = (n : Int) := by rw [hn]; unfold nsq; omega
    have HN := Lib.hid hn; clear hn
    have iw : IntKind.i64.wrap (s + 1) = s + 1 := IntWalk.i64_in _ (by omega)
    rw [hsn] at iw
    have hn1 : n ≤ 101 := by omega
    have c0 : ((w2.alloc (.cells (arrC (fun i => ct s f o js s sq t i false + ct s f o js s sq t i true)) 52)).alloc (.cells #[] 3)).cell? ⟨w.heap.size, 0, none⟩ = some (.int .i64 s) := (boxcells ((hbox2.alloc (by omega) _).alloc (by simp; omega) _) 0).trans rfl
    clear q1 hst hW hL1 hbox hbox2
    have hsl := fun w => sliceArr w2.heap.size n hn1 w
    obtain ⟨i0, hi, hz0, hz1, hz2⟩ := info_parts infoInt1
    have hA0 : ((w2.alloc (.cells (arrC (fun i => ct s f o js s sq t i false + ct s f o js s sq t i true)) 52)).alloc (.cells #[] 3)).heap[w2.heap.size]? = some (.cells (arrC (fun i => ct s f o js s sq t i false + ct s f o js s sq t i true)) 52 (0, 0)) := (Below.heap_alloc _ _ _ (by simp)).trans (heap_alloc_at _ _ _ rfl)
    have hO : ((w2.alloc (.cells (arrC (fun i => ct s f o js s sq t i false + ct s f o js s sq t i true)) 52)).alloc (.cells #[] 3)).ownsRow w.heap.size 3 1 (.slice (some ⟨w2.heap.size + 1, 0, none⟩) 0 0) 0 [] := ⟨rfl, .inr ⟨w2.heap.size + 1, 0, #[], rfl, by omega, heap_alloc_at _ _ _ (by simp), Nat.le_refl _, by decide, rfl, rfl⟩⟩
    have hnews : ∀ (j : Nat) u, ((List.range n).map (fun (i : Nat) => Value.int .i64 (pl s f o js sq t i)))[j]? = some u → ((w2.alloc (.cells (arrC (fun i => ct s f o js s sq t i false + ct s f o js s sq t i true)) 52)).alloc (.cells #[] 3)).cell? ((⟨w2.heap.size, 0, none⟩ : Addr).add j) = some u := fun j u h => by
      have hjn : j < n := by
        rcases Nat.lt_or_ge j n with h1 | h1
        · exact h1
        · rw [List.getElem?_eq_none (by simpa using h1)] at h; cases h
      have e : u = .int .i64 (pl s f o js sq t j) := by simpa [hjn] using h.symm
      have ea : (⟨w2.heap.size, 0, none⟩ : Addr).add j = ⟨w2.heap.size, j, none⟩ := by unfold Addr.add; split <;> simp_all
      rw [ea, e, ← ct_pl s f o js s]
      exact (cell_of_row _ _ _ _ _ _ hA0).trans (arr_at _ (by omega))
    have hone : ∀ u ∈ (List.range n).map (fun (i : Nat) => Value.int .i64 (pl s f o js sq t i)), u.oneCell' = true := fun u hu => by
      simp only [List.mem_map] at hu
      obtain ⟨i, _, rfl⟩ := hu
      rfl
    have HNW := Lib.hid hnews; have HON := Lib.hid hone; have HAA := Lib.hid hA0; clear hnews hone hA0
    go_wp2_with (at_builtin; go_loud (refine wpList_append_own _ rfl _ _ 26 rfl w.heap.size 3 i0 (.int .i64 0) 1 8 Try.underlying26 hi hz0 hz1 hz2 rfl (by decide) _ _ _ rfl hO ⟨w2.heap.size, 0, none⟩ n 101 ((List.range n).map (fun (i : Nat) => Value.int .i64 (pl s f o js sq t i))) rfl (by simp) HNW.out HON.out (by unfold maxLen; omega) (by omega) (by simp; omega) ?_; intro v1 w4 hown4 hg4 _))
    have hB4 : Below w.heap.size w w4 := ((hB2.alloc (by omega) _).alloc (by simp; omega) _).grown hg4 (by simp; omega) (fun j h => by have h' : some (w2.heap.size + 1) = some j := h; injection h' with h'; omega)
    have e4 : (List.range n).map (fun (i : Nat) => Value.int .i64 (pl s f o js sq t i)) = (placesL s f o js sq t).map (Value.int .i64) := by rw [placesL, ← HN.out, List.map_map]; rfl
    rw [List.nil_append, e4] at hown4
    have hln : (placesL s f o js sq t).length = 0 + n := by rw [placesL_len, ← HN.out, Nat.zero_add]
    obtain ⟨A', c', rfl, ho⟩ := own_oi hown4 hln
    simp only [Int.toNat_natCast]
    go_ret2
    exact ⟨A', c', rfl, ho, hB4⟩
end Go.Proofs.Ytiekdokgjdgajab

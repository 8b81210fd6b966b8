/-
  PartAt, the program's.
-/
import Derived.Test.YtiekdokgjdgajabC2h
import Derived.Test.YtiekdokgjdgajabC2t
namespace Go.Proofs.Ytiekdokgjdgajab
open Go.RowKit

theorem WA.cv {w : World} {g : Nat} {s f o : Int} {G : Nat → Int} {wt al : Int} {l b : Option Nat} (h : WA w g s f o G wt al l b) : CV w g s f o G :=
  ⟨(cell_of_row _ _ _ _ _ _ h).trans ((wlk_lt _ _ _ _ _ _ _ _ (by omega)).trans (crs_0 _ _ _ _)), (cell_of_row _ _ _ _ _ _ h).trans ((wlk_lt _ _ _ _ _ _ _ _ (by omega)).trans (crs_1 _ _ _ _)), (cell_of_row _ _ _ _ _ _ h).trans ((wlk_lt _ _ _ _ _ _ _ _ (by omega)).trans (crs_2 _ _ _ _)), fun hi => (cell_of_row _ _ _ _ _ _ h).trans ((wlk_lt _ _ _ _ _ _ _ _ (by omega)).trans (crs_at _ _ _ _ _ hi))⟩
theorem WA.all {w : World} {g : Nat} {s f o : Int} {G : Nat → Int} {wt al : Int} {l b : Option Nat} (h : WA w g s f o G wt al l b) : w.cell? ⟨g, 105, none⟩ = some (.int .i64 al) := (cell_of_row _ _ _ _ _ _ h).trans (wlk_105 _ _ _ _ _ _ _ _)

set_option maxRecDepth 100000 in
set_option maxHeartbeats 400000 in
theorem implPartAt_no (s f o : Int) (A : Option Addr) (c : Nat) (sq to th : Int) (js : List (Int × Int)) (w : World) (hj : RJ w w.heap.size A js) (hno : partOk s f o js sq to th = false) :
    Calls Try.prog 25 #[.agg #[.int .i64 s, .int .i64 f, .int .i64 o, .slice A js.length c], .int .i64 sq, .int .i64 to, .int .i64 th] w (PartIs w 0 0 false) := by
  have hl := hj.1
  cases ha : (asked s f o js sq && inB th 0 20)
  · have hn : (asked s f o js sq && decide (0 ≤ th) && decide (th ≤ 20)) = false := by rw [Bool.and_assoc]; exact ha
    have hst := fun w => storeWalk 0 0 0 (fun _ => 0) 0 0 none none w
    have HN := Lib.hid hn; clear ha hn hno
    go_enter Try.func25, Try.ntmps25
    go_wp2_with (go_at_call 50; refine (walkHome_no _ _ _ _ _ _ _ _ _ _ (hj.go (below1 _ _)) HN.out).mono ?_; rintro e w2 ⟨rfl, hx⟩)
    exact bodyPost_ret (v := .tuple #[.int .i64 0, .int .i64 0, .bool false]) (by simp [results, Try.results25]) rfl
      ⟨rfl, ((below1 _ _).trans (hx.mono (by simp))).alloc (by have := hx.size; simp at this; omega) _⟩
  · have hto : onSq s js to = false := by
      cases h : onSq s js to
      · rfl
      · rw [Bool.and_eq_true] at ha
        rw [partOk, ha.1, h, ha.2] at hno; cases hno
    have ha1 := ha
    rw [Bool.and_eq_true] at ha1
    have hz := good_sizes (asked_good ha1.1)
    have hth := inB_iff.1 ha1.2
    obtain ⟨t, rfl⟩ := Int.eq_ofNat_of_zero_le hth.1
    have HA := Lib.hid ha1.1; have HTO := Lib.hid hto; clear ha ha1 hto hno
    have hst : ∀ (x y : Option Nat) (w : World), (storeCells ⟨w.heap.size, 0, none⟩ (wlkCells s f o (fun i => jumpOf js i) s (f ^ t) x y).toList 0).run Try.prog (w.alloc (.cells Try.zeroCells57 57)) = .ok () (w.alloc (.cells (wlkCells s f o (fun i => jumpOf js i) s (f ^ t) x y) 57)) := fun x y w => storeWalk _ _ _ _ _ _ _ _ w
    go_enter Try.func25, Try.ntmps25
    go_wp2_with fail
    refine (walkHome_yes _ _ _ _ _ _ _ _ _ _ (hj.go (below1 _ _)) HA.out hth.2 (by omega)).mono ?_
    rintro e w1 ⟨bl, bb, rfl, l0, b0, hne, l1, b1, hL, hE, hx⟩
    have hs1 := hx.size
    simp only [World.size_alloc] at l0 b0 hs1
    have HNE := Lib.hid hne; clear hne
    have hW : WA (w1.alloc (.cells (wlkCells s f o (fun i => jumpOf js i) s (f ^ t) (some bl) (some bb)) 57)) w1.heap.size s f o (fun i => jumpOf js i) s (f ^ t) (some bl) (some bb) := heap_alloc_at _ _ _ rfl
    go_wp2_with (go_at_call 56; refine (holds_any _ _ _ _ _ _ _ hW.cv hz.1.2).mono ?_; rintro e w2 ⟨rfl, rfl⟩; rw [HTO.out])
    exact bodyPost_ret (v := .tuple #[.int .i64 0, .int .i64 0, .bool false]) (by simp [results, Try.results25]) rfl
      ⟨rfl, ((below1 _ _).trans (hx.mono (by simp))).alloc (by omega) _⟩

set_option maxRecDepth 100000 in
set_option maxHeartbeats 400000 in
theorem implPartAt_yes (s f o : Int) (A : Option Addr) (c : Nat) (sq : Int) (q0 t m F : Nat) (js : List (Int × Int)) (w : World) (hj : RJ w w.heap.size A js) (hyes : partOk s f o js sq q0 t = true) (hm : pl s f o js sq t q0 = (m : Int)) (hF : f ^ t = (F : Int)) :
    Calls Try.prog 25 #[.agg #[.int .i64 s, .int .i64 f, .int .i64 o, .slice A js.length c], .int .i64 sq, .int .i64 q0, .int .i64 t] w (PartIs w (lowA m F) (lowB m F) true) := by
  have hl := hj.1
  simp only [partOk, Bool.and_eq_true] at hyes
  obtain ⟨⟨ha, hto⟩, hth⟩ := hyes
  have hz := good_sizes (asked_good ha)
  have hth' := inB_iff.1 hth
  have ht20 : t ≤ 20 := by omega
  have HA := Lib.hid ha
  have hto2 := onSq_in hto
  have HTO := Lib.hid hto
  have hp := pow_lt63 hz.2.1.1 hz.2.1.2 ht20
  have hpl1 := pl_le (asked_good ha) (asked_on ha) t q0
  have hm1 : m ≤ 1152921504606846976 := by omega
  have hF1 : F ≤ 1152921504606846976 := by omega
  have hF2 : 1 ≤ F := by omega
  have hsum : ∀ q, ct s f o js s sq t q false + ct s f o js s sq t q true ≤ 1152921504606846976 := fun q => by
    rw [ct_pl]
    have := pl_le (asked_good ha) (asked_on ha) t q
    omega
  have HSUM := Lib.hid hsum
  have HM := Lib.hid hm; have HF := Lib.hid hF
  clear ha hto hp hpl1 hth hm hF hsum
  have hst : ∀ (x y : Option Nat) (w : World), (storeCells ⟨w.heap.size, 0, none⟩ (wlkCells s f o (fun i => jumpOf js i) s (f ^ t) x y).toList 0).run Try.prog (w.alloc (.cells Try.zeroCells57 57)) = .ok () (w.alloc (.cells (wlkCells s f o (fun i => jumpOf js i) s (f ^ t) x y) 57)) := fun x y w => storeWalk _ _ _ _ _ _ _ _ w
  go_enter Try.func25, Try.ntmps25
  go_wp2_with fail
  refine (walkHome_yes _ _ _ _ _ _ _ _ _ _ (hj.go (below1 _ _)) HA.out hth'.2 (by omega)).mono ?_
  rintro e w1 ⟨bl, bb, rfl, l0, b0, hne, l1, b1, hL, hE, hx⟩
  have hs1 := hx.size
  simp only [World.size_alloc] at l0 b0 hs1
  have HNE := Lib.hid hne; clear hne
  have hW : WA (w1.alloc (.cells (wlkCells s f o (fun i => jumpOf js i) s (f ^ t) (some bl) (some bb)) 57)) w1.heap.size s f o (fun i => jumpOf js i) s (f ^ t) (some bl) (some bb) := heap_alloc_at _ _ _ rfl
  have hL1 := hL.alloc (.cells (wlkCells s f o (fun i => jumpOf js i) s (f ^ t) (some bl) (some bb)) 57)
  have hB1 : Below w.heap.size w w1 := (below1 _ _).trans (hx.mono (by simp))
  go_wp2_with (go_at_call 56; refine (holds_any _ _ _ _ _ _ _ hW.cv hz.1.2).mono ?_; rintro e w2 ⟨rfl, rfl⟩; rw [HTO.out])
  refine (places_any _ _ _ _ _ _ _ _ _ _ _ hW hL1 (fun q m => ct_nonneg _ _ _ _ _ _ _ _ _) HSUM.out).mono ?_
  rintro e w2 ⟨rfl, hx2⟩
  have hst2 := storeArr (fun i => ct s f o js s sq t i false + ct s f o js s sq t i true)
  have hs2 := hx2.size
  simp only [World.size_alloc] at hs2
  have hB2 : Below w.heap.size w w2 := (hB1.alloc (by omega) _).trans (hx2.mono (by simp; omega))
  have hall : w2.cell? ⟨w1.heap.size, 105, none⟩ = some (.int .i64 (F : Int)) := by rw [← HF.out]; exact (bcell hx2 (by simp)).trans hW.all
  have hAt : (w2.alloc (.cells (arrC (fun i => ct s f o js s sq t i false + ct s f o js s sq t i true)) 52)).cell? ⟨w2.heap.size, q0, none⟩ = some (.int .i64 (m : Int)) := by
    rw [← HM.out, ← ct_pl s f o js s]
    exact (cell_of_row _ _ _ _ _ _ (heap_alloc_at _ _ _ rfl)).trans (arr_at _ (by omega))
  have iq1 : (q0 : Int) < 101 := by omega
  clear hst hW hL1 hE hL
  have hB3 := (hB2.alloc (by omega) (.cells (arrC (fun i => ct s f o js s sq t i false + ct s f o js s sq t i true)) 52)).drew
  have hall3 := (Below.cell (below1 w2 (.cells (arrC (fun i => ct s f o js s sq t i false + ct s f o js s sq t i true)) 52)) (p := ⟨w1.heap.size, 105, none⟩) (cell_lt hall)).trans hall
  go_wp2
  go_region_held3 (fun w' => w'.cell? ⟨w2.heap.size, q0, none⟩ = some (.int .i64 (m : Int)) ∧ w'.cell? ⟨w1.heap.size, 105, none⟩ = some (.int .i64 (F : Int))) (go_keep)
    (first | (go_at_call 57; refine (lowest_any m F _ hm1 hF1 hF2).mono ?_; rintro e w5 ⟨rfl, hx5⟩; have k1 := keepcell hx5 hAt; have k2 := keepcell hx5 hall3))
  all_goals
    go_wp2
    exact bodyPost_ret (v := .tuple #[.int .i64 (lowA m F), .int .i64 (lowB m F), .bool true]) (by simp [results, Try.results25]) rfl
      ⟨rfl, hB3.trans (hx5.mono hB3.size)⟩

theorem partAt_both (s f o : Int) (js : List (Int × Int)) (sq to th : Int) : ∃ (x y : Int) (ok : Bool),
    (∀ (A : Option Addr) (c : Nat) (W : World), RJ W W.heap.size A js → Calls Try.prog 24 #[.agg #[.int .i64 s, .int .i64 f, .int .i64 o, .slice A js.length c], .int .i64 sq, .int .i64 to, .int .i64 th] W (PartIs W x y ok)) ∧
    (∀ (A : Option Addr) (c : Nat) (W : World), RJ W W.heap.size A js → Calls Try.prog 25 #[.agg #[.int .i64 s, .int .i64 f, .int .i64 o, .slice A js.length c], .int .i64 sq, .int .i64 to, .int .i64 th] W (PartIs W x y ok)) := by
  cases h : partOk s f o js sq to th
  · exact ⟨0, 0, false, fun A c W hj => specPartAt_no s f o A c sq to th js W hj h, fun A c W hj => implPartAt_no s f o A c sq to th js W hj h⟩
  · have h' := h
    simp only [partOk, Bool.and_eq_true] at h'
    obtain ⟨t, rfl⟩ := Int.eq_ofNat_of_zero_le (inB_iff.1 h'.2).1
    obtain ⟨q0, rfl⟩ := Int.eq_ofNat_of_zero_le (onSq_in h'.1.2).1
    obtain ⟨m, hm⟩ := Int.eq_ofNat_of_zero_le (pl_nonneg s f o js sq t q0)
    have hz := good_sizes (asked_good h'.1.1)
    have hF := natpow (show 0 ≤ f by omega) t
    exact ⟨lowA m (f.toNat ^ t), lowB m (f.toNat ^ t), true, fun A c W hj => specPartAt_yes s f o A c sq q0 t m _ js W hj h hm hF, fun A c W hj => implPartAt_yes s f o A c sq q0 t m _ js W hj h hm hF⟩
end Go.Proofs.Ytiekdokgjdgajab

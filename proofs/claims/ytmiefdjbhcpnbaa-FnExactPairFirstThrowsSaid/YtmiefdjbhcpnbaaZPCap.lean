/- Several texts, one behind the other: C5zzc Head R8. -/
import Derived.Test.YtmiefdjbhcpnbaaRows
import Derived.JoinedOf
import Derived.KernelRfl
import Derived.WalkKit
import Derived.ProofKit
import Derived.OpenShut
import Derived.Lib.SmallJoins
import Derived.Deep.Slices
import Derived.Deep.Fields
import Derived.ChangeSame
import Derived.Carry
import Derived.Test.YtmiefdjbhcpnbaaZPCao
import Derived.Test.YtmiefdjbhcpnbaaZPCad

namespace Go.Proofs.Ytmiefdjbhcpnbaa
open Go.RowKit

/-- A slice at A whose elements read as the lists L. -/
def RowsR (w : World) (A : Option Addr) (L : List (List Nat)) : Prop :=
  ∃ g, A = some ⟨g, 0, none⟩ ∧ ∀ i (_ : i < L.length), ∃ A' c', w.cell? ⟨g, i, none⟩ = some (.slice A' L[i].length c') ∧ RN w w.heap.size A' c' L[i]
theorem look_all (s f a b : Nat) : lookL s f a b (fewP s f a + fewP s f b) [] = allP s f a b := by
  unfold lookL allP
  simp only [List.nil_append]
  exact List.map_id _
set_option maxRecDepth 100000 in
set_option maxHeartbeats 1000000 in
theorem oiAll_any (s f a b : Nat) (w : World) (hs : s ≤ 6) (hf1 : 1 ≤ f) (hf : f ≤ 4) (ha : a ≤ s) (hb : b ≤ s) (L : List (List Nat)) (hL : L = allP s f a b) :
    Calls Try.prog 23 #[.int .i64 s, .int .i64 f, .int .i64 a, .int .i64 b] w fun e w' => ∃ A c, e = .returned (.slice A L.length c) ∧ RowsR w' A L ∧ Below w.heap.size w w' := by
  have hT : fewP s f a + fewP s f b ≤ 12 := few_le (by omega) (by omega)
  have hpw : f ^ (fewP s f a + fewP s f b) ≤ 16777216 := pow_small hf hT
  have hpos : 0 < L.length := by
    obtain ⟨l, r, h, _⟩ := first_all (s := s) (f := f) (a := a) (b := b) hs hf1 ha hb
    rw [hL, h]; simp
  have hw : IntKind.i64.wrap ((fewP s f a : Int) + (fewP s f b : Int)) = ((fewP s f a + fewP s f b : Nat) : Int) := by rw [IntWalk.i64_in _ (by omega)]; omega
  have hLK := look_all s f a b
  obtain ⟨x, hx⟩ : ∃ x, x = fewP s f a := ⟨_, rfl⟩
  obtain ⟨y, hy⟩ : ∃ y, y = fewP s f b := ⟨_, rfl⟩
  have h1 := fun w => oiFew_any s f a w hs ha hf1 hf
  have h2 := fun w => oiFew_any s f b w hs hb hf1 hf
  rw [← hx, ← hy] at hw hT hpw hLK
  rw [← hx] at h1
  rw [← hy] at h2
  obtain ⟨T, hTT⟩ : ∃ T, T = x + y := ⟨_, rfl⟩
  rw [← hTT] at hw hT hpw hLK
  have H1 := Lib.hid h1; have H2 := Lib.hid h2; have HLK := Lib.hid hLK; have HPW := Lib.hid hpw; have HL := Lib.hid hL
  clear hx hy h1 h2 hTT hLK hpw hL
  go_enter Try.func23, Try.ntmps23
  go_wp2_with fail
  refine (H1.out _).mono ?_
  rintro e w' ⟨rfl, rfl⟩
  go_wp2_with fail
  refine (H2.out _).mono ?_
  rintro e w' ⟨rfl, rfl⟩
  go_wp2_with fail
  have hO : OutR (w.alloc (.cells #[.slice none 0 0] 26)) w.heap.size (.slice none 0 0) [] := ⟨heap_alloc_at _ _ _ rfl, [], rfl, World.ownsRow_nil _ _ _ _, fun i hi => by simp at hi⟩
  refine (oiLook_any s f a b hs hf ha hb w.heap.size T [] [] none 0 0 _ _ rfl (by omega) (fun k h => by simp at h) hO ⟨Nat.le_refl _, by simp, .inl rfl⟩ (by have := HPW.out; simp; omega)).mono ?_
  rintro e w3 ⟨rfl, v3, hO3, hK3⟩
  rw [HLK.out, ← HL.out, List.nil_append] at hO3
  have hb3 : Below w.heap.size w w3 := (below1 w _).trans (hK3.below (Nat.le_refl _) (by simp) (fun k h => by cases h))
  have k3 := fun i => cell_of_row w3 w.heap.size i _ _ _ hO3.1
  obtain ⟨_, vs, hvs, hown, hvr⟩ := hO3
  obtain ⟨A3, c3, rfl⟩ := own_sliceK hown
  go_wp2
  go_ret
  refine ⟨A3, c3, rfl, ?_, hb3⟩
  rcases hown.2 with ⟨_, h0⟩ | ⟨g6, cap, cur, e6, hg6b, hh6, h3, _, h5, h6⟩
  · omega
  · injection e6 with e61 _ e62
    subst e61 e62
    refine ⟨g6, rfl, fun i hi => ?_⟩
    obtain ⟨A', c', e1, e2⟩ := hvr i hi
    refine ⟨A', c', ?_, e2.rn⟩
    have e7 : (cur.toList.take (L.length * 1))[i]? = vs[i]? := by rw [h6]
    rw [List.getElem?_take_of_lt (by omega), Array.getElem?_toList] at e7
    rw [cell_of_row w3 g6 _ _ _ _ hh6, e7, e1]
set_option maxRecDepth 100000 in
theorem specCountFew_no (s f a b : Int) (w : World) (hp : pairOk s f a b = false) :
    Calls Try.prog 7 #[.int .i64 s, .int .i64 f, .int .i64 a, .int .i64 b] w fun e w' => e = .returned (.tuple #[.int .i64 0, .bool false]) ∧ Below w.heap.size w w' := by
  have HP := Lib.hid hp; clear hp
  go_enter Try.func7, Try.ntmps7
  go_wp2_with (go_at_call 22; refine (oiGood_any _ _ _ _ _).mono ?_; rintro e w' ⟨rfl, rfl⟩; rw [HP.out])
  go_ret2
  exact ⟨rfl, Below.refl _ _⟩
set_option maxRecDepth 100000 in
theorem specCountFew_yes (s f a b : Nat) (w : World) (hp : pairOk s f a b = true) (L : List (List Nat)) (hL : L = allP s f a b) :
    Calls Try.prog 7 #[.int .i64 s, .int .i64 f, .int .i64 a, .int .i64 b] w fun e w' => e = .returned (.tuple #[.int .i64 (L.length : Nat), .bool true]) ∧ Below w.heap.size w w' := by
  have hh := pairOk_iff.1 hp
  have HC := Lib.hid (oiAll_any s f a b w (by omega) (by omega) (by omega) (by omega) (by omega) L hL)
  have HP := Lib.hid hp; clear hp hL
  go_enter Try.func7, Try.ntmps7
  go_wp2_with fail
  refine (oiGood_any _ _ _ _ _).mono ?_
  rintro e w' ⟨rfl, rfl⟩
  rw [HP.out]
  go_wp2_with fail
  refine HC.out.mono ?_
  rintro e w2 ⟨A, c, rfl, _, hx⟩
  go_wp2_with fail
  go_ret2
  exact ⟨rfl, hx⟩
set_option maxRecDepth 100000 in
theorem implCountFew_no (s f a b : Int) (w : World) (hp : pairOk s f a b = false) :
    Calls Try.prog 8 #[.int .i64 s, .int .i64 f, .int .i64 a, .int .i64 b] w fun e w' => e = .returned (.tuple #[.int .i64 0, .bool false]) ∧ Below w.heap.size w w' := by
  have hst := storeCourse 0 0 0 (fun _ => 0)
  have HP := Lib.hid hp; clear hp
  go_enter Try.func8, Try.ntmps8
  go_wp2_with fail
  refine (courseOfPair_no _ _ _ _ _ HP.out).mono ?_
  rintro e w2 ⟨rfl, hx⟩
  go_wp2
  go_ret2
  exact ⟨rfl, hx.alloc hx.size _⟩
set_option maxRecDepth 100000 in
theorem implCountFew_yes (s f a b : Nat) (w : World) (hp : pairOk s f a b = true) (L : List (List Nat)) (hL : L = allP s f a b) :
    Calls Try.prog 8 #[.int .i64 s, .int .i64 f, .int .i64 a, .int .i64 b] w fun e w' => e = .returned (.tuple #[.int .i64 (L.length : Nat), .bool true]) ∧ Below w.heap.size w w' := by
  have hst := storeCourse s f 0 (fun i => jumpOf [] i)
  have hh := pairOk_iff.1 hp
  have hT : fewP s f a + fewP s f b ≤ 12 := few_le (by omega) (by omega)
  have hd := done_all (s := s) (f := f) (a := a) (b := b) (by omega) (by omega) (by omega)
  rw [hL, ← hd]
  have HP := Lib.hid hp; clear hp hL hd
  go_enter Try.func8, Try.ntmps8
  go_wp2_with fail
  refine (courseOfPair_yes _ _ _ _ _ HP.out).mono ?_
  rintro e w2 ⟨rfl, hx⟩
  have hCn : CA (w2.alloc (.cells (crsCells s f 0 (fun i => jumpOf [] i)) 42)) w2.heap.size s f 0 (fun i => jumpOf [] i) := heap_alloc_at _ _ _ rfl
  have hB2 := hx.alloc hx.size (.cells (crsCells s f 0 (fun i => jumpOf [] i)) 42)
  go_wp2_with fail
  refine (setOf_any a b _ (by omega) (by omega)).mono ?_
  rintro e w3 ⟨rfl, hx3⟩
  have hC3 := hCn.cv.below hx3 (by simp)
  have hB3 := hB2.trans (hx3.mono hB2.size)
  go_wp2_with fail
  refine (fewestLists_any _ s f (fewP s f a + fewP s f b) 0 _ _ _ hC3 (oneS_in (by omega) (by omega)) (by omega) (by omega) hT (done_few (by omega) (by omega) (by omega) (by omega)) (fun t ht => done_less (by omega) (by omega) (by omega) (by omega) ht)).mono ?_
  rintro e w4 ⟨rfl, hx4⟩
  go_wp2
  go_ret2
  exact ⟨rfl, hB3.trans (hx4.mono hB3.size)⟩
theorem pairCountFewest_both (s f a b : Int) : ∃ (x : Int) (ok : Bool),
    (∀ W : World, Calls Try.prog 7 #[.int .i64 s, .int .i64 f, .int .i64 a, .int .i64 b] W fun e w' => e = .returned (.tuple #[.int .i64 x, .bool ok]) ∧ Below W.heap.size W w') ∧
    (∀ W : World, Calls Try.prog 8 #[.int .i64 s, .int .i64 f, .int .i64 a, .int .i64 b] W fun e w' => e = .returned (.tuple #[.int .i64 x, .bool ok]) ∧ Below W.heap.size W w') := by
  cases hp : pairOk s f a b
  · exact ⟨0, false, fun W => specCountFew_no s f a b W hp, fun W => implCountFew_no s f a b W hp⟩
  · obtain ⟨s, f, a, b, rfl, rfl, rfl, rfl⟩ := pair_nat hp
    exact ⟨_, true, fun W => specCountFew_yes s f a b W hp _ rfl, fun W => implCountFew_yes s f a b W hp _ rfl⟩
end Go.Proofs.Ytmiefdjbhcpnbaa

namespace Go.Proofs.Ytmiefdjbhcpnbaa
def headSigns : List Char := (
  [104, 97, 114, 110, 101, 115, 115, 32, 100, 53, 98, 101, 50, 53, 55, 100, 49, 56, 51, 56, 102, 100, 100, 55, 102, 100, 54, 54, 52, 54, 51, 49, 100,
  56, 49, 52, 57, 99, 54, 100, 55, 48, 55, 51, 50, 57, 97, 55, 57, 49, 57, 52, 49, 97, 100, 101, 101, 98, 53, 57, 102, 56, 97, 57, 52, 53, 48, 55,
  101, 49, 50, 53, 32, 99, 117, 116, 32, 97, 116, 32, 108, 111, 111, 112, 46, 101, 120, 97, 109, 112, 108, 101, 47, 103, 48, 49, 51, 48, 54, 47, 108,
  97, 119, 115, 46, 70, 110, 69, 120, 97, 99, 116, 80, 97, 105, 114, 67, 111, 117, 110, 116, 70, 101, 119, 101, 115, 116, 32, 108, 111, 111, 112, 46,
  101, 120, 97, 109, 112, 108, 101, 47, 103, 48, 49, 51, 48, 54, 47, 108, 97, 119, 115, 46, 70, 110, 69, 120, 97, 99, 116, 80, 108, 97, 121, 80, 97,
  105, 114, 32, 108, 111, 111, 112, 46, 101, 120, 97, 109, 112, 108, 101, 47, 103, 48, 49, 51, 48, 54, 47, 108, 97, 119, 115, 46, 70, 110, 69, 120,
  97, 99, 116, 80, 97, 105, 114, 84, 104, 114, 111, 119, 115, 85, 115, 101, 100, 32, 108, 111, 111, 112, 46, 101, 120, 97, 109, 112, 108, 101, 47,
  103, 48, 49, 51, 48, 54, 47, 108, 97, 119, 115, 46, 70, 110, 69, 120, 97, 99, 116, 80, 97, 105, 114, 70, 105, 114, 115, 116, 84, 104, 114, 111, 119,
  115] : List Nat).map Char.ofNat
def headRest : List (List Char) := (
  [[97, 116], [108, 111, 111, 112, 46, 101, 120, 97, 109, 112, 108, 101, 47, 103, 48, 49, 51, 48, 54, 47, 108, 97, 119, 115, 46, 70, 110, 69, 120, 97,
  99, 116, 80, 97, 105, 114, 67, 111, 117, 110, 116, 70, 101, 119, 101, 115, 116], [108, 111, 111, 112, 46, 101, 120, 97, 109, 112, 108, 101, 47, 103,
  48, 49, 51, 48, 54, 47, 108, 97, 119, 115, 46, 70, 110, 69, 120, 97, 99, 116, 80, 108, 97, 121, 80, 97, 105, 114], [108, 111, 111, 112, 46, 101,
  120, 97, 109, 112, 108, 101, 47, 103, 48, 49, 51, 48, 54, 47, 108, 97, 119, 115, 46, 70, 110, 69, 120, 97, 99, 116, 80, 97, 105, 114, 84, 104, 114,
  111, 119, 115, 85, 115, 101, 100], [108, 111, 111, 112, 46, 101, 120, 97, 109, 112, 108, 101, 47, 103, 48, 49, 51, 48, 54, 47, 108, 97, 119, 115,
  46, 70, 110, 69, 120, 97, 99, 116, 80, 97, 105, 114, 70, 105, 114, 115, 116, 84, 104, 114, 111, 119, 115]] : List (List Nat)).map (·.map Char.ofNat)
theorem strip_cut (r : List (List Char)) : stripLifts liftWords ("cut".toList :: r) = ([], "cut".toList :: r) := by kernel_rfl
theorem make_of {P : Program} {r : List (List Char)} (h : behindMainWord (wordsSigns P.initOrder.toList) = "cut".toList :: r) : P.make = some .cut := by
  unfold Program.make
  rw [h]
  kernel_rfl
theorem lifts_of {P : Program} {r : List (List Char)} (h : behindMainWord (wordsSigns P.initOrder.toList) = "cut".toList :: r) : P.liftsFinal = false := by
  unfold Program.liftsFinal Program.headLifts
  rw [h]
  kernel_rfl
theorem enter_of {P : Program} {r : List (List Char)} (h : behindMainWord (wordsSigns P.initOrder.toList) = "cut".toList :: r) (h1 : P.laysLater = false) (h2 : P.bearsReflect = false) (h3 : P.doorFits [] = true) : P.mayEnter = true := by
  unfold Program.mayEnter
  rw [h]
  simp only [strip_cut, h1, h2, h3]
  kernel_rfl
theorem head_init : Try.prog.initOrder = String.ofList headSigns := by kernel_rfl
theorem head_list : Try.prog.initOrder.toList = headSigns := by rw [head_init, String.toList_ofList]
theorem head_words : behindMainWord (wordsSigns headSigns) = "cut".toList :: headRest := by kernel_rfl
theorem head_cut : behindMainWord (wordsSigns Try.prog.initOrder.toList) = "cut".toList :: headRest := by rw [head_list]; exact head_words
theorem head_make : Try.prog.make = some .cut := make_of head_cut
theorem head_lifts : Try.prog.liftsFinal = false := lifts_of head_cut
theorem head_lays : Try.prog.laysLater = false := by kernel_rfl
theorem head_refl : Try.prog.bearsReflect = false := by kernel_rfl
theorem head_door : Try.prog.doorFits [] = true := by kernel_rfl
theorem head_enter : Try.prog.mayEnter = true := enter_of head_cut head_lays head_refl head_door
theorem head_laid : laidOutB Try.prog = true := by kernel_rfl
theorem head_maps : mapsRowed Try.prog = true := by kernel_rfl
theorem head_own : ownKnob Try.prog.godebug = none := by kernel_rfl
end Go.Proofs.Ytmiefdjbhcpnbaa

namespace Go.Proofs.Ytmiefdjbhcpnbaa
open Go.ChangeShapes Go.WideShapes Go.ChangeAt Go.RowKit Go.Deep Go.Joins


section
variable {H : Type} {enc : TypeId × Value → H} {P : Program}
/-- All arguments read behind the call as before it. -/
theorem stays_all (hl : laidOutB P = true) {W W' : World} (hb : Below W.heap.size W W') : ∀ {ts : List TypeId} {vs : List Value} {ds : List (DataW H)} {ps : List MemPlace},
    ts.all (fun t => P.readableRec t && decide (t < P.types.size)) = true → DataW.TrodAll enc P W 0 (fun _ => true) true ts vs ds ps → (∀ x ∈ ps, x.block < W.heap.size) →
    DataW.TrodAll enc P W' 0 (fun b => decide (b < W.heap.size)) true ts vs ds ps
  | [], vs, ds, ps, _, h, _ => by
    obtain ⟨rfl, rfl, rfl⟩ := trodAll_nil h
    exact trodAll_mk0
  | t :: ts, vs, ds, ps, hr, h, hlt => by
    obtain ⟨v, vs', d, ds', p, q, rfl, rfl, rfl, h1, h2⟩ := trodAll_cons h
    simp only [List.all_cons, Bool.and_eq_true, decide_eq_true_eq] at hr
    exact trodAll_cons_mk (Below.trod hl hr.1.1 hr.1.2 h1 hb fun x hx => hlt x (by simp [hx])) (stays_all hl hb (by simpa using hr.2) h2 fun x hx => hlt x (by simp [hx]))

/-- What a law's post asks, once its call returned true and wrote no old memory. -/
theorem law_post {f : Func} {s : ChangeSpec} {W W' : World} {args : Array Value} {ds : List (DataW H)} {before : List MemPlace} {T : TypeId}
    (hl : laidOutB P = true) (hW : DataW.Whole enc P f.params.toList s.vars false W args.toList ds [] before) (hA : DataW.TrodAll enc P W 0 (fun _ => true) true f.params.toList args.toList ds before)
    (hv : s.vars = []) (hp : f.params.toList.all (fun t => P.readableRec t && decide (t < P.types.size)) = true) (hr : f.resultTypes = #[T]) (hT : P.underlying T = some .bool)
    (e1 : (s.fn H (ds ++ [])).results = [.lit (.bool true)]) (e2 : (s.fn H (ds ++ [])).args = ds) (e3 : (s.fn H (ds ++ [])).vars = []) (hb : Below W.heap.size W W') :
    s.post enc P f false true false false W args (.bool true) W' := by
  refine ⟨ds, [], before, [], before, [], hW, ?_, ?_, ?_, hb.frame _, fun h => by cases h⟩
  · rw [e1, hr]
    exact trodAll_mk1 (shut_bool hT true)
  · rw [e2]
    exact stays_all hl hb hp hA (fun x hx => by simpa using hW.lt x hx)
  · rw [e3, hv]
    rfl
end
end Go.Proofs.Ytmiefdjbhcpnbaa

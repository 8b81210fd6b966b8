/-
  Tracks: the program's IsTrack; hasPlayer, hasFace, hasPawn, hasMove, squareOf. Tracks: the program's hasPawn, alike. Tracks: the program's pawnsOn. Tracks: slices.IndexFunc and slices.DeleteFunc at tokens with the closure of sentBy; sentBy. Tracks: slices.DeleteFunc at tokens with the closure of sentBy; sentBy. Tracks: sentBy: the tokens of others on a square that is not safe. Tracks: the program's stepsBehind; stands are compared. Tracks: the program's behind. Tracks: hasMove, trCan. Tracks: slices.Clone of a row of numbers; the program's stateOf.
-/
import Derived.Test.YtmhffdgfkgdmlaaC7c
import Derived.Test.YtmhffdgfkgdmlaaM60
import Derived.Test.YtmhffdgfkgdmlaaWRingP
import Derived.Test.YtmhffdgfkgdmlaaWB
import Derived.BigRegion
import Derived.ChangeKeysEq
import Derived.Deep.RegionHeld3
import Derived.Test.YtmhffdgfkgdmlaaC7o
import Derived.Test.YtmhffdgfkgdmlaaC7y
import Derived.Test.YtmhffdgfkgdmlaaWGridN
import Derived.Lib.SliceRun
namespace Go.Proofs.Ytmhffdgfkgdmlaa
open Go.RowKit

theorem ringOf_yesV (q f k : Int) (A1 A2 : Option Addr) (c1 c2 : Nat) (st sf : List Int) (w : World) (h1 : RI w w.heap.size A1 st) (h2 : RI w w.heap.size A2 sf) (hc : st.length ≤ c1) (hz : trkOk q f k st sf = true) :
    Calls Try.prog 84 #[.agg #[.int .i64 q, .int .i64 f, .int .i64 k, .slice A1 st.length c1, .slice A2 sf.length c2]] w fun e w' => e = .returned (.tuple #[.agg (ringC q f k A1 st.length c1 (safeB sf)), .bool true]) ∧ Below w.heap.size w w' :=
  ringOf_any q f k A1 A2 c1 c2 st sf w h1 h2 hc _ _ hz rfl
theorem ringOf_noV (q f k : Int) (A1 A2 : Option Addr) (c1 c2 : Nat) (st sf : List Int) (w : World) (h1 : RI w w.heap.size A1 st) (h2 : RI w w.heap.size A2 sf) (hc : st.length ≤ c1) (hz : trkOk q f k st sf = false) :
    Calls Try.prog 84 #[.agg #[.int .i64 q, .int .i64 f, .int .i64 k, .slice A1 st.length c1, .slice A2 sf.length c2]] w fun e w' => e = .returned (.tuple #[.agg (ringC 0 0 0 none 0 0 (fun _ => false)), .bool false]) ∧ Below w.heap.size w w' :=
  ringOf_any q f k A1 A2 c1 c2 st sf w h1 h2 hc _ _ hz rfl
/-- What ringOf hands back, told by variables. -/
theorem ring_toldV (q f k : Int) (A1 : Option Addr) (c1 : Nat) (st sf : List Int) : ∃ (V : Array Value) (r : Bool), trkOk q f k st sf = r ∧ V = (if r = true then ringC q f k A1 st.length c1 (safeB sf) else ringC 0 0 0 none 0 0 (fun _ => false)) ∧ V.size = 64 ∧ ∀ u ∈ V.toList, u.oneCell' = true := by
  refine ⟨_, _, rfl, rfl, ?_, ?_⟩
  · cases trkOk q f k st sf <;> simp [ring_size]
  · cases trkOk q f k st sf
    · exact ring_one
    · exact ring_one


section
variable (g : Nat) (q f k : Int) (A : Option Addr) (n c : Nat) (S : Nat → Bool) (w : World) (hR : RP w g 75 q f k A n c S)
include hR

theorem hasPlayer_anyV (x : Int) (hn : n ≤ 1048576) : Calls Try.prog 127 #[.pointer (some ⟨g, 0, none⟩), .int .i64 x] w fun e w' => e = .returned (.bool (inB x 0 ((n : Int) - 1))) ∧ w = w' := by
  have c3 := hR.c3
  have i4 : IntKind.i64.wrap ((n : Int) - 1) = (n : Int) - 1 := IntWalk.i64_in _ (by omega)
  go_enter Try.func127, Try.ntmps127
  go_wp2_with (go_at_call 123; refine (isWithin_any _ _ _ _).mono ?_; rintro e w' ⟨rfl, rfl⟩)
  go_ret
  exact ⟨rfl, rfl⟩

theorem hasFace_anyV (x : Int) : Calls Try.prog 139 #[.pointer (some ⟨g, 0, none⟩), .int .i64 x] w fun e w' => e = .returned (.bool (inB x 1 f)) ∧ w = w' := by
  have c1 := hR.c1
  go_enter Try.func139, Try.ntmps139
  go_wp2_with (go_at_call 123; refine (isWithin_any _ _ _ _).mono ?_; rintro e w' ⟨rfl, rfl⟩)
  go_ret
  exact ⟨rfl, rfl⟩

theorem squareOf_noV (p : Nat) (x : Int) (h4 : 4 ≤ q) (h6 : q ≤ 60) (hx : inB x 0 (q - 1) = false) : Calls Try.prog 130 #[.pointer (some ⟨g, 0, none⟩), .int .i64 p, .int .i64 x] w fun e w' => e = .returned (.tuple #[.int .i64 0, .bool false]) ∧ w = w' := by
  have c0 := hR.c0
  have i4 : IntKind.i64.wrap (q - 1) = q - 1 := IntWalk.i64_in _ (by omega)
  have HX := Lib.hid hx
  clear hx
  go_enter Try.func130, Try.ntmps130
  go_wp2_with (go_at_call 123; refine (isWithin_any _ _ _ _).mono ?_; rintro e w' ⟨rfl, rfl⟩; rw [HX.out])
  go_ret2
  exact ⟨rfl, rfl⟩

theorem squareOf_qV (st : List Int) (p : Nat) (x : Int) (hn : n = st.length) (hj : RI w w.heap.size A st) (h4 : 4 ≤ q) (h6 : q ≤ 60) (hp : p < st.length) (h0 : 0 ≤ st[p] ∧ st[p] < q) (hx : inB x 0 (q - 1) = true) : Calls Try.prog 130 #[.pointer (some ⟨g, 0, none⟩), .int .i64 p, .int .i64 x] w fun e w' => e = .returned (.tuple #[.int .i64 (sqr q st p x), .bool true]) ∧ ∃ m, w' = w.drewN m := by
  subst hn
  have hl := hj.1
  have c0 := hR.c0
  have c3 := hR.c3
  have hgz := hR.lt
  have hxb := inB_iff.1 hx
  obtain ⟨b, off, rfl, hB, h3⟩ := hj.at_ (Below.refl _ _) hp
  rw [sqr_in hx, show st.getD p 0 = st[p] by simp [List.getD_eq_getElem?_getD, List.getElem?_eq_getElem hp]]
  obtain ⟨y, hy⟩ : ∃ y, y = st[p] := ⟨_, rfl⟩
  rw [← hy] at h3 h0 ⊢
  clear hy
  have i4 : IntKind.i64.wrap (q - 1) = q - 1 := IntWalk.i64_in _ (by omega)
  have i5 : IntKind.i64.wrap (y + x) = y + x := IntWalk.i64_in _ (by omega)
  have i6 : (y + x).tmod q = (y + x) % q := Int.tmod_eq_emod_of_nonneg (by omega)
  have i8 : 0 ≤ (y + x) % q ∧ (y + x) % q < q := ⟨Int.emod_nonneg _ (by omega), Int.emod_lt_of_pos _ (by omega)⟩
  obtain ⟨m, hm⟩ : ∃ m, m = (y + x) % q := ⟨_, rfl⟩
  rw [← hm] at i6 i8 ⊢
  clear hm
  have i7 : IntKind.i64.wrap m = m := IntWalk.i64_in _ (by omega)
  have i9 : ¬ q = 0 := by omega
  have j0 : (0 : Int) ≤ (p : Int) := by omega
  have j1 : (p : Int) < (st.length : Int) := by omega
  have j2 : ((p : Int)).toNat = p := by omega
  have HX := Lib.hid hx
  clear hx
  go_enter Try.func130, Try.ntmps130
  go_wp2_with (go_at_call 123; refine (isWithin_any _ _ _ _).mono ?_; rintro e w' ⟨rfl, rfl⟩; rw [HX.out])
  go_quiet (fail)
  go_wp2
  go_ret2
  exact ⟨rfl, _, rfl⟩
theorem squareOf_yesV (st : List Int) (p : Nat) (x : Int) (hn : n = st.length) (hj : RI w w.heap.size A st) (h4 : 4 ≤ q) (h6 : q ≤ 60) (hp : p < st.length) (h0 : 0 ≤ st[p] ∧ st[p] < q) (hx : inB x 0 (q - 1) = true) : Calls Try.prog 130 #[.pointer (some ⟨g, 0, none⟩), .int .i64 p, .int .i64 x] w fun e w' => e = .returned (.tuple #[.int .i64 (sqr q st p x), .bool true]) ∧ Below w.heap.size w w' :=
  (squareOf_qV g q f k A n c S w hR st p x hn hj h4 h6 hp h0 hx).mono fun _ _ ⟨he, m, hm⟩ => ⟨he, by rw [hm]; exact drewB (Below.refl _ _) _⟩
end
end Go.Proofs.Ytmhffdgfkgdmlaa

namespace Go.Proofs.Ytmhffdgfkgdmlaa
open Go.RowKit

section
variable (g : Nat) (q f k : Int) (A : Option Addr) (n c : Nat) (S : Nat → Bool) (w : World) (hR : RP w g 75 q f k A n c S)
include hR

set_option maxHeartbeats 400000 in
theorem hasPawn_anyV (p t : Int) (hn : n ≤ 1048576) (hk : 0 ≤ k) (hk4 : k ≤ 4) : Calls Try.prog 108 #[.pointer (some ⟨g, 0, none⟩), .agg #[.int .i64 p, .int .i64 t]] w fun e w' => e = .returned (.bool (inB p 0 ((n : Int) - 1) && inB t 0 (k - 1))) ∧ Below w.heap.size w w' := by
  have hgw := hR.lt
  have c2 := hR.c2
  have R1 := hR.alloc (.cells #[.int .i64 p, .int .i64 t] 163)
  have i4 : IntKind.i64.wrap (k - 1) = k - 1 := IntWalk.i64_in _ (by omega)
  cases hp : inB p 0 ((n : Int) - 1)
  · have HP := Lib.hid hp
    have hc1 : ∀ m, Calls Try.prog 127 #[.pointer (some ⟨g, 0, none⟩), .int .i64 p] ((w.alloc (.cells #[.int .i64 p, .int .i64 t] 163)).drewN m) fun e w' => e = .returned (.bool false) ∧ w' = (w.alloc (.cells #[.int .i64 p, .int .i64 t] 163)).drewN m := fun m => (hasPlayer_anyV _ _ _ _ _ _ _ _ _ (R1.drewN m) p hn).mono fun _ _ h => ⟨by rw [← hp]; exact h.1, h.2.symm⟩
    clear hp
    go_enter Try.func108, Try.ntmps108
    go_wp2_with fail
    go_quiet (first | (go_at_call 127; with_reducible refine Calls.quiet_of_same (hc1 _)))
    go_wp2
    go_ret
    exact ⟨rfl, drewB (below1 _ _) _⟩
  · have HP := Lib.hid hp
    have hc1 : ∀ m, Calls Try.prog 127 #[.pointer (some ⟨g, 0, none⟩), .int .i64 p] ((w.alloc (.cells #[.int .i64 p, .int .i64 t] 163)).drewN m) fun e w' => e = .returned (.bool true) ∧ w' = (w.alloc (.cells #[.int .i64 p, .int .i64 t] 163)).drewN m := fun m => (hasPlayer_anyV _ _ _ _ _ _ _ _ _ (R1.drewN m) p hn).mono fun _ _ h => ⟨by rw [← hp]; exact h.1, h.2.symm⟩
    obtain ⟨r, hr⟩ : ∃ r, r = inB t 0 (k - 1) := ⟨_, rfl⟩
    have hc2 : ∀ m, Calls Try.prog 123 #[.int .i64 t, .int .i64 0, .int .i64 (k - 1)] ((w.alloc (.cells #[.int .i64 p, .int .i64 t] 163)).drewN m) fun e w' => e = .returned (.bool r) ∧ w' = (w.alloc (.cells #[.int .i64 p, .int .i64 t] 163)).drewN m := fun m => (isWithin_any _ _ _ _).mono fun _ _ h => ⟨by rw [hr]; exact h.1, h.2.symm⟩
    rw [← hr, Bool.true_and]
    clear hp hr
    go_enter Try.func108, Try.ntmps108
    go_wp2_with fail
    go_quiet (first | (go_at_call 127; with_reducible refine Calls.quiet_of_same (hc1 _)) | (go_at_call 123; with_reducible refine Calls.quiet_of_same (hc2 _)))
    go_wp2
    go_ret
    exact ⟨rfl, drewB (below1 _ _) _⟩
end

set_option maxRecDepth 100000 in
theorem zeroStandV : (#[.int .i64 0, .int .i64 0, .int .i64 0, .int .i64 0, .int .i64 0, .int .i64 0, .int .i64 0, .int .i64 0, .int .i64 0, .int .i64 0, .int .i64 0, .int .i64 0, .int .i64 0, .int .i64 0, .int .i64 0, .int .i64 0] : Array Value) = standC (fun _ _ => 0) := by kernel_rfl
theorem sizeStandV : (Try.prog.info? 78).map (·.size) = some 16 := by kernel_rfl

/-- All tokens that there are have v steps, the others q. -/
def alikeFV (n : Nat) (k q v : Int) (p t : Nat) : Int := if p < n ∧ (t : Int) < k then v else q
/-- What is written ahead of (p, t). -/
def aheadFV (G : Nat → Nat → Int) (p t : Nat) (a b : Nat) : Int := if a < p ∨ (a = p ∧ b < t) then G a b else 0

set_option maxRecDepth 100000 in
set_option maxHeartbeats 1000000 in
theorem alike_anyV (g : Nat) (q f k : Int) (A : Option Addr) (n c : Nat) (S : Nat → Bool) (w : World) (hR : RP w g 75 q f k A n c S) (v : Int) (hn : n ≤ 1048576) (hk : 0 ≤ k) (hk4 : k ≤ 4) :
    Calls Try.prog 85 #[.pointer (some ⟨g, 0, none⟩), .int .i64 v] w fun e w' => e = .returned (.agg (standC (alikeFV n k q v))) ∧ Below w.heap.size w w' := by
  have hgw := hR.lt
  have hz := zeroStandV
  obtain ⟨G, hG⟩ : ∃ G, G = alikeFV n k q v := ⟨_, rfl⟩
  rw [← hG]
  have hGy : ∀ p t : Nat, (inB (p : Int) 0 ((n : Int) - 1) && inB (t : Int) 0 (k - 1)) = true → G p t = v := fun p t h => by
    rw [Bool.and_eq_true, inB_iff, inB_iff] at h
    rw [hG, alikeFV, if_pos ⟨by omega, by omega⟩]
  have hGn : ∀ p t : Nat, (inB (p : Int) 0 ((n : Int) - 1) && inB (t : Int) 0 (k - 1)) = false → G p t = q := fun p t h => by
    rw [Bool.and_eq_false_iff, inB_false, inB_false] at h
    rw [hG, alikeFV, if_neg (by omega)]
  have HGy := Lib.hid hGy; have HGn := Lib.hid hGn
  clear hG hGy hGn
  go_enter Try.func85, Try.ntmps85
  go_wp2_with fail
  have D0 : DA ((w.alloc (.cells (standC (fun _ _ => 0)) 78)).alloc (.cells (standC (fun _ _ => 0)) 78)) w.heap.size 78 (fun _ _ => 0) := (Below.heap_alloc _ _ _ (by simp)).trans (heap_alloc_at w _ _ rfl)
  have D1 : DA ((w.alloc (.cells (standC (fun _ _ => 0)) 78)).alloc (.cells (standC (fun _ _ => 0)) 78)) (w.heap.size + 1) 78 (aheadFV G 0 0) := DA.congr (F := fun _ _ => 0) (heap_alloc_at _ _ _ (by simp)) (fun x _ y _ => by simp [aheadFV])
  have hb0 := below2 w (.cells (standC (fun _ _ => 0)) 78) (.cells (standC (fun _ _ => 0)) 78)
  go_loopw [8] (fun i wr => ∃ p : Nat, p ≤ 4 ∧ i = .int .i64 p ∧ Below w.heap.size w wr ∧ DA wr w.heap.size 78 (fun _ _ => 0) ∧ DA wr (w.heap.size + 1) 78 (aheadFV G p 0)) (fun i _ => 4 - (intOf i).toNat)
  case atStart => exact ⟨0, by omega, rfl, hb0, D0, D1⟩
  case round =>
    clear hb0 D0 D1
    obtain ⟨p, hp, rfl, hb, D0, D1⟩ := hrel
    by_cases hlt : p < 4
    · have q1 : (p : Int) < 4 := by omega
      go_wp2_with fail
      go_loopw [11] (fun i wr => ∃ t : Nat, t ≤ 4 ∧ i = .int .i64 t ∧ Below w.heap.size w wr ∧ DA wr w.heap.size 78 (fun _ _ => 0) ∧ DA wr (w.heap.size + 1) 78 (aheadFV G p t)) (fun i _ => 4 - (intOf i).toNat)
      case atStart => exact ⟨0, by omega, rfl, hb, D0, D1⟩
      case round =>
        clear hb D0 D1
        obtain ⟨t, ht, rfl, hb, D0, D1⟩ := hrel
        by_cases htl : t < 4
        · have q2 : (t : Int) < 4 := by omega
          have R1 := hR.below hb hgw
          have c0 := R1.c0
          have d1 := D1.at_ hlt htl
          have d2 := D1.free (p * 4 + t)
          have hl1 := D1.lt
          have hgs : g < wr.heap.size := by omega
          have hgn : g ≠ w.heap.size + 1 := by omega
          go_wp2_with fail
          go_region
          have D1' := (D1.set hlt htl q).drew
          have D0' := (D0.far (p := ⟨w.heap.size + 1, p * 4 + t, none⟩) (by dsimp only; omega) (.int .i64 q)).drew
          have R1' := (R1.far (p := ⟨w.heap.size + 1, p * 4 + t, none⟩) hgn (.int .i64 q)).drew
          have hb' : Below w.heap.size w (wr.setCell ⟨w.heap.size + 1, p * 4 + t, none⟩ (.int .i64 q)).drew := (hb.setCell (by dsimp only; omega) _).drew
          generalize (wr.setCell ⟨w.heap.size + 1, p * 4 + t, none⟩ (.int .i64 q)).drew = w3 at *
          clear hb D0 D1 R1 c0 d1 d2
          go_wp2_with fail
          refine (hasPawn_anyV _ _ _ _ _ _ _ _ _ R1' (p : Int) (t : Int) hn hk hk4).mono ?_
          rintro e w4 ⟨rfl, hx⟩
          have hb := hb'.trans (hx.mono hb'.size)
          have D0 := D0'.go hx
          have D1 := D1'.go hx
          clear hb' D0' D1' R1'
          cases hon : (inB (p : Int) 0 ((n : Int) - 1) && inB (t : Int) 0 (k - 1))
          · have hv := HGn.out p t hon
            have HV := Lib.hid hv
            clear hv hon
            go_wp2_with fail
            go_roundw
            case rel => exact ⟨t + 1, by omega, by go_num, hb, D0, D1.congr (fun a _ b _ => by
              simp only [updP, aheadFV]
              by_cases e : a = p ∧ b = t
              · rw [if_pos e, if_pos (by omega), e.1, e.2, HV.out]
              · rw [if_neg e]
                by_cases e2 : a < p ∨ (a = p ∧ b < t)
                · rw [if_pos e2, if_pos (by omega)]
                · rw [if_neg e2, if_neg (by omega)])⟩
            case measure => simp [intOf]; omega
          · have hv := HGy.out p t hon
            have HV := Lib.hid hv
            clear hv hon
            have d1 := D1.at_ hlt htl
            have d2 := D1.free (p * 4 + t)
            go_wp2_with fail
            go_roundw
            case rel => exact ⟨t + 1, by omega, by go_num, hb.setCell (by dsimp only; omega) _, D0.far (by dsimp only; omega) _, (D1.set hlt htl v).congr (fun a _ b _ => by
              simp only [updP, aheadFV]
              by_cases e : a = p ∧ b = t
              · rw [if_pos e, if_pos (by omega), e.1, e.2, HV.out]
              · rw [if_neg e, if_neg e]
                by_cases e2 : a < p ∨ (a = p ∧ b < t)
                · rw [if_pos e2, if_pos (by omega)]
                · rw [if_neg e2, if_neg (by omega)])⟩
            case measure => simp [intOf]; omega
        · have q2 : ¬ (t : Int) < 4 := by omega
          obtain rfl : t = 4 := by omega
          go_wp2_with fail
          go_roundw
          case rel => exact ⟨p + 1, by omega, by go_num, hb, D0, D1.congr (fun a _ b hb4 => by
            simp only [aheadFV]
            by_cases e2 : a < p ∨ (a = p ∧ b < 4)
            · rw [if_pos e2, if_pos (by omega)]
            · rw [if_neg e2, if_neg (by omega)])⟩
          case measure => simp [intOf]; omega
    · have q1 : ¬ (p : Int) < 4 := by omega
      obtain rfl : p = 4 := by omega
      have D2 : DA wr (w.heap.size + 1) 78 G := D1.congr (fun a ha b _ => by simp only [aheadFV]; rw [if_pos (by omega)])
      clear D1
      go_wp2_with (first | (refine wpList_load_row rfl 78 (.tmp 5) rfl (w.heap.size + 1) rfl _ _ _ _ D2 Try.underlying78 rfl ?_ ?_; (rw [stand_size]; exact sizeStandV)) | (refine wpList_store_row rfl 78 (.tmp 4) _ rfl w.heap.size rfl _ _ _ rfl D0 ?_ ?_ (stand_one _) ?_; (simp only [stand_size]); (rw [stand_size]; exact sizeStandV); intro w4 hC4 hg4 hs4))
      exact bodyPost_ret (v := .agg (standC G)) (results_cell1k Try.results85 _ _ _ _ _ _ _ rfl hC4 Try.underlying78 rfl (by rw [stand_size]; exact sizeStandV)) rfl
        ⟨rfl, hb.grown hg4 hb.size (fun k h => by cases h; omega)⟩
end Go.Proofs.Ytmhffdgfkgdmlaa

namespace Go.Proofs.Ytmhffdgfkgdmlaa
open Go.RowKit

theorem infoPawnV : (Try.prog.info? 163).map (fun i => (i.zero, i.size, i.bytes)) = some (some (.agg #[.int .i64 0, .int .i64 0]), 2, 16) := by kernel_rfl
theorem cells_twoV (w : World) (u v : Value) (t : TypeId) : ∀ (j : Nat) x, [u, v][j]? = some x → (w.alloc (.cells #[u, v] t)).cell? ((⟨w.heap.size, 0, none⟩ : Addr).add j) = some x := by
  intro j x h
  match j, h with
  | 0, h => simp at h; subst h; simp [Addr.add, World.cell?_alloc_at _ _ _ _ rfl]
  | 1, h => simp at h; subst h; simp [Addr.add, World.cell?_alloc_at _ _ _ _ rfl]
theorem two_intsV (x y : Int) : ∀ u ∈ [Value.int .i64 x, .int .i64 y], u.oneCell' = true := by intro u hu; simp at hu; rcases hu with rfl | rfl <;> rfl

set_option maxRecDepth 100000 in
set_option maxHeartbeats 2000000 in
theorem pawnsOn_anyV (g : Nat) (q f k : Int) (A : Option Addr) (c : Nat) (S : Nat → Bool) (st : List Int) (w : World) (hR : RP w g 75 q f k A st.length c S) (hj : RI w w.heap.size A st) (F : Nat → Nat → Int) (s : Int) (h4 : 4 ≤ q) (h6 : q ≤ 60) (hk : 0 ≤ k) (hk4 : k ≤ 4) (hn : st.length ≤ 4) (h0 : ∀ p (h : p < st.length), 0 ≤ st[p] ∧ st[p] < q) (hs : 0 ≤ s) :
    Calls Try.prog 141 #[.pointer (some ⟨g, 0, none⟩), .agg (standC F), .int .i64 s] w fun e w' =>
      ∃ v, e = .returned v ∧ w'.ownsRow (w.heap.size + 1) 163 2 v (pawnsL q k st F s).length (flatJ (pawnsL q k st F s)) ∧ Below w.heap.size w w' := by
  have hl := hj.1
  have hgw := hR.lt
  obtain ⟨i0, hi, hz0, hz1, hz2⟩ := info_parts infoPawnV
  obtain ⟨K, hK⟩ := Int.eq_ofNat_of_zero_le hk
  subst hK
  obtain ⟨P, hP⟩ : ∃ P : Nat → List (Int × Int), P = pawnsTo (onS q st F s) K := ⟨_, rfl⟩
  obtain ⟨R, hR'⟩ : ∃ R : Nat → Nat → List (Int × Int), R = rowTo (onS q st F s) := ⟨_, rfl⟩
  have hP0 : P 0 = [] := by rw [hP]; rfl
  have hPs : ∀ p, P (p + 1) = P p ++ R p K := fun p => by rw [hP, hR']; rfl
  have hR0 : ∀ p, R p 0 = [] := fun p => by rw [hR']; rfl
  have hRy : ∀ p t, onS q st F s p t = true → R p (t + 1) = R p t ++ [((p : Int), (t : Int))] := fun p t h => by rw [hR']; exact rowTo_yes h
  have hRn : ∀ p t, onS q st F s p t = false → R p (t + 1) = R p t := fun p t h => by rw [hR']; exact rowTo_no h
  have hlen : ∀ p t, p < 4 → t ≤ 4 → (P p ++ R p t).length ≤ 100 := fun p t hp ht => by
    have h1 := pawnsTo_len (onS q st F s) K p
    have h2 := rowTo_len (onS q st F s) p t
    have h3 : p * K ≤ 4 * 4 := Nat.mul_le_mul (by omega) (by omega)
    rw [hP, hR', List.length_append]
    omega
  have hfin : pawnsL q (K : Int) st F s = P st.length := by rw [hP]; rfl
  rw [hfin]
  have HP0 := Lib.hid hP0; have HPs := Lib.hid hPs; have HR0 := Lib.hid hR0; have HRy := Lib.hid hRy; have HRn := Lib.hid hRn; have HL := Lib.hid hlen
  clear hP hR' hP0 hPs hR0 hRy hRn hlen hfin
  go_enter Try.func141, Try.ntmps141
  have c3 := hR.c3
  go_wp2
  have hb0 : Below (w.heap.size + 1) (w.alloc (.cells (standC F) 78)) (w.alloc (.cells (standC F) 78)) := Below.refl _ _
  go_loopw [7, 17] (fun v i wr => ∃ p : Nat, p ≤ st.length ∧ i = .int .i64 p ∧ Below (w.heap.size + 1) (w.alloc (.cells (standC F) 78)) wr ∧ wr.ownsRow (w.heap.size + 1) 163 2 v (P p).length (flatJ (P p))) (fun _ i _ => st.length - (intOf i).toNat)
  case atStart => exact ⟨0, Nat.zero_le _, rfl, hb0, by rw [HP0.out]; exact World.ownsRow_nil _ _ _ _⟩
  case round =>
    clear hb0
    obtain ⟨p, hp, rfl, hB, hown⟩ := hrel
    by_cases hlt : p < st.length
    · have hbw := (below1 w (.cells (standC F) 78)).trans (hB.mono (by omega))
      have R1 := hR.below hbw hgw
      have c2 := R1.c2
      go_wp2_with fail
      go_loopw [7, 24] (fun v i wi => ∃ t : Nat, t ≤ K ∧ i = .int .i64 t ∧ Below (w.heap.size + 1) (w.alloc (.cells (standC F) 78)) wi ∧ wi.ownsRow (w.heap.size + 1) 163 2 v (P p ++ R p t).length (flatJ (P p ++ R p t))) (fun _ i _ => K - (intOf i).toNat)
      case atStart => exact ⟨0, Nat.zero_le _, rfl, hB, by rw [HR0.out, List.append_nil]; exact hown⟩
      case round =>
        clear hB hown hbw R1 c2
        obtain ⟨t, ht, rfl, hB, hown⟩ := hrel
        obtain ⟨Q, hQ⟩ : ∃ Q, Q = P p ++ R p t := ⟨_, rfl⟩
        rw [← hQ] at hown
        have hbw := (below1 w (.cells (standC F) 78)).trans (hB.mono (by omega))
        have R1 := hR.below hbw hgw
        have D1 : DA wr w.heap.size 78 F := (hB.block _ (by omega)).trans (heap_alloc_at w _ _ rfl)
        have hsz : w.heap.size + 1 ≤ wr.heap.size := by have := hB.size; simpa using this
        by_cases htl : t < K
        · have hp4 : p < 4 := by omega
          have ht4 : t < 4 := by omega
          have d1 := D1.at_ hp4 ht4
          have q1 : (p : Int) < 4 := by omega
          have q2 : (t : Int) < 4 := by omega
          have hcl := HL.out p t hp4 (by omega)
          rw [← hQ] at hcl
          have HQ := Lib.hid hQ
          clear hQ
          have hon : onS q st F s p t = (sqr q st p (F p t) == s) := rfl
          have HON := Lib.hid hon
          clear hon
          obtain ⟨x, hx⟩ : ∃ x, x = F p t := ⟨_, rfl⟩
          have HX := Lib.hid hx
          rw [← hx] at d1
          clear hx
          cases hin : inB x 0 (q - 1)
          · have hoff : onS q st F s p t = false := by rw [HON.out, ← HX.out, sqr_out hin]; simp; omega
            have HIN := Lib.hid hin; have HOFF := Lib.hid hoff
            clear hin hoff
            go_wp2_with fail
            refine (squareOf_noV _ _ _ _ _ _ _ _ _ R1 p x h4 h6 HIN.out).mono ?_
            rintro e w5 ⟨rfl, rfl⟩
            go_wp2_with fail
            go_roundw
            case rel => exact ⟨t + 1, by omega, by go_num, hB, by rw [HRn.out _ _ HOFF.out, ← HQ.out]; exact hown⟩
            case measure => simp [intOf]; omega
          · have HIN := Lib.hid hin
            clear hin
            go_wp2_with fail
            refine (squareOf_yesV _ _ _ _ _ _ _ _ _ R1 st p x rfl (hj.go hbw) h4 h6 hlt (h0 p hlt) HIN.out).mono ?_
            rintro e w5 ⟨rfl, hx5⟩
            have hB5 := box_on hB hx5 hsz
            have hown5 := own_below hown hx5
            have hsz5 := Nat.le_trans hsz hx5.size
            have hon2 : onS q st F s p t = (sqr q st p x == s) := by rw [HON.out, HX.out]
            have HON2 := Lib.hid hon2
            clear hon2
            cases hon : (sqr q st p x == s)
            · have HOFF := Lib.hid (HON2.out.trans hon)
              go_wp2_with fail
              go_roundw
              case rel => exact ⟨t + 1, by omega, by go_num, hB5, by rw [HRn.out _ _ HOFF.out, ← HQ.out]; exact hown5⟩
              case measure => simp [intOf]; omega
            · have HOFF := Lib.hid (HON2.out.trans hon)
              go_wp2_with (at_builtin; go_loud (refine wpList_append_own _ rfl _ _ 191 rfl (w.heap.size + 1) 163 i0 (.agg #[.int .i64 0, .int .i64 0]) 2 16 Try.underlying191 hi hz0 hz1 hz2 rfl (by decide) _ _ _ rfl (hown5.alloc _) ⟨w5.heap.size, 0, none⟩ 1 1 [.int .i64 (p : Int), .int .i64 (t : Int)] rfl rfl (cells_twoV _ _ _ _) (two_intsV _ _) (by unfold maxLen; omega) (by omega) (by simp; omega) ?_; intro v1 w6 hown6 hg6 _))
              go_roundw
              case rel =>
                refine ⟨t + 1, by omega, by go_num, (hB5.alloc hsz5 _).grown hg6 (by simp; omega) (fun i h => own_from hown5 i h), ?_⟩
                rw [HRy.out _ _ HOFF.out, ← List.append_assoc, ← HQ.out, flatJ_app, List.length_append]
                exact hown6
              case measure => simp [intOf]; omega
        · obtain rfl : t = K := by omega
          have HQ := Lib.hid hQ
          clear hQ
          go_wp2_with fail
          go_roundw
          case rel => exact ⟨p + 1, by omega, by go_num, hB, by rw [HPs.out, ← HQ.out]; exact hown⟩
          case measure => simp [intOf]; omega
    · obtain rfl : p = st.length := by omega
      go_wp2
      go_ret
      exact ⟨_, rfl, hown, (below1 _ _).trans (hB.mono (by omega))⟩
end Go.Proofs.Ytmhffdgfkgdmlaa

namespace Go.Proofs.Ytmhffdgfkgdmlaa
open Go.RowKit

theorem cloSent_anyV (a b pl : Int) (cb : Nat) (w : World) (hcb : cb < w.heap.size) (hc : w.cell? ⟨cb, 0, none⟩ = some (.int .i64 pl)) :
    Calls Try.prog 142 #[.agg #[.int .i64 a, .int .i64 b], .pointer (some ⟨cb, 0, none⟩)] w fun e w' => e = .returned (.bool (a == pl)) ∧ Below w.heap.size w w' := by
  go_enter Try.func142, Try.ntmps142
  go_wp2
  go_ret
  exact ⟨rfl, below1 _ _⟩

/-- A token of another player. -/
def keepPV (pl : Int) (a : Int × Int) : Bool := !(a.1 == pl)

set_option maxHeartbeats 1000000 in
theorem idxSent_anyV (b c : Nat) (L : List (Int × Int)) (pl : Int) (cb : Nat) (r : Int) (w : World) (hrow : RowJ w b 163 L.length (fun y => L.getD y (0, 0))) (hl : L.length ≤ 1048576) (hcb : cb < w.heap.size) (hc : w.cell? ⟨cb, 0, none⟩ = some (.int .i64 pl))
    (hr : ∀ j, j < L.length → keepPV pl (L.getD j (0, 0)) = false → (∀ i < j, keepPV pl (L.getD i (0, 0)) = true) → r = (j : Int)) (hn : (∀ j < L.length, keepPV pl (L.getD j (0, 0)) = true) → r = -1) :
    Calls Try.prog 150 #[.slice (some ⟨b, 0, none⟩) L.length c, .func (.func 142) #[] #[.pointer (some ⟨cb, 0, none⟩)]] w fun e w' => e = .returned (.int .i64 r) ∧ Below w.heap.size w w' := by
  have HR := Lib.hid hr; have HN := Lib.hid hn
  clear hr hn
  go_enter Try.func150, Try.ntmps150
  go_wp2
  go_loopw [8] (fun i wr => ∃ k : Nat, k ≤ L.length ∧ i = .int .i64 k ∧ Below w.heap.size w wr ∧ Hid (∀ j < k, keepPV pl (L.getD j (0, 0)) = true)) (fun i _ => L.length - (intOf i).toNat)
  case atStart => exact ⟨0, Nat.zero_le _, rfl, Below.refl _ _, Lib.hid (fun j h => by omega)⟩
  case round =>
    obtain ⟨k, hk, rfl, hb, hall⟩ := hrel
    have hsz := hb.size
    by_cases hlt : k < L.length
    · have hrw := hrow.below hb hrow.lt
      have d1 := hrw.cell1 hlt
      have d2 := hrw.cell2 hlt
      have hcw := (bcell hb hcb).trans hc
      have hkp : keepPV pl (L.getD k (0, 0)) = !((L.getD k (0, 0)).1 == pl) := rfl
      obtain ⟨x, hx⟩ : ∃ x, x = (L.getD k (0, 0)).1 := ⟨_, rfl⟩
      obtain ⟨y, hy⟩ : ∃ y, y = (L.getD k (0, 0)).2 := ⟨_, rfl⟩
      rw [← hx] at d1 hkp
      rw [← hy] at d2
      have HK := Lib.hid hkp
      clear hx hy hkp
      cases he : (x == pl)
      · have HE := Lib.hid he
        go_wp2_with fail
        refine (cloSent_anyV x y pl cb wr (by omega) hcw).mono ?_
        rintro e w2 ⟨rfl, hx2⟩
        rw [HE.out]
        go_wp2_with fail
        go_roundw
        case rel => exact ⟨k + 1, by omega, by go_num, hb.trans (hx2.mono hsz), Lib.hid (fun j hj => by
          by_cases e : j = k
          · subst e; rw [HK.out, HE.out]; rfl
          · exact hall.out j (by omega))⟩
        case measure => simp [intOf]; omega
      · have HE := Lib.hid he
        go_wp2_with fail
        refine (cloSent_anyV x y pl cb wr (by omega) hcw).mono ?_
        rintro e w2 ⟨rfl, hx2⟩
        rw [HE.out]
        go_wp2
        go_ret
        exact ⟨ret_int (HR.out k hlt (by rw [HK.out, HE.out]; rfl) hall.out).symm, hb.trans (hx2.mono hsz)⟩
    · obtain rfl : k = L.length := by omega
      go_wp2
      go_ret
      exact ⟨ret_int (HN.out hall.out).symm, hb⟩
end Go.Proofs.Ytmhffdgfkgdmlaa

namespace Go.Proofs.Ytmhffdgfkgdmlaa
open Go.RowKit

theorem zeroPawnV : ∀ w : World, (zeroValue 163).run Try.prog w = .ok (.agg #[.int .i64 0, .int .i64 0]) w := fun w => by kernel_rfl
theorem clear_pawnsV {w : World} {b i m n : Nat} {F : Nat → Int × Int} (h : RowJ w b 163 n F) (hin : i + m ≤ n) (hm : 0 < m) (c : Nat) :
    ∃ w', (∀ ty, (Builtin.clear_ #[191] ty #[.slice (some ⟨b, i * 2, none⟩) m c]).run Try.prog w = .ok (.tuple #[]) w') ∧ w.grownBy w' (some b) ∧ RowJ w' b 163 i F := by
  obtain ⟨cs, hh, hs, hc⟩ := h
  obtain ⟨m, rfl⟩ : ∃ k, m = k + 1 := ⟨m - 1, by omega⟩
  obtain ⟨zs, hz⟩ : ∃ zs, zs = (Builtin.zeroCells #[Value.int .i64 0, .int .i64 0] (m + 1)).toList := ⟨_, rfl⟩
  have hzl : zs.length = (m + 1) * 2 := by rw [hz]; simp [Builtin.zeroCells]; try omega
  have hz1 : ∀ u ∈ zs, u.oneCell' = true := by
    intro u hu
    rw [hz] at hu
    simp [Builtin.zeroCells] at hu
    obtain ⟨j, _, e⟩ := hu
    rcases (show j % 2 = 0 ∨ j % 2 = 1 by omega) with h | h
    · simp [h] at e; subst e; rfl
    · simp [h] at e; subst e; rfl
  have hst := run_storeCells_at (P := Try.prog) b (i * 2) 163 zs 0 cs w hh (by rw [hzl]; omega) hz1
  refine ⟨w.setRow b (cs.toList.take (i * 2 + 0) ++ zs ++ cs.toList.drop (i * 2 + 0 + zs.length)).toArray, fun ty => ?_, grownBy_setRow w b _, ?_⟩
  rotate_left
  · refine ⟨_, setRow_heap w b cs _ _ (0, 0) hh, ?_, fun k hk => ?_⟩
    · simp [hzl]; omega
    · have h1 := hc k (by omega)
      have e1 : ∀ x, x < i * 2 → (cs.toList.take (i * 2 + 0) ++ zs ++ cs.toList.drop (i * 2 + 0 + zs.length)).toArray[x]? = cs[x]? := fun x hx => by
        have hlt : x < (cs.toList.take (i * 2 + 0)).length := by simp; omega
        rw [List.getElem?_toArray, List.append_assoc, List.getElem?_append_left hlt, List.getElem?_take_of_lt (by omega), Array.getElem?_toList]
      rw [e1 _ (by omega), e1 _ (by omega)]
      exact h1
  · simp [Builtin.clear_, run_underlying Try.underlying191, Value.cells, ← hz, hst]

set_option maxRecDepth 100000 in
set_option maxHeartbeats 2000000 in
/-- Some tokens are struck: the others move ahead. -/
theorem delSent_someV (b c : Nat) (L : List (Int × Int)) (pl : Int) (cb : Nat) (m0 : Nat) (w : World) (hrow : RowJ w b 163 L.length (fun y => L.getD y (0, 0))) (hl : L.length ≤ 1048576) (hlc : L.length ≤ c) (hcb : cb < w.heap.size) (hne : cb ≠ b) (hc : w.cell? ⟨cb, 0, none⟩ = some (.int .i64 pl))
    (hm : m0 < L.length) (hm1 : keepPV pl (L.getD m0 (0, 0)) = false) (hm0 : ∀ i < m0, keepPV pl (L.getD i (0, 0)) = true) :
    Calls Try.prog 140 #[.slice (some ⟨b, 0, none⟩) L.length c, .func (.func 142) #[] #[.pointer (some ⟨cb, 0, none⟩)]] w fun e w' =>
      e = .returned (.slice (some ⟨b, 0, none⟩) (L.filter (keepPV pl)).length c) ∧ RowJ w' b 163 (L.filter (keepPV pl)).length (fun y => (L.filter (keepPV pl)).getD y (0, 0)) ∧ w.grownBy w' (some b) := by
  obtain ⟨K, hK⟩ : ∃ K : Nat → List (Int × Int), K = fun j => (L.take j).filter (keepPV pl) := ⟨_, rfl⟩
  have hKn : L.filter (keepPV pl) = K L.length := by rw [hK]; simp
  have hKy : ∀ j, j < L.length → keepPV pl (L.getD j (0, 0)) = true → K (j + 1) = K j ++ [L.getD j (0, 0)] := fun j hj h => by
    rw [List.getD_eq_getElem?_getD, List.getElem?_eq_getElem hj] at h ⊢
    simp only [Option.getD_some] at h ⊢
    rw [hK]; simp only
    rw [List.take_succ_eq_append_getElem hj, List.filter_append, List.filter_cons_of_pos h]; rfl
  have hKf : ∀ j, j < L.length → keepPV pl (L.getD j (0, 0)) = false → K (j + 1) = K j := fun j hj h => by
    rw [List.getD_eq_getElem?_getD, List.getElem?_eq_getElem hj] at h
    simp only [Option.getD_some] at h
    rw [hK]; simp only
    rw [List.take_succ_eq_append_getElem hj, List.filter_append, List.filter_cons_of_neg (by simp [h])]; simp
  have hKl : ∀ j, (K j).length ≤ j := fun j => by rw [hK]; exact Nat.le_trans (List.length_filter_le _ _) (List.length_take_le _ _)
  have hKm : ∀ j, j ≤ m0 → (K j).length = j ∧ ∀ y < j, (K j).getD y (0, 0) = L.getD y (0, 0) := fun j hj => by
    have : K j = L.take j := by
      rw [hK]; simp only
      rw [List.filter_eq_self]
      intro a ha
      obtain ⟨i, hi, rfl⟩ := List.mem_iff_getElem.1 ha
      have hi2 : i < L.length := by simp at hi; omega
      have := hm0 i (by simp at hi; omega)
      rw [List.getD_eq_getElem?_getD, List.getElem?_eq_getElem hi2] at this
      rw [List.getElem_take]
      exact this
    rw [this]
    exact ⟨by simp; omega, fun y hy => by simp [List.getD_eq_getElem?_getD, List.getElem?_take_of_lt hy]⟩
  rw [hKn]
  have HKy := Lib.hid hKy; have HKf := Lib.hid hKf; have HKl := Lib.hid hKl
  have hK0 := hKm m0 (Nat.le_refl _)
  have hK1 := hKf m0 hm hm1
  clear hK hKn hKy hKf hKl hKm
  have HK0 := Lib.hid hK0; have HK1 := Lib.hid hK1
  clear hK0 hK1
  have HM0 := Lib.hid hm0; have HM1 := Lib.hid hm1
  clear hm0 hm1
  go_enter Try.func140, Try.ntmps140
  go_wp2_with fail
  refine (idxSent_anyV b c L pl cb (m0 : Int) w hrow hl hcb hc (fun j hj h1 h2 => by
    rcases Nat.lt_trichotomy m0 j with h | h | h
    · have := h2 m0 h; rw [HM1.out] at this; cases this
    · rw [h]
    · have := HM0.out j h; rw [h1] at this; cases this) (fun h => by have := h m0 hm; rw [HM1.out] at this; cases this)).mono ?_
  rintro e w2 ⟨rfl, hx2⟩
  have hne1 : ((m0 : Int) == -1) = false := beq_eq_false_iff_ne.2 (by omega)
  have hbl := hrow.lt
  have hr2 := hrow.below hx2 hbl
  have hc2 := (bcell hx2 hcb).trans hc
  have hg2 := below_grown hx2 (some b)
  go_wp2_with fail
  go_loopw [5, 6] (fun vi vj wr => ∃ (i j : Nat) (G : Nat → Int × Int), vi = .int .i64 i ∧ vj = .int .i64 j ∧ i = (K j).length ∧ i < j ∧ j ≤ L.length ∧ RowJ wr b 163 L.length G ∧ Hid (∀ y < i, G y = (K j).getD y (0, 0)) ∧ Hid (∀ y, j ≤ y → y < L.length → G y = L.getD y (0, 0)) ∧ w.grownBy wr (some b)) (fun _ vj _ => L.length - (intOf vj).toNat)
  case atStart =>
    exact ⟨m0, m0 + 1, fun y => L.getD y (0, 0), rfl, by go_num, by rw [HK1.out, HK0.out.1], by omega, by omega, hr2, Lib.hid (fun y hy => by rw [HK1.out]; exact (HK0.out.2 y hy).symm), Lib.hid (fun y _ _ => rfl), hg2⟩
  case round =>
    clear hr2 hc2 hg2 hrow
    obtain ⟨i, j, G, rfl, rfl, hi, hij, hjl, hrow, hlow, hhigh, hg⟩ := hrel
    have HI := Lib.hid hi
    clear hi
    have hcw : wr.cell? ⟨cb, 0, none⟩ = some (.int .i64 pl) := by
      have := hg.block cb hcb (by simpa using hne)
      unfold World.cell? at hc ⊢
      simp only at hc ⊢
      rw [this]; exact hc
    have hsz := hg.size
    by_cases hlt : j < L.length
    · have d1 := hrow.cell1 hlt
      have d2 := hrow.cell2 hlt
      rw [hhigh.out j (Nat.le_refl _) hlt] at d1 d2
      have hkp : keepPV pl (L.getD j (0, 0)) = !((L.getD j (0, 0)).1 == pl) := rfl
      have hjj : L.getD j (0, 0) = ((L.getD j (0, 0)).1, (L.getD j (0, 0)).2) := rfl
      obtain ⟨x, hx⟩ : ∃ x, x = (L.getD j (0, 0)).1 := ⟨_, rfl⟩
      obtain ⟨y, hy⟩ : ∃ y, y = (L.getD j (0, 0)).2 := ⟨_, rfl⟩
      rw [← hx] at d1 hkp
      rw [← hy] at d2
      rw [← hx, ← hy] at hjj
      have HKP := Lib.hid hkp; have HJ := Lib.hid hjj
      clear hx hy hkp hjj
      have hcb2 : cb < wr.heap.size := by omega
      have hc1 : (wr.alloc (.cells #[.int .i64 x, .int .i64 y] 163)).cell? ⟨cb, 0, none⟩ = some (.int .i64 pl) := (bcell (below1 wr _) hcb2).trans hcw
      cases he : (x == pl)
      · have HE := Lib.hid he
        clear he
        go_wp2_with fail
        refine (cloSent_anyV x y pl cb _ (by simp; omega) hc1).mono ?_
        rintro e w3 ⟨rfl, hx3⟩
        rw [HE.out]
        have hbb : b < wr.heap.size := hrow.lt
        have hr3 := (hrow.alloc (.cells #[.int .i64 x, .int .i64 y] 163)).below hx3 (by simp; omega)
        have q3 := fun i => cell_of_row w3 wr.heap.size i _ _ _ ((hx3.block wr.heap.size (by simp)).trans (heap_alloc_at wr _ _ rfl))
        have hil : i < L.length := by omega
        have e1 := hr3.cell1 hil
        have e2 := hr3.cell2 hil
        have e3 := hr3.free (i * 2)
        have e4 := hr3.free (i * 2 + 1)
        have hg3 : w.grownBy w3 (some b) := grown_trans hg (grown_trans (below_grown (below1 wr _) (some b)) (below_grown hx3 (some b)))
        go_wp2_with fail
        go_roundw
        case rel =>
          refine ⟨i + 1, j + 1, _, by go_num, by go_num, ?_, by omega, by omega, hr3.set hil x y, Lib.hid (fun z hz => ?_), Lib.hid (fun z hz1 hz2 => ?_), grown_setCell (grown_setCell hg3 ⟨b, i * 2, none⟩ _ rfl) ⟨b, i * 2 + 1, none⟩ _ rfl⟩
          · rw [HKy.out j hlt (by rw [HKP.out, HE.out]; rfl), List.length_append, ← HI.out]; rfl
          · rw [HKy.out j hlt (by rw [HKP.out, HE.out]; rfl), HJ.out]
            by_cases e : z = i
            · simp only [e, if_true, List.getD_eq_getElem?_getD]
              rw [HI.out]; simp
            · simp only [e, if_false]
              have hz2 : z < (K j).length := by have := HI.out; omega
              rw [hlow.out z (by omega), List.getD_eq_getElem?_getD, List.getD_eq_getElem?_getD, List.getElem?_append_left hz2]
          · have e : ¬ z = i := by omega
            simp only [e, if_false]
            exact hhigh.out z (by omega) hz2
        case measure => simp [intOf]; omega
      · have HE := Lib.hid he
        clear he
        go_wp2_with fail
        refine (cloSent_anyV x y pl cb _ (by simp; omega) hc1).mono ?_
        rintro e w3 ⟨rfl, hx3⟩
        rw [HE.out]
        have hr3 := (hrow.alloc (.cells #[.int .i64 x, .int .i64 y] 163)).below hx3 (by have := hrow.lt; simp; omega)
        have hg3 : w.grownBy w3 (some b) := grown_trans hg (grown_trans (below_grown (below1 wr _) (some b)) (below_grown hx3 (some b)))
        have hKe := HKf.out j hlt (by rw [HKP.out, HE.out]; rfl)
        have HKE := Lib.hid hKe
        clear hKe
        go_wp2_with fail
        go_roundw
        case rel => exact ⟨i, j + 1, G, rfl, by go_num, by rw [HKE.out]; exact HI.out, by omega, by omega, hr3, Lib.hid (fun z hz => by rw [HKE.out]; exact hlow.out z hz), Lib.hid (fun z hz1 hz2 => hhigh.out z (by omega) hz2), hg3⟩
        case measure => simp [intOf]; omega
    · obtain rfl : j = L.length := by omega
      obtain ⟨w4, hcl, hg4, hr4⟩ := clear_pawnsV hrow (show i + (L.length - i) ≤ L.length by omega) (show 0 < L.length - i by omega) (c - i)
      have hic : i ≤ c := by omega
      have hinc : ¬ i = c := by omega
      go_wp2_with fail
      go_ret
      have e0 : (K L.length).length = i := HI.out.symm
      rw [e0]
      exact ⟨rfl, hr4.congr (fun y hy => hlow.out y hy), grown_trans hg hg4⟩
end Go.Proofs.Ytmhffdgfkgdmlaa

namespace Go.Proofs.Ytmhffdgfkgdmlaa
open Go.RowKit

theorem delSent_allV (b c : Nat) (L : List (Int × Int)) (pl : Int) (cb : Nat) (w : World) (hrow : RowJ w b 163 L.length (fun y => L.getD y (0, 0))) (hl : L.length ≤ 1048576) (hcb : cb < w.heap.size) (hc : w.cell? ⟨cb, 0, none⟩ = some (.int .i64 pl))
    (h0 : ∀ i < L.length, keepPV pl (L.getD i (0, 0)) = true) :
    Calls Try.prog 140 #[.slice (some ⟨b, 0, none⟩) L.length c, .func (.func 142) #[] #[.pointer (some ⟨cb, 0, none⟩)]] w fun e w' => e = .returned (.slice (some ⟨b, 0, none⟩) L.length c) ∧ Below w.heap.size w w' := by
  have H0 := Lib.hid h0
  clear h0
  go_enter Try.func140, Try.ntmps140
  go_wp2_with fail
  refine (idxSent_anyV b c L pl cb (-1) w hrow hl hcb hc (fun j hj h1 _ => by have := H0.out j hj; rw [h1] at this; cases this) (fun _ => rfl)).mono ?_
  rintro e w2 ⟨rfl, hx2⟩
  go_wp2
  go_ret
  exact ⟨rfl, hx2⟩

theorem delSent_nilV (cb : Nat) (w : World) :
    Calls Try.prog 140 #[.slice none 0 0, .func (.func 142) #[] #[.pointer (some ⟨cb, 0, none⟩)]] w fun e w' => e = .returned (.slice none 0 0) ∧ Below w.heap.size w w' := by
  have hI : Calls Try.prog 150 #[.slice none 0 0, .func (.func 142) #[] #[.pointer (some ⟨cb, 0, none⟩)]] w fun e w' => e = .returned (.int .i64 (-1)) ∧ Below w.heap.size w w' := by
    go_enter Try.func150, Try.ntmps150
    go_wp2
    go_loopw [8] (fun i wr => i = .int .i64 0 ∧ Below w.heap.size w wr) (fun _ _ => 0)
    case atStart => exact ⟨rfl, Below.refl _ _⟩
    case round =>
      obtain ⟨rfl, hb⟩ := hrel
      go_wp2
      go_ret
      exact ⟨rfl, hb⟩
  go_enter Try.func140, Try.ntmps140
  go_wp2_with fail
  refine hI.mono ?_
  rintro e w2 ⟨rfl, hx2⟩
  go_wp2
  go_ret
  exact ⟨rfl, hx2⟩

theorem sentL_keepV (P : List (Int × Int)) (p : Int) : sentL false P p = P.filter (keepPV p) := rfl
theorem keep_allV {P : List (Int × Int)} {p : Int} (h : ∀ i < P.length, keepPV p (P.getD i (0, 0)) = true) : P.filter (keepPV p) = P := by
  rw [List.filter_eq_self]
  intro a ha
  obtain ⟨i, hi, rfl⟩ := List.mem_iff_getElem.1 ha
  have := h i hi
  rwa [List.getD_eq_getElem?_getD, List.getElem?_eq_getElem hi] at this
/-- The first that is not kept. -/
theorem keep_firstV (p : Int) (P : List (Int × Int)) : (∀ i < P.length, keepPV p (P.getD i (0, 0)) = true) ∨ ∃ m, m < P.length ∧ keepPV p (P.getD m (0, 0)) = false ∧ ∀ i < m, keepPV p (P.getD i (0, 0)) = true := by
  have : ∀ n, (∀ i < n, keepPV p (P.getD i (0, 0)) = true) ∨ ∃ m, m < n ∧ keepPV p (P.getD m (0, 0)) = false ∧ ∀ i < m, keepPV p (P.getD i (0, 0)) = true := by
    intro n
    induction n with
    | zero => exact .inl (fun i h => by omega)
    | succ n ih =>
      rcases ih with h | ⟨m, hm, h⟩
      · cases hk : keepPV p (P.getD n (0, 0))
        · exact .inr ⟨n, by omega, hk, h⟩
        · exact .inl (fun i hi => by
            rcases Nat.lt_or_ge i n with h2 | h2
            · exact h i h2
            · obtain rfl : i = n := by omega
              exact hk)
      · exact .inr ⟨m, by omega, h⟩
  exact this P.length

theorem own_rowJV {w : World} {t : TypeId} {base n b cap : Nat} {xs : List (Int × Int)} (h : w.ownsRow base t 2 (.slice (some ⟨b, 0, none⟩) n cap) n (flatJ xs)) (hn : xs.length = n) : RowJ w b t xs.length (fun k => xs.getD k (0, 0)) ∧ base ≤ b ∧ xs.length ≤ cap := by
  subst hn
  obtain ⟨h0, ⟨e, hz⟩ | ⟨g, cap', cs, e, hg, hh, hn, _, hsz, htk⟩⟩ := h
  · cases e
  · injection e with e1 _ e3
    injection e1 with e1
    injection e1 with e1 _ _
    subst e1 e3
    refine ⟨⟨cs, hh, by rw [hsz]; exact Nat.mul_le_mul_right 2 hn, fun k hk => ?_⟩, hg, hn⟩
    have hat : ∀ i, i < xs.length * 2 → cs[i]? = (flatJ xs)[i]? := fun i hi => by
      have : (cs.toList.take (xs.length * 2))[i]? = (flatJ xs)[i]? := by rw [htk]
      rw [List.getElem?_take_of_lt hi, Array.getElem?_toList] at this
      exact this
    have hf := flatJ_at xs k hk
    rw [hat _ (by omega), hat _ (by omega), hf.1, hf.2]
    simp [List.getElem?_eq_getElem hk]
/-- A slice of tokens that the call made. -/
def PawnsBackV (w : World) (L : List (Int × Int)) (e : Ending) (w' : World) : Prop :=
  ∃ A c, e = .returned (.slice A L.length c) ∧ OJ w' w.heap.size 163 A L.length (fun y => L.getD y (0, 0)) ∧ Below w.heap.size w w'

set_option maxRecDepth 100000 in
set_option maxHeartbeats 1000000 in
theorem sentBy_anyV (g : Nat) (q f k : Int) (A : Option Addr) (c : Nat) (S : Nat → Bool) (st : List Int) (w : World) (hR : RP w g 75 q f k A st.length c S) (hj : RI w w.heap.size A st) (F : Nat → Nat → Int) (pl : Int) (s : Nat) (h4 : 4 ≤ q) (h6 : q ≤ 60) (hk : 0 ≤ k) (hk4 : k ≤ 4) (hn : st.length ≤ 4) (h0 : ∀ p (h : p < st.length), 0 ≤ st[p] ∧ st[p] < q) (hs : (s : Int) < q) :
    Calls Try.prog 131 #[.pointer (some ⟨g, 0, none⟩), .agg (standC F), .int .i64 pl, .int .i64 s] w (PawnsBackV w (sentL (S s) (pawnsL q k st F s) pl)) := by
  have hgw := hR.lt
  have hs60 : s < 60 := by omega
  have hsi : (s : Int) < 60 := by omega
  have cs := hR.at_ hs60
  cases hS : S s
  case true =>
    rw [hS] at cs
    go_enter Try.func131, Try.ntmps131
    go_wp2
    go_ret
    exact ⟨none, 0, rfl, .inl rfl, below2 _ _ _⟩
  rw [hS] at cs
  rw [sentL_keepV]
  have hP16 : (pawnsL q k st F s).length ≤ 16 := pawnsL_len hn hk4
  obtain ⟨P, hP⟩ : ∃ P, pawnsL q k st F (s : Int) = P := ⟨_, rfl⟩
  rw [hP] at hP16 ⊢
  have HP := Lib.hid hP
  clear hP
  go_enter Try.func131, Try.ntmps131
  have hb0 := below2 w (.cells (standC F) 78) (.cells #[.int .i64 pl] 3)
  have R1 := hR.below hb0 hgw
  have D1 : DA ((w.alloc (.cells (standC F) 78)).alloc (.cells #[.int .i64 pl] 3)) w.heap.size 78 F := (Below.heap_alloc _ _ _ (by simp)).trans (heap_alloc_at w _ _ rfl)
  go_wp2_with (refine wpList_load_row rfl 78 (.tmp 5) rfl w.heap.size rfl _ _ _ _ D1 Try.underlying78 rfl ?_ ?_; (rw [stand_size]; exact sizeStandV))
  refine (pawnsOn_anyV g q f k A c S st _ R1 (hj.go hb0) F (s : Int) h4 h6 hk hk4 hn h0 (by omega)).mono ?_
  rintro e w3 ⟨v, rfl, hown, hx⟩
  simp only [World.size_alloc] at hown hx
  rw [HP.out] at hown
  have hb3 : Below w.heap.size w w3 := hb0.trans (hx.mono (by omega))
  have cc : w3.cell? ⟨w.heap.size + 1, 0, none⟩ = some (.int .i64 pl) := (bcell hx (by omega)).trans ((World.cell?_alloc_at _ _ _ _ (by simp)).trans rfl)
  have hs3 : w.heap.size + 1 < w3.heap.size := by have := hx.size; simp at this; omega
  rcases hown.2 with ⟨rfl, hz⟩ | ⟨b, cap, cs', rfl, _⟩
  · have hP0 : P = [] := List.length_eq_zero_iff.1 hz
    go_wp2_with fail
    refine (delSent_nilV _ _).mono ?_
    rintro e w4 ⟨rfl, hx4⟩
    go_wp2
    go_ret
    rw [hP0]
    exact ⟨none, 0, rfl, .inl rfl, hb3.trans (hx4.mono hb3.size)⟩
  · obtain ⟨hrow, hbb, hcap⟩ := own_rowJV hown rfl
    rcases keep_firstV pl P with hall | ⟨m0, hm, hm1, hm0⟩
    · go_wp2_with fail
      refine (delSent_allV b cap P pl (w.heap.size + 1) w3 hrow (by omega) hs3 cc hall).mono ?_
      rintro e w4 ⟨rfl, hx4⟩
      go_wp2
      go_ret
      rw [keep_allV hall]
      exact ⟨_, cap, rfl, .inr ⟨b, rfl, by omega, hrow.below hx4 hrow.lt⟩, hb3.trans (hx4.mono hb3.size)⟩
    · go_wp2_with fail
      refine (delSent_someV b cap P pl (w.heap.size + 1) m0 w3 hrow (by omega) hcap hs3 (by omega) cc hm hm1 hm0).mono ?_
      rintro e w4 ⟨rfl, hr4, hg4⟩
      go_wp2
      go_ret
      exact ⟨_, cap, rfl, .inr ⟨b, rfl, by omega, hr4⟩, hb3.grown hg4 hb3.size (fun k h => by injection h with h; omega)⟩
end Go.Proofs.Ytmhffdgfkgdmlaa

namespace Go.Proofs.Ytmhffdgfkgdmlaa
open Go.RowKit

set_option maxHeartbeats 400000 in
theorem stepsBehind_anyV (g : Nat) (q f k : Int) (A : Option Addr) (n c : Nat) (S : Nat → Bool) (x face : Int) (w : World) (hR : RP w g 75 q f k A n c S) (h0 : -1 ≤ x) (h1 : x ≤ q) (h6 : q ≤ 60) (hf : 1 ≤ face) (hf8 : face ≤ 8) :
    Calls Try.prog 129 #[.pointer (some ⟨g, 0, none⟩), .int .i64 x, .int .i64 face] w fun e w' => e = .returned (.int .i64 (if canB q f x face = true then newX x face else x)) ∧ w = w' := by
  have c0 := hR.c0
  have c1 := hR.c1
  obtain ⟨r, hr⟩ : ∃ r, r = (if canB q f x face = true then newX x face else x) := ⟨_, rfl⟩
  rw [← hr]
  have HR := Lib.hid hr
  clear hr
  go_enter Try.func129, Try.ntmps129
  by_cases hx : x = -1
  · have e1 : (x == -1) = true := by simpa using hx
    by_cases hff : face = f
    · have e2 : (face == f) = true := by simpa using hff
      have hr : r = 0 := by rw [HR.out, canB, if_pos (show x < 0 by omega), e2, newX, if_pos (show x < 0 by omega)]; rfl
      have HRR := Lib.hid hr
      clear hr hff
      go_wp2
      go_ret
      exact ⟨ret_int HRR.out.symm, rfl⟩
    · have e2 : (face == f) = false := by simpa using hff
      have hr : r = x := by rw [HR.out, canB, if_pos (show x < 0 by omega), e2]; rfl
      have HRR := Lib.hid hr
      have HXX := Lib.hid hx
      clear hr hff hx
      go_wp2
      go_ret
      exact ⟨ret_int HRR.out.symm, rfl⟩
  · have e1 : (x == -1) = false := by simpa using hx
    have hx0 : ¬ x < 0 := by omega
    have i1 : IntKind.i64.wrap (x + face) = x + face := IntWalk.i64_in _ (by omega)
    by_cases hle : x + face ≤ q
    · have hr : r = x + face := by rw [HR.out, canB, if_neg hx0, newX, if_neg hx0, if_pos (by simp; omega)]
      have hg : ¬ q < x + face := by omega
      have HRR := Lib.hid hr
      clear hr hx
      go_wp2
      go_ret
      exact ⟨ret_int HRR.out.symm, rfl⟩
    · have hr : r = x := by rw [HR.out, canB, if_neg hx0, if_neg (by simp; omega)]
      have hg : q < x + face := by omega
      have HRR := Lib.hid hr
      clear hr hx
      go_wp2
      go_ret
      exact ⟨ret_int HRR.out.symm, rfl⟩

theorem cells_intTV : Try.prog.cellsOf 3 = 1 := by kernel_rfl
theorem cells_rowTV : Try.prog.cellsOf 76 = 4 := by kernel_rfl
theorem infoIntTV : (Try.prog.info? 3).map (fun i => (i.zero, i.size, i.bytes)) = some (some (.int .i64 0), 1, 8) := by kernel_rfl
theorem infoRowTV : (Try.prog.info? 76).map (fun i => (i.zero, i.size, i.bytes)) = some (some (.agg #[.int .i64 0, .int .i64 0, .int .i64 0, .int .i64 0]), 4, 32) := by kernel_rfl
def row4V (f : Nat → Int) : Array Value := ((List.range 4).map (fun i => Value.int .i64 (f i))).toArray
theorem row4_atV (f : Nat → Int) {i : Nat} (h : i < 4) : (row4V f)[i]? = some (.int .i64 (f i)) := by simp [row4V, h]
theorem part_row4V (f : Nat → Int) (i : Nat) (hi : i < 4) (w : World) : (part 3 (row4V f) (i * 1)).run Try.prog w = .ok (.int .i64 (f i)) w := by
  obtain ⟨i0, h0, _, h2, _⟩ := info_parts infoIntTV
  have := row4_atV f hi
  simp [part, go_sem, this]
theorem eq_row4V (f g : Nat → Int) : ∀ (is : List Nat) (w : World), (∀ i ∈ is, i < 4) → (Op.eqItems 9998 3 1 (row4V f) (row4V g) is).run Try.prog w = .ok (is.all fun i => f i == g i) w
  | [], w, _ => by simp [Op.eqItems]
  | i :: is, w, h => by
    have h1 := part_row4V f i (h i (by simp)) w
    have h2 := part_row4V g i (h i (by simp)) w
    have ih := eq_row4V f g is w (fun j hj => h j (by simp [hj]))
    have he : (Op.equalIn 9998 3 (.int .i64 (f i)) (.int .i64 (g i))).run Try.prog w = .ok (f i == g i) w := by simp [go_sem]
    simp only [Op.eqItems, Sem.run_bind, h1, h2, he, Result.andThen_ok, List.all_cons]
    cases hb : (f i == g i)
    · simp
    · simpa using ih
theorem eq_rowsV (f g : Nat → Int) (w : World) : (Op.equalIn 9999 76 (.agg (row4V f)) (.agg (row4V g))).run Try.prog w = .ok ((List.range 4).all fun i => f i == g i) w := by
  obtain ⟨i0, hi, _, _, _⟩ := info_parts infoIntTV
  have e : (Op.equalIn 9999 76 (.agg (row4V f)) (.agg (row4V g))).run Try.prog w = (Op.eqItems 9998 3 1 (row4V f) (row4V g) (List.range 4)).run Try.prog w := by
    rw [← cells_intTV]
    exact run_equalIn_array w 9998 _ _ Try.underlying76 hi
  rw [e]
  exact eq_row4V f g _ w (fun i hi => by simpa using hi)
theorem part_standV (F : Nat → Nat → Int) (i : Nat) (hi : i < 4) (w : World) : (part 76 (standC F) (i * 4)).run Try.prog w = .ok (.agg (row4V (F i))) w := by
  rcases (show i = 0 ∨ i = 1 ∨ i = 2 ∨ i = 3 by omega) with rfl | rfl | rfl | rfl
  · kernel_rfl
  · kernel_rfl
  · kernel_rfl
  · kernel_rfl
theorem eq_standV (F G : Nat → Nat → Int) : ∀ (is : List Nat) (w : World), (∀ i ∈ is, i < 4) → (Op.eqItems 9999 76 4 (standC F) (standC G) is).run Try.prog w = .ok (is.all fun i => (List.range 4).all fun j => F i j == G i j) w
  | [], w, _ => by simp [Op.eqItems]
  | i :: is, w, h => by
    have h1 := part_standV F i (h i (by simp)) w
    have h2 := part_standV G i (h i (by simp)) w
    have ih := eq_standV F G is w (fun j hj => h j (by simp [hj]))
    have he := eq_rowsV (F i) (G i) w
    simp only [Op.eqItems, Sem.run_bind, h1, h2, he, Result.andThen_ok, List.all_cons]
    cases hb : ((List.range 4).all fun j => F i j == G i j)
    · simp
    · simpa using ih
def eqFV (F G : Nat → Nat → Int) : Bool := (List.range 4).all fun i => (List.range 4).all fun j => F i j == G i j
theorem eqF_yesV {F G : Nat → Nat → Int} (h : ∀ x < 4, ∀ y < 4, F x y = G x y) : eqFV F G = true := by
  simp only [eqFV, List.all_eq_true, List.mem_range, beq_iff_eq]
  exact h
theorem eqF_noV {F G : Nat → Nat → Int} {x y : Nat} (hx : x < 4) (hy : y < 4) (h : F x y ≠ G x y) : eqFV F G = false := by
  cases hb : eqFV F G
  · rfl
  · simp only [eqFV, List.all_eq_true, List.mem_range, beq_iff_eq] at hb
    exact absurd (hb x hx y hy) h
set_option maxRecDepth 100000 in
theorem eql_standsV (F G : Nat → Nat → Int) (w : World) : (Op.equalIn 10000 78 (.agg (standC F)) (.agg (standC G))).run Try.prog w = .ok (eqFV F G) w := by
  obtain ⟨i0, hi, _, _, _⟩ := info_parts infoRowTV
  have e : (Op.equalIn 10000 78 (.agg (standC F)) (.agg (standC G))).run Try.prog w = (Op.eqItems 9999 76 4 (standC F) (standC G) (List.range 4)).run Try.prog w := by
    have h := run_equalIn_array w 9999 (standC F) (standC G) Try.underlying78 hi
    rw [cells_rowTV] at h
    exact h
  rw [e]
  exact eq_standV F G _ w (fun i hi => by simpa using hi)
/-- Three results: a struct in a block of its own, and two slots. -/
theorem results_cell_slots2V {P : Program} {fn : Func} {p q r : Tmp} {ty : TypeId} (h : fn.results = #[.cell p ty, .tmp q, .tmp r]) (tmps : Array Value) (w : World) (g : Nat) (t : TypeId) (cs : Array Value) (fr : Nat × Nat) (d : TypeDesc) (v v2 : Value)
    (hp : tmps.getD p undef = .pointer (some ⟨g, 0, none⟩)) (hv : tmps.getD q undef = v) (hv2 : tmps.getD r undef = v2) (hg : w.heap[g]? = some (.cells cs t fr))
    (hu : P.underlying ty = some d) (hd : (match d with | .struct _ | .array _ _ => true | _ => false) = true) (hi : (P.info? ty).map (·.size) = some cs.size) :
    (results fn tmps).run P w = .ok (.tuple #[.agg cs, v, v2]) w := by
  have hp' : tmps[p]?.getD undef = .pointer (some ⟨g, 0, none⟩) := by simpa using hp
  have hv' : tmps[q]?.getD undef = v := by simpa using hv
  have hv2' : tmps[r]?.getD undef = v2 := by simpa using hv2
  simp [results, h, hp', hv', hv2', asAddr, run_loadVar_row w g t ty cs fr d hg hu hd hi]
end Go.Proofs.Ytmhffdgfkgdmlaa

namespace Go.Proofs.Ytmhffdgfkgdmlaa
open Go.RowKit

set_option maxRecDepth 100000 in
set_option maxHeartbeats 4000000 in
theorem behind_anyV (g : Nat) (q f k : Int) (A : Option Addr) (c : Nat) (st sf : List Int) (w : World) (hR : RP w g 75 q f k A st.length c (safeB sf)) (hj : RI w w.heap.size A st) (F : Nat → Nat → Int) (p t : Nat) (face : Int) (h4 : 4 ≤ q) (h6 : q ≤ 60) (hk : 1 ≤ k) (hk4 : k ≤ 4) (hn : st.length ≤ 4) (h0 : ∀ p (h : p < st.length), 0 ≤ st[p] ∧ st[p] < q)
    (hp : p < st.length) (ht : t < 4) (hx0 : -1 ≤ F p t) (hx1 : F p t ≤ q) (hf1 : 1 ≤ face) (hf8 : face ≤ 8) (V : Nat → Nat → Int) (m : Int) (r : Bool) (hr : canB q f (F p t) face = r) (hV0 : r = false → V = F ∧ m = 0) (hV1 : r = true → V = goF q k st sf F p t face ∧ m = ((goL q k st sf F p t face).length : Int)) :
    Calls Try.prog 110 #[.pointer (some ⟨g, 0, none⟩), .agg (standC F), .agg #[.int .i64 (p : Int), .int .i64 (t : Int), .int .i64 face]] w fun e w' => e = .returned (.tuple #[.agg (standC V), .int .i64 m, .bool r]) ∧ Below w.heap.size w w' := by
  have hgw := hR.lt
  have z1 := zeroStandV
  have hp4 : p < 4 := by omega
  have ht4 : t < 4 := by omega
  have q1 : (p : Int) < 4 := by omega
  have q2 : (t : Int) < 4 := by omega
  obtain ⟨x, hx⟩ : ∃ x, x = F p t := ⟨_, rfl⟩
  obtain ⟨y, hy⟩ : ∃ y, y = (if canB q f x face = true then newX x face else x) := ⟨_, rfl⟩
  have hyb : 0 ≤ y ∧ y ≤ q ∨ y = x := by
    rw [hy]; split
    · rename_i h; exact .inl (newX_bd (by omega) hf1 h)
    · exact .inr rfl
  rw [← hx] at hx0 hx1 hr
  have HX := Lib.hid hx; have HY := Lib.hid hy; have HR := Lib.hid hr; have HV0 := Lib.hid hV0; have HV1 := Lib.hid hV1
  clear hx hy hr hV0 hV1
  go_enter Try.func110, Try.ntmps110
  have D0 : DA (((w.alloc (.cells (standC F) 78)).alloc (.cells #[.int .i64 (p : Int), .int .i64 (t : Int), .int .i64 face] 166)).alloc (.cells (standC (fun _ _ => 0)) 78)) w.heap.size 78 F := (Below.heap_alloc _ _ _ (by simp; omega)).trans ((Below.heap_alloc _ _ _ (by simp)).trans (heap_alloc_at w _ _ rfl))
  go_wp2_with (first | (refine wpList_load_row rfl 78 (.tmp 4) rfl w.heap.size rfl _ _ _ _ D0 Try.underlying78 rfl ?_ ?_; (rw [stand_size]; exact sizeStandV)) | (refine wpList_store_row rfl 78 (.tmp 9) _ rfl (w.heap.size + 1 + 1 + 1) rfl _ _ (standC F) rfl (heap_alloc_at _ _ _ (by simp)) ?_ ?_ (stand_one _) ?_; (simp only [stand_size]); (rw [stand_size]; exact sizeStandV); intro w3 hC3 hg3 hs3))
  have hb3 : Below w.heap.size w w3 := ((below3 w _ _ _).alloc (by simp; omega) _).grown hg3 (by simp; omega) (fun k h => by injection h with h; omega)
  have D3 : DA w3 w.heap.size 78 F := (hg3.block _ (by simp <;> omega) (by simp <;> omega)).trans ((Below.heap_alloc _ _ _ (by simp <;> omega)).trans D0)
  have M3 : w3.heap[w.heap.size + 1]? = some (.cells #[.int .i64 (p : Int), .int .i64 (t : Int), .int .i64 face] 166 (0, 0)) := (hg3.block _ (by simp <;> omega) (by simp)).trans ((Below.heap_alloc _ _ _ (by simp <;> omega)).trans ((Below.heap_alloc _ _ _ (by simp)).trans (heap_alloc_at _ _ _ (by simp))))
  have Z3 : DA w3 (w.heap.size + 1 + 1) 78 (fun _ _ => 0) := (hg3.block _ (by simp) (by simp)).trans ((Below.heap_alloc _ _ _ (by simp)).trans (heap_alloc_at _ _ _ (by simp)))
  have N3 : DA w3 (w.heap.size + 1 + 1 + 1) 78 F := hC3
  have hz3 := N3.lt
  clear hg3 hC3 D0 hs3
  obtain ⟨a, ha⟩ : ∃ a, a = w.heap.size := ⟨_, rfl⟩
  have hgb : g ≠ a + 3 := by omega
  have hga : g < a := by omega
  rw [← ha] at D3 M3 Z3 N3 hz3 ⊢
  have HA := Lib.hid ha
  have R3 := hR.below hb3 hgw
  have qm := fun i => cell_of_row w3 (a + 1) i _ _ _ M3
  clear ha
  go_quiet (fail)
  have D4 := D3.drewN nq
  have N4 := N3.drewN nq
  have Z4 := Z3.drewN nq
  have R4 := R3.drewN nq
  have hb4 := drewB hb3 nq
  have M4 : (w3.drewN nq).heap[a + 1]? = some (.cells #[.int .i64 (p : Int), .int .i64 (t : Int), .int .i64 face] 166 (0, 0)) := M3
  have hz4 : a + 1 + 1 + 1 < (w3.drewN nq).heap.size := hz3
  clear D3 N3 Z3 R3 hb3 M3 qm hz3
  generalize w3.drewN nq = w4 at *
  have qm := fun i => cell_of_row w4 (a + 1) i _ _ _ M4
  have dn := N4.at_ hp4 ht4
  have fn := N4.free (p * 4 + t)
  rw [← HX.out] at dn
  go_wp2_with fail
  go_region_with (go_at_call 129; refine (stepsBehind_anyV g q f k A st.length c (safeB sf) x face _ (R4.drewN _) hx0 hx1 h6 hf1 hf8).mono ?_; rintro e w' ⟨rfl, rfl⟩; rw [← HY.out])
  all_goals
    have N5 : DA ((w4.drewN 1).setCell ⟨a + 1 + 1 + 1, p * 4 + t, none⟩ (.int .i64 y)) (a + 1 + 1 + 1) 78 (updX F p t y) := (N4.drewN 1).set hp4 ht4 y
    have D5 := (D4.drewN 1).far (p := ⟨a + 1 + 1 + 1, p * 4 + t, none⟩) (by dsimp only; omega) (.int .i64 y)
    have Z5 := (Z4.drewN 1).far (p := ⟨a + 1 + 1 + 1, p * 4 + t, none⟩) (by dsimp only; omega) (.int .i64 y)
    have R5 := (R4.drewN 1).far (p := ⟨a + 1 + 1 + 1, p * 4 + t, none⟩) (by dsimp only; omega) (.int .i64 y)
    have M5 : ((w4.drewN 1).setCell ⟨a + 1 + 1 + 1, p * 4 + t, none⟩ (.int .i64 y)).heap[a + 1]? = some (.cells #[.int .i64 (p : Int), .int .i64 (t : Int), .int .i64 face] 166 (0, 0)) := (Below.heap_setCell _ _ _ _ (by dsimp only; omega)).trans M4
    have hb5 : Below w.heap.size w ((w4.drewN 1).setCell ⟨a + 1 + 1 + 1, p * 4 + t, none⟩ (.int .i64 y)) := (drewB hb4 1).setCell (by dsimp only; have := HA.out; omega) _
    clear D4 N4 Z4 R4 hb4 M4 qm hz4 dn fn
    generalize ((w4.drewN 1).setCell ⟨a + 1 + 1 + 1, p * 4 + t, none⟩ (.int .i64 y)) = w5 at *
    cases r
    · have hyx : y = x := by rw [HY.out, HR.out]; rfl
      have hFF : eqFV (updX F p t y) F = true := eqF_yesV (fun u _ v _ => by
        simp only [updX]
        split
        · rename_i h; rw [h.1, h.2, hyx, HX.out]
        · rfl)
      have heq : ∀ w : World, (Op.equalIn 10000 78 (.agg (standC (updX F p t y))) (.agg (standC F))).run Try.prog w = .ok true w := fun w => by rw [eql_standsV, hFF]
      have HYX := Lib.hid hyx
      clear hFF hyx
      obtain ⟨hVF, hm0⟩ := HV0.out rfl
      have HVF := Lib.hid hVF; have HM0 := Lib.hid hm0
      clear hVF hm0
      go_wp2_with (first | (refine wpList_load_row rfl 78 (.tmp 9) rfl (a + 1 + 1 + 1) rfl _ _ _ _ N5 Try.underlying78 rfl ?_ ?_; (rw [stand_size]; exact sizeStandV)) | (refine wpList_load_row rfl 78 (.tmp 4) rfl a rfl _ _ _ _ D5 Try.underlying78 rfl ?_ ?_; (rw [stand_size]; exact sizeStandV)) | (refine wpList_store_row rfl 78 (.tmp 6) _ rfl (a + 1 + 1) rfl _ _ _ rfl Z5 ?_ ?_ (stand_one _) ?_; (simp only [stand_size]); (rw [stand_size]; exact sizeStandV); intro w6 hC6 hg6 hs6))
      exact bodyPost_ret (v := .tuple #[.agg (standC F), .int .i64 0, .bool false]) (results_cell_slots2V Try.results110 _ _ _ _ _ _ _ _ _ rfl rfl rfl hC6 Try.underlying78 rfl (by rw [stand_size]; exact sizeStandV)) rfl
        ⟨by rw [HVF.out, HM0.out], hb5.grown hg6 hb5.size (fun k h => by injection h with h; have := HA.out; omega)⟩
    · have hyn : y = newX x face := by rw [HY.out, HR.out]; rfl
      have hnb := newX_bd (by omega) hf1 HR.out
      have hnx := newX_ne (x := x) hf1
      have hFF : eqFV (updX F p t y) F = false := eqF_noV hp4 ht4 (by simp only [updX, and_self, if_true]; rw [← HX.out, hyn]; exact hnx)
      have heq : ∀ w : World, (Op.equalIn 10000 78 (.agg (standC (updX F p t y))) (.agg (standC F))).run Try.prog w = .ok false w := fun w => by rw [eql_standsV, hFF]
      rw [← hyn] at hnb
      have HYN := Lib.hid hyn
      clear hFF hyn hnx
      obtain ⟨hVF, hm0⟩ := HV1.out rfl
      have HVF := Lib.hid hVF; have HM0 := Lib.hid hm0
      clear hVF hm0
      go_wp2_with (first | (refine wpList_load_row rfl 78 (.tmp 9) rfl (a + 1 + 1 + 1) rfl _ _ _ _ N5 Try.underlying78 rfl ?_ ?_; (rw [stand_size]; exact sizeStandV)) | (refine wpList_load_row rfl 78 (.tmp 4) rfl a rfl _ _ _ _ D5 Try.underlying78 rfl ?_ ?_; (rw [stand_size]; exact sizeStandV)))
      clear heq D5
      have qm := fun i => cell_of_row w5 (a + 1) i _ _ _ M5
      have dn := N5.at_ hp4 ht4
      simp only [updX, and_self, if_true] at dn
      have hz5 := N5.lt
      cases hin : inB y 0 (q - 1)
      · have hno : ∀ n, Calls Try.prog 130 #[.pointer (some ⟨g, 0, none⟩), .int .i64 (p : Int), .int .i64 y] (w5.drewN n) fun e w' => e = .returned (.tuple #[.int .i64 0, .bool false]) ∧ w' = w5.drewN n := fun n => (squareOf_noV _ _ _ _ _ _ _ _ _ (R5.drewN n) p y h4 h6 hin).mono fun _ _ h => ⟨h.1, h.2.symm⟩
        have hgl : goL q k st sf F p t face = [] := goL_out (by rw [← HX.out, ← HYN.out]; exact hin)
        have HGL := Lib.hid hgl
        clear hgl hin
        go_quiet (first | (go_at_call 130; with_reducible refine Calls.quiet_of_same (hno _)))
        have N6 := N5.drewN nq
        have Z6 := Z5.drewN nq
        have hb6 := drewB hb5 nq
        clear hno qm dn
        generalize w5.drewN nq = w6 at *
        go_wp2_with (first | (refine wpList_load_row rfl 78 (.tmp 9) rfl (a + 1 + 1 + 1) rfl _ _ _ _ N6 Try.underlying78 rfl ?_ ?_; (rw [stand_size]; exact sizeStandV)) | (refine wpList_store_row rfl 78 (.tmp 6) _ rfl (a + 1 + 1) rfl _ _ _ rfl Z6 ?_ ?_ (stand_one _) ?_; (simp only [stand_size]); (rw [stand_size]; exact sizeStandV); intro w7 hC7 hg7 hs7))
        exact bodyPost_ret (v := .tuple #[.agg (standC (updX F p t y)), .int .i64 0, .bool true]) (results_cell_slots2V Try.results110 _ _ _ _ _ _ _ _ _ rfl rfl rfl hC7 Try.underlying78 rfl (by rw [stand_size]; exact sizeStandV)) rfl
          ⟨by rw [HVF.out, HM0.out, goF, HGL.out, homeF_nil, ← HX.out, ← HYN.out]; rfl, hb6.grown hg7 hb6.size (fun k h => by injection h with h; have := HA.out; omega)⟩
      · have hs0 : 0 ≤ st[p] ∧ st[p] < q := h0 p hp
        have hyes : ∀ n, Calls Try.prog 130 #[.pointer (some ⟨g, 0, none⟩), .int .i64 (p : Int), .int .i64 y] (w5.drewN n) fun e w' => e = .returned (.tuple #[.int .i64 (sqr q st p y), .bool true]) ∧ ∃ m, w' = (w5.drewN n).drewN m := fun n => squareOf_qV _ _ _ _ _ _ _ _ _ (R5.drewN n) st p y rfl (hj.go (drewB hb5 n)) h4 h6 hp hs0 hin
        have hsq := sqr_lt (st := st) (p := p) (show 0 < q by omega) hin
        obtain ⟨sq, hsqe⟩ : ∃ sq : Nat, (sq : Int) = sqr q st p y := ⟨(sqr q st p y).toNat, by omega⟩
        rw [← hsqe] at hyes hsq
        obtain ⟨Lg, hLg⟩ : ∃ L, L = goL q k st sf F p t face := ⟨_, rfl⟩
        have hgl : Lg = sentL (safeB sf sq) (pawnsL q k st (updX F p t y) (sq : Int)) (p : Int) := by
          rw [hLg, goL_in (by rw [← HX.out, ← HYN.out]; exact hin), ← HX.out, ← HYN.out, ← hsqe]; rfl
        have hgl16 : Lg.length ≤ 16 := by rw [hLg]; exact goL_len hn hk4
        have hglat : ∀ i (h : i < Lg.length), ∃ x y : Nat, x < 4 ∧ y < 4 ∧ Lg[i] = ((x : Int), (y : Int)) := fun i h => by
          subst hLg
          obtain ⟨x, y, h1, h2, h3, _⟩ := goL_at h
          exact ⟨x, y, by omega, by omega, h3⟩
        have HLG := Lib.hid hLg
        have HGL := Lib.hid hgl
        have HAT := Lib.hid hglat
        clear hLg hgl hglat hin hsqe
        go_quiet (first | (go_at_call 130; with_reducible refine Calls.quiet_of (hyes _)))
        have N6 := N5.drewN nq
        have Z6 := Z5.drewN nq
        have R6 := R5.drewN nq
        have hb6 := drewB hb5 nq
        have M6 : (w5.drewN nq).heap[a + 1]? = some (.cells #[.int .i64 (p : Int), .int .i64 (t : Int), .int .i64 face] 166 (0, 0)) := M5
        clear hyes qm dn N5 Z5 R5 hb5 M5
        generalize w5.drewN nq = w6 at *
        have qm := fun i => cell_of_row w6 (a + 1) i _ _ _ M6
        go_wp2_with (first | (refine wpList_load_row rfl 78 (.tmp 9) rfl (a + 1 + 1 + 1) rfl _ _ _ _ N6 Try.underlying78 rfl ?_ ?_; (rw [stand_size]; exact sizeStandV)))
        refine (sentBy_anyV g q f k A c (safeB sf) st _ R6 (hj.go hb6) (updX F p t y) (p : Int) sq h4 h6 (by omega) hk4 hn h0 (by omega)).mono ?_
        rintro e w7 ⟨Av, cv, rfl, hO, hx7⟩
        rw [← HGL.out] at hO ⊢
        have N7 := N6.go hx7
        have Z7 := Z6.go hx7
        have hb7 : Below w.heap.size w w7 := hb6.trans (hx7.mono hb6.size)
        have hz6 := N6.lt
        have hz7 : w6.heap.size ≤ w7.heap.size := hx7.size
        clear N6 Z6 R6 M6 qm hx7 hb6
        go_wp2_with fail
        go_loopw [61] (fun i wr => ∃ j : Nat, j ≤ Lg.length ∧ i = .int .i64 j ∧ Below a w wr ∧ DA wr (a + 1 + 1 + 1) 78 (homeF (updX F p t y) (Lg.take j)) ∧ DA wr (a + 1 + 1) 78 (fun _ _ => 0) ∧ OJ wr w6.heap.size 163 Av Lg.length (fun y => Lg.getD y (0, 0))) (fun i _ => Lg.length - (intOf i).toNat)
        case atStart => exact ⟨0, Nat.zero_le _, rfl, by rw [HA.out]; exact hb7, N7, Z7, hO⟩
        case round =>
          clear hb7 N7 Z7 hO
          obtain ⟨j, hjl, rfl, hb8, N8, Z8, hO⟩ := hrel
          by_cases hjt : j < Lg.length
          · obtain ⟨gv, rfl, hgv, hrow⟩ := hO.get hjt
            have d1 := hrow.cell1 hjt
            have d2 := hrow.cell2 hjt
            obtain ⟨u, v, hu4, hv4, huv⟩ := HAT.out j hjt
            have hge : Lg.getD j (0, 0) = ((u : Int), (v : Int)) := by rw [List.getD_eq_getElem?_getD, List.getElem?_eq_getElem hjt, huv]; rfl
            rw [hge] at d1 d2
            have htk : Lg.take (j + 1) = Lg.take j ++ [((u : Int), (v : Int))] := by rw [List.take_succ_eq_append_getElem hjt, huv]
            have HT := Lib.hid htk
            have hu4i : (u : Int) < 4 := by omega
            have hv4i : (v : Int) < 4 := by omega
            clear hge htk huv
            have N9 := N8.alloc (.cells #[.int .i64 (u : Int), .int .i64 (v : Int)] 163)
            have dn := N9.at_ hu4 hv4
            have fn := N9.free (u * 4 + v)
            have hz8 := N8.lt
            go_wp2_with fail
            go_region
            go_wp2_with fail
            go_roundw
            case rel =>
              have hb9 : Below a w (wr.setCell ⟨a + 1 + 1 + 1, u * 4 + v, none⟩ (.int .i64 (-1))) := hb8.setCell (by dsimp only; omega) _
              have N10 := N8.set hu4 hv4 (-1)
              have N11 : DA _ _ _ (homeF (updX F p t y) (Lg.take (j + 1))) := N10.congr (fun x _ y _ => by rw [HT.out, homeF_snoc]; rfl)
              exact ⟨j + 1, by omega, by go_num, (hb9.alloc (by have := hb9.size; have := HA.out; omega) _).drew, (N11.alloc _).drew, ((Z8.far (p := ⟨a + 1 + 1 + 1, u * 4 + v, none⟩) (by dsimp only; omega) _).alloc _).drew, .inr ⟨gv, rfl, hgv, ((hrow.far (p := ⟨a + 1 + 1 + 1, u * 4 + v, none⟩) (by dsimp only; omega) _).alloc _).drew⟩⟩
            case measure => simp [intOf]; omega
          · obtain rfl : j = Lg.length := by omega
            go_wp2_with (first | (refine wpList_load_row rfl 78 (.tmp 9) rfl (a + 1 + 1 + 1) rfl _ _ _ _ N8 Try.underlying78 rfl ?_ ?_; (rw [stand_size]; exact sizeStandV)) | (refine wpList_store_row rfl 78 (.tmp 6) _ rfl (a + 1 + 1) rfl _ _ _ rfl Z8 ?_ ?_ (stand_one _) ?_; (simp only [stand_size]); (rw [stand_size]; exact sizeStandV); intro w9 hC9 hg9 hs9))
            exact bodyPost_ret (v := .tuple #[.agg (standC (homeF (updX F p t y) Lg)), .int .i64 (Lg.length : Int), .bool true]) (results_cell_slots2V Try.results110 _ _ _ _ _ _ _ _ _ rfl rfl rfl hC9 Try.underlying78 rfl (by rw [stand_size]; exact sizeStandV)) rfl
              ⟨by rw [HVF.out, HM0.out, goF, ← HLG.out, ← HX.out, ← HYN.out], by rw [HA.out] at hb8; exact hb8.grown hg9 hb8.size (fun k h => by injection h with h; have := HA.out; omega)⟩
end Go.Proofs.Ytmhffdgfkgdmlaa

namespace Go.Proofs.Ytmhffdgfkgdmlaa
open Go.RowKit

set_option maxHeartbeats 1000000 in
theorem hasMove_anyV (g : Nat) (q f k : Int) (A : Option Addr) (n c : Nat) (S : Nat → Bool) (w : World) (hR : RP w g 75 q f k A n c S) (p t x : Int) (hn : n ≤ 1048576) (hk : 0 ≤ k) (hk4 : k ≤ 4) : Calls Try.prog 128 #[.pointer (some ⟨g, 0, none⟩), .agg #[.int .i64 p, .int .i64 t, .int .i64 x]] w fun e w' => e = .returned (.bool (mvB f k n p t x)) ∧ Below w.heap.size w w' := by
  obtain ⟨r1, h1⟩ : ∃ r, r = (inB p 0 ((n : Int) - 1) && inB t 0 (k - 1)) := ⟨_, rfl⟩
  rw [mvB, ← h1]
  have H1 := Lib.hid h1
  clear h1
  have R1 := hR.alloc (.cells #[.int .i64 p, .int .i64 t, .int .i64 x] 166)
  go_enter Try.func128, Try.ntmps128
  go_wp2_with fail
  refine (hasPawn_anyV _ _ _ _ _ _ _ _ _ R1 p t hn hk hk4).mono ?_
  rintro e w2 ⟨rfl, hx⟩
  rw [← H1.out]
  have R2 := R1.go hx
  have hb := box_on (Below.refl _ _) hx (by simp)
  have qq := boxcells hb
  cases r1
  · go_wp2
    go_ret
    exact ⟨rfl, (below1 _ _).trans (hb.mono (by omega))⟩
  · go_wp2_with (go_at_call 139; refine (hasFace_anyV _ _ _ _ _ _ _ _ _ R2 x).mono ?_; rintro e w' ⟨rfl, rfl⟩)
    go_ret
    exact ⟨by rw [Bool.true_and]; rfl, (below1 _ _).trans (hb.mono (by omega))⟩

set_option maxHeartbeats 400000 in
theorem trCan_anyV (q f k : Int) (A1 A2 : Option Addr) (n1 c1 n2 c2 : Nat) (x y : Int) (w : World) (hx1 : x ≤ q) (hq : q ≤ 60) (hy : 1 ≤ y) (hy8 : y ≤ 8) :
    Calls Try.prog 81 #[.agg #[.int .i64 q, .int .i64 f, .int .i64 k, .slice A1 n1 c1, .slice A2 n2 c2], .int .i64 x, .int .i64 y] w fun e w' => e = .returned (.bool (canB q f x y)) ∧ Below w.heap.size w w' := by
  by_cases h0 : x < 0
  · rw [canB, if_pos h0]
    go_enter Try.func81, Try.ntmps81
    go_wp2
    go_ret
    exact ⟨rfl, below1 _ _⟩
  · rw [canB, if_neg h0]
    have i5 : IntKind.i64.wrap (x + y) = x + y := IntWalk.i64_in _ (by omega)
    by_cases h : x < q
    · obtain ⟨r, hr⟩ : ∃ r, r = (decide (x < q) && decide (x + y ≤ q)) := ⟨_, rfl⟩
      have hr' : decide (x + y ≤ q) = r := by rw [hr, decide_eq_true h, Bool.true_and]
      rw [← hr]
      have HR := Lib.hid hr'
      clear hr hr'
      go_enter Try.func81, Try.ntmps81
      go_wp2
      go_ret
      exact ⟨ret_bool HR.out, below1 _ _⟩
    · rw [decide_eq_false h, Bool.false_and]
      go_enter Try.func81, Try.ntmps81
      go_wp2
      go_ret
      exact ⟨rfl, below1 _ _⟩
end Go.Proofs.Ytmhffdgfkgdmlaa

namespace Go.Proofs.Ytmhffdgfkgdmlaa
open Go.RowKit

set_option maxRecDepth 100000 in
theorem cloneI_anyV (b off c n : Nat) (xs : List Int) (w : World) (hn : n = xs.length) (hb : b < w.heap.size) (hc : ∀ k (h : k < xs.length), w.cell? ⟨b, off + k, none⟩ = some (.int .i64 xs[k])) (hl : xs.length ≤ 1048576) :
    Calls Try.prog 83 #[.slice (some ⟨b, off, none⟩) n c] w fun e w' => ∃ A c', e = .returned (.slice A n c') ∧ OI w' w.heap.size 3 A n (fun k => xs.getD k 0) ∧ Below w.heap.size w w' := by
  subst hn
  obtain ⟨i0, hi, hz0, hz1, hz2⟩ := info_parts infoInt1
  have hcell : ∀ j u, (xs.map (Value.int .i64))[j]? = some u → (w.alloc (.cells #[] 3)).cell? ((⟨b, off, none⟩ : Addr).add j) = some u := by
    intro j u h
    have hj : j < xs.length := by
      rcases Nat.lt_or_ge j xs.length with h1 | h1
      · exact h1
      · rw [List.getElem?_eq_none (by simpa using h1)] at h; cases h
    simp only [List.getElem?_map, List.getElem?_eq_getElem hj, Option.map_some, Option.some.injEq] at h
    rw [← h]
    rw [show (⟨b, off, none⟩ : Addr).add j = ⟨b, off + j, none⟩ by simp [Addr.add]]
    exact (bcell (below1 w _) hb).trans (hc j hj)
  have hone : ∀ u ∈ xs.map (Value.int .i64), u.oneCell' = true := by
    intro u hu
    rw [List.mem_map] at hu
    obtain ⟨i, _, rfl⟩ := hu
    rfl
  have qnil : ∀ (w : World) (a : Option Addr) (n c n' c' : Nat), (binOp .eql 22 (.slice a n c) (.slice none n' c')).run Try.prog w = .ok (.bool a.isNone) w := fun w a n c n' c' => Lib.run_eql_slice_nil w _ _ a n c n' c' Try.underlying22
  go_enter Try.func83, Try.ntmps83
  go_wp2_with (at_builtin; go_loud (refine wpList_append_own _ rfl _ _ 22 rfl w.heap.size 3 i0 (.int .i64 0) 1 8 Try.underlying22 hi hz0 hz1 hz2 rfl (by decide) _ 0 [] rfl (own_made1 (Nat.le_refl _) _ _ rfl) ⟨b, off, none⟩ xs.length c (xs.map (Value.int .i64)) rfl (by simp) hcell hone (by unfold maxLen; omega) (by omega) (by simp) ?_; intro v1 w6 hown6 hg6 _))
  have hown7 : w6.ownsRow w.heap.size 3 1 v1 xs.length (xs.map (Value.int .i64)) := by simpa using hown6
  obtain ⟨A, c', rfl, hO⟩ := own_oi hown7 rfl
  go_wp2_with fail
  go_ret
  exact ⟨A, c', rfl, hO, (below1 w _).grown hg6 (by simp) (fun k h => own_from (own_made1 (Nat.le_refl w.heap.size) 3 _ rfl) k h)⟩

set_option maxRecDepth 100000 in
set_option maxHeartbeats 2000000 in
theorem stateOf_anyV (g : Nat) (q f k : Int) (A : Option Addr) (n c : Nat) (S : Nat → Bool) (w : World) (hR : RP w g 75 q f k A n c S) (F : Nat → Nat → Int) (hn : n ≤ 4) (hk : 1 ≤ k) (hk4 : k ≤ 4) :
    Calls Try.prog 56 #[.pointer (some ⟨g, 0, none⟩), .agg (standC F)] w fun e w' => ∃ g2 Bk C, e = .returned (.slice (some ⟨g2, 0, none⟩) n n) ∧ Grid w' w.heap.size 22 3 (.slice (some ⟨g2, 0, none⟩) n n) n (fun _ => k.toNat) F Bk C ∧ Below w.heap.size w w' := by
  have hgw := hR.lt
  obtain ⟨i0, hi, hz0, hz1, hz2⟩ := info_parts infoSl1
  obtain ⟨K, hK⟩ : ∃ K, K = k.toNat := ⟨_, rfl⟩
  have hKk : (K : Int) = k := by omega
  have hK4 : K ≤ 4 := by omega
  have hK1 : 1 ≤ K := by omega
  rw [← hK]
  have HK := Lib.hid hK; have HKk := Lib.hid hKk
  subst hKk
  clear hK
  have c3 := hR.c3
  go_enter Try.func56, Try.ntmps56
  have R1 := hR.alloc (.cells (standC F) 78)
  have c3' := R1.c3
  go_wp2_with (at_make; refine wpList_make_full _ rfl _ _ 26 rfl (w.heap.size + 1) 22 i0 _ 1 Try.underlying26 hi hz0 hz1 _ _ _ _ n rfl rfl rfl rfl (by rw [hz2]; omega) (by unfold maxLen; omega) (by simp) ?_; intro w1 hown hgrow)
  have hm0 : GridN w1 (w.heap.size + 1) 22 3 (w.heap.size + 1) n 0 (fun _ => K) F (fun _ => 0) (fun _ => 0) := GridN.start (by have h := hown; simp only [World.size_alloc] at h; exact h)
  have hB0 : Below (w.heap.size + 1) (w.alloc (.cells (standC F) 78)) w1 := (Below.refl _ _).grown hgrow (by simp) (fun j h => by cases h)
  clear hown hgrow c3 c3' R1
  go_loopw [15] (fun i wr => ∃ (p : Nat) (Bk C : Nat → Nat), p ≤ n ∧ i = .int .i64 p ∧ Below (w.heap.size + 1) (w.alloc (.cells (standC F) 78)) wr ∧ GridN wr (w.heap.size + 1) 22 3 (w.heap.size + 1) n p (fun _ => K) F Bk C) (fun i _ => n - (intOf i).toNat)
  case atStart => exact ⟨0, fun _ => 0, fun _ => 0, Nat.zero_le _, rfl, hB0, hm0⟩
  case round =>
    clear hB0 hm0
    obtain ⟨p, Bk, C, hp, rfl, hB, hm⟩ := hrel
    have hbw := (below1 w (.cells (standC F) 78)).trans (hB.mono (by omega))
    by_cases hpn : p < n
    · have hp4 : p < 4 := by omega
      have hp4i : (p : Int) < 4 := by omega
      have Rr := hR.below hbw hgw
      have c2 := Rr.c2
      have Dr : DA wr w.heap.size 78 F := (hB.block _ (by omega)).trans (heap_alloc_at w _ _ rfl)
      obtain ⟨xs, hxs⟩ : ∃ xs : List Int, xs = (List.range K).map (F p) := ⟨_, rfl⟩
      have hxl : K = xs.length := by rw [hxs]; simp
      have hxg : ∀ j (h : j < xs.length), xs[j] = F p j := fun j h => by subst hxs; simp
      have hcx : ∀ j (h : j < xs.length), wr.drew.cell? ⟨w.heap.size, p * 4 + j, none⟩ = some (.int .i64 xs[j]) := fun j h => by rw [hxg j h]; exact Dr.at_ hp4 (by omega)
      have HXL := Lib.hid hxl; have HXG := Lib.hid hxg; have HCX := Lib.hid hcx
      have hx4 : xs.length ≤ 1048576 := by omega
      have hwz : w.heap.size < wr.heap.size := Dr.lt
      have hmz := hm.lt
      have hs1 : w.heap.size + 1 ≤ wr.heap.size := Nat.le_of_lt hmz
      have hKi : (K : Int) ≤ 4 := by omega
      clear hxs hxl hxg hcx
      go_wp2_with fail
      go_region_with (go_at_call 83; refine (cloneI_anyV w.heap.size (p * 4) 4 K xs wr.drew HXL.out hwz HCX.out hx4).mono ?_; rintro e w5 ⟨A5, c5, rfl, hO5, hx5⟩; obtain ⟨g5, rfl, hg5, hr5⟩ := hO5.get (k := 0) (by omega); have hx6 : Below wr.heap.size wr w5 := (Below.refl _ wr).drew.trans hx5; have hm5 := hm.below hx6; have hc1 := (hm5.cell hpn).1; have hc2 := (hm5.cell hpn).2)
      go_wp2_with fail
      go_roundw
      case rel =>
        have hg6 : wr.heap.size ≤ g5 := hg5
        have hst := hm5.step (c := c5) hpn hr5 (by omega) (by omega) (fun y hy => by have := (hm.2.1 y hy).2.2.lt; omega)
        simp only [ite_self] at hst
        refine ⟨p + 1, _, _, by omega, by go_num, (hB.trans (hx6.mono hs1)).setCell (by dsimp only; omega) _, hst.congr (fun y _ j hj => ?_)⟩
        by_cases e : y = p
        · subst e
          have hj2 : j < xs.length := by have := HXL.out; omega
          simp only [if_true]
          rw [List.getD_eq_getElem?_getD, List.getElem?_eq_getElem hj2]
          exact HXG.out j hj2
        · simp only [e, if_false]
      case measure => simp [intOf]; omega
    · obtain rfl : p = n := by omega
      go_wp2
      go_ret
      exact ⟨w.heap.size + 1, Bk, C, rfl, hm.grid.mono (by omega), hbw⟩

end Go.Proofs.Ytmhffdgfkgdmlaa

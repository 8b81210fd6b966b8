/-
  FirstThrows, the program's: firstFace.
-/
import Derived.Test.YtiekdokgjdgajaaC1m
import Derived.Test.YtiekdokgjdgajaaC1q
import Derived.Test.YtiekdokgjdgajaaM9
namespace Go.Proofs.Ytiekdokgjdgajaa
open Go.RowKit

set_option maxRecDepth 100000 in
set_option maxHeartbeats 800000 in
theorem firstFace_any (g : Nat) (s f o : Int) (x t face : Nat) (js : List (Int × Int)) (w : World) (hC : CV w g s f o (fun i => jumpOf js i)) (hgw : g < w.heap.size) (hgd : good ⟨s, f, o, js⟩ = true) (hx : okB s js x) (hF : FaceB s f o js x t face) :
    Calls Try.prog 85 #[.pointer (some ⟨g, 0, none⟩), .int .i64 x, .int .i64 t] w (fun e w' => e = .returned (.tuple #[.int .i64 face, .bool true]) ∧ Below w.heap.size w w') := by
  have hz := good_sizes hgd
  have hxs : (x : Int) ≤ s := hx.1
  have hx0 : (0 : Int) ≤ (x : Int) := by omega
  have HA := Lib.hid hgd; have HF := Lib.hid hF; have HX := Lib.hid hx; clear hgd hF hx
  go_enter Try.func85, Try.ntmps85
  go_wp2_with fail
  go_loopw [8, 9, 10] (fun i _ _ wr => ∃ k : Nat, k < face ∧ i = .int .i64 ((k : Int) + 1) ∧ Below w.heap.size w wr) (fun i _ _ _ => face + 1 - (intOf i).toNat)
  case atStart => exact ⟨0, by have := HF.out.1; omega, rfl, Below.refl _ _⟩
  case round =>
    obtain ⟨k, hk, rfl, hB⟩ := hrel
    have hCw : CV wr g s f o (fun i => jumpOf js i) := hC.below hB hgw
    have hBs := hB.size
    have cf := hCw.fa
    have hkf : k + 1 ≤ f.toNat := by have := HF.out.2.1; omega
    have h3 : (k : Int) + 1 ≤ f := by omega
    have hth := nxB_eq (o := o) HA.out hxs (show 1 ≤ k + 1 by omega)
    have hoky := okB_next (o := o) HA.out f.toNat x HX.out (k + 1) (by omega) hkf
    obtain ⟨y, hy⟩ : ∃ y, nxB s o js x (k + 1) = y := ⟨_, rfl⟩
    rw [hy] at hth hoky
    have hcast : (((k + 1 : Nat) : Int)) = (k : Int) + 1 := by omega
    rw [hcast] at hth
    have HTH := Lib.hid hth; have HY := Lib.hid hy
    have hask : asked s f o js y = true := by simp [asked, HA.out, on_of_okB hoky]
    clear hth hy hcast
    go_wp2_with (go_at_call 63; refine (behind_bel _ _ _ _ _ _ _ _ hCw hz.1.1 hz.1.2 hz.2.2.1.1 hz.2.2.1.2 hx0 hxs (good_end HA.out) HX.out.2 (by omega) (by omega)).mono ?_; rintro e w5 ⟨rfl, hx5, hs5⟩; rw [HTH.out])
    have hB5 := hB.trans (hx5.mono hBs)
    refine (fewest_any _ _ _ _ _ _ _ (hC.below hB5 hgw) (by omega) hask).mono ?_
    rintro e w6 ⟨n, ok, rfl, hr, hx6⟩
    have hB6 := hB5.trans (hx6.mono (by omega))
    have hd : DistB s f o js y t ↔ (ok = true ∧ n = (t : Int)) := by
      rcases hr with ⟨rfl, t', rfl, ht⟩ | ⟨rfl, rfl, hno⟩
      · constructor
        · intro h
          have := Least.uniq h ht
          exact ⟨rfl, by omega⟩
        · rintro ⟨_, h⟩
          obtain rfl : t' = t := by omega
          exact ht
      · exact ⟨fun h => absurd h.1 (hno _), fun h => by cases h.1⟩
    have hfa : face = k + 1 ↔ DistB s f o js y t := by
      rw [← HY.out]
      constructor
      · rintro h; rw [← h]; exact HF.out.2.2.1
      · intro h
        have : ¬ k + 1 < face := fun hl => HF.out.2.2.2 (k + 1) (by omega) hl h
        omega
    clear hr hx5 hx6 hB5 hask cf hCw
    by_cases hkk : face = k + 1
    · obtain ⟨rfl, rfl⟩ := hd.1 (hfa.1 hkk)
      have e1 : ((t : Int) == (t : Int)) = true := by simp
      have e2 : (face : Int) = (k : Int) + 1 := by omega
      have E2 := Lib.hid e2
      clear hd hfa e2 HF hkk
      go_wp2
      go_ret2
      rw [E2.out]
      exact ⟨rfl, hB6⟩
    · have hnd : ¬ (ok = true ∧ n = (t : Int)) := fun h => hkk (hfa.2 (hd.2 h))
      clear hd hfa
      cases ok
      · go_wp2
        go_roundw
        case rel => exact ⟨k + 1, by omega, by go_num, hB6⟩
        case measure => simp [intOf]; omega
      · have hne : (n == (t : Int)) = false := beq_eq_false_iff_ne.2 fun h => hnd ⟨rfl, h⟩
        go_wp2
        go_roundw
        case rel => exact ⟨k + 1, by omega, by go_num, hB6⟩
        case measure => simp [intOf]; omega
end Go.Proofs.Ytiekdokgjdgajaa

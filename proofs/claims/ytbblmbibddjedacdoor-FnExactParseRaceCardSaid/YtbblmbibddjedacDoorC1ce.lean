/-
  The program's BoardText.
-/
import Derived.Test.YtbblmbibddjedacDoorC1cc
import Derived.Test.YtbblmbibddjedacDoorC1cd
import Derived.Test.YtbblmbibddjedacDoorC1b
import Derived.Deep.RegionHeld3
namespace Go.Proofs.YtbblmbibddjedacDoor
open Go.RowKit

set_option maxHeartbeats 8000000 in
set_option maxRecDepth 100000 in
theorem implBoardText_good (s f o : Int) (A : Option Addr) (c : Nat) (js : List (Int × Int)) (w : World) (hj : RJ w w.heap.size A js) (ht : Tens w) (hg : good ⟨s, f, o, js⟩ = true) :
    Calls Tryd.prog 25 #[.agg #[.int .i64 s, .int .i64 f, .int .i64 o, .slice A js.length c]] w fun e w' => e = .returned (.tuple #[.string (txtB s f o js), .bool true]) ∧ Below w.heap.size w w' := by
  have hl := hj.1
  obtain ⟨hs, hf, ho, hjs⟩ := good_bounds hg
  have hle := fun j hj => (hjs j hj).2
  obtain ⟨s1, s2, s3, s4, a1, a2, a3, a4, hs4⟩ := head_adds Tryd.prog s f o hs.2 hf.2 ho.2
  rw [← txtB_nil] at hs4
  have HS4 := Lib.hid hs4; clear hs4
  have hw0 : Below w.heap.size w (w.alloc (.cells #[.int .i64 s, .int .i64 f, .int .i64 o, .slice A js.length c] 32)) := below1 _ _
  have Hs := Lib.hid hs; have Hf := Lib.hid hf; have Ho := Lib.hid ho; have Hg := Lib.hid hg; clear hs hf ho hg
  go_enter Tryd.func25, Tryd.ntmps25
  go_wp2_with fail
  refine (implIsBoard_any _ _ _ _ _ _ _ ((hj.below hw0).more (by simp))).mono ?_
  rintro e w1 ⟨rfl, hx⟩
  rw [Hg.out]
  have hb1 := box_on (Below.refl _ _) hx (by simp)
  have hb0 := hb1.drew
  have q1 := boxcells hb1
  have q := boxcells hb0
  go_wp2_with fail
  clear q1 hb1
  go_region_held3 (fun w' => Below (w.heap.size + 1) (w.alloc (.cells #[.int .i64 s, .int .i64 f, .int .i64 o, .slice A js.length c] 32)) w' ∧ (∀ i, w'.cell? ⟨w.heap.size, i, none⟩ = #[.int .i64 s, .int .i64 f, .int .i64 o, .slice A js.length c][i]?)) (go_keep)
    (first
      | (go_at_call 26; refine (itoa_on ht _ (by with_reducible first | exact Hs.out.1 | exact Hf.out.1 | exact Ho.out.1) (by with_reducible first | exact Hs.out.2 | exact Hf.out.2 | exact Ho.out.2) (by assumption)).mono ?_; rintro e w1 ⟨rfl, k1, k2⟩))
  go_wp2_with fail
  have hb1 := k1
  clear k1 k2 hb0 q
  go_loopw [4, 26] (fun r i wr => ∃ k : Nat, k ≤ js.length ∧ i = .int .i64 k ∧ r = .string (txtB s f o (js.take k)) ∧ Below (w.heap.size + 1) (w.alloc (.cells #[.int .i64 s, .int .i64 f, .int .i64 o, .slice A js.length c] 32)) wr) (fun _ i _ => js.length - (intOf i).toNat)
  case atStart => exact ⟨0, Nat.zero_le _, rfl, by rw [HS4.out]; rfl, hb1⟩
  case round =>
    clear hb1
    obtain ⟨k, hk, rfl, rfl, hb⟩ := hrel
    have hb' := hw0.trans (hb.mono (by omega))
    by_cases hlt : k < js.length
    · obtain ⟨b, off, rfl, hB, h1, h2⟩ := hj.at_ hb' hlt
      have hs := hb.size
      obtain ⟨t1, t2, t3, b1, b2, b3, b4⟩ := jump_adds Tryd.prog s f o js Hs.out.2 Hf.out.2 Ho.out.2 hle hl k hlt
      have HJ := Lib.hid (hjs js[k] (List.getElem_mem hlt))
      have ht' := ht.on hb'
      have hc0 : Below (wr.heap.size + 1) (wr.alloc (.cells #[.int .i64 js[k].1, .int .i64 js[k].2] 57)) (wr.alloc (.cells #[.int .i64 js[k].1, .int .i64 js[k].2] 57)).drew := (Below.refl _ _).drew
      have qc := boxcells hc0
      go_wp2_with fail
      go_region_held3 (fun w' => Below (wr.heap.size + 1) (wr.alloc (.cells #[.int .i64 js[k].1, .int .i64 js[k].2] 57)) w' ∧ (∀ i, w'.cell? ⟨wr.heap.size, i, none⟩ = #[.int .i64 js[k].1, .int .i64 js[k].2][i]?)) (go_keep)
        (first
          | (go_at_call 26; refine (itoa_on ht' _ (by with_reducible first | exact HJ.out.1.1 | exact HJ.out.1.2) (by with_reducible first | exact HJ.out.2.1 | exact HJ.out.2.2) (by assumption)).mono ?_; rintro e w1 ⟨rfl, k1, k2⟩))
      go_wp2_with fail
      go_roundw
      case rel => exact ⟨k + 1, by omega, by go_num, rfl, hb.trans (((below1 _ _).trans (k1.mono (by omega))).mono (by have := hb.size; simpa using this))⟩
      case measure => simp [intOf]; omega
    · go_wp2
      go_ret2
      exact ⟨by rw [List.take_of_length_le (by omega)]; rfl, hb'⟩

theorem implBoardText_any (s f o : Int) (A : Option Addr) (c : Nat) (js : List (Int × Int)) (w : World) (hj : RJ w w.heap.size A js) (ht : Tens w) :
    Calls Tryd.prog 25 #[.agg #[.int .i64 s, .int .i64 f, .int .i64 o, .slice A js.length c]] w fun e w' => e = .returned (.tuple #[.string (if good ⟨s, f, o, js⟩ then txtB s f o js else ⟨#[]⟩), .bool (good ⟨s, f, o, js⟩)]) ∧ Below w.heap.size w w' := by
  have hw0 : Below w.heap.size w (w.alloc (.cells #[.int .i64 s, .int .i64 f, .int .i64 o, .slice A js.length c] 32)) := below1 _ _
  cases hg : good ⟨s, f, o, js⟩
  · go_enter Tryd.func25, Tryd.ntmps25
    go_wp2_with (go_at_call 44; refine (implIsBoard_any _ _ _ _ _ _ _ ((hj.below hw0).more (by simp))).mono ?_; rintro e w1 ⟨rfl, hx⟩; rw [hg])
    go_ret2
    exact ⟨rfl, hw0.trans (hx.mono (by simp))⟩
  · exact implBoardText_good s f o A c js w hj ht hg
end Go.Proofs.YtbblmbibddjedacDoor

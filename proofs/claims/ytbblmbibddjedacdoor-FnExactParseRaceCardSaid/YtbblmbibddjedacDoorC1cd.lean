/-
  The model's text of a board: sqText, spec.BoardText.
-/
import Derived.Test.YtbblmbibddjedacDoorC1cb
import Derived.Test.YtbblmbibddjedacDoorC1a
import Derived.Deep.RegionHeld3
namespace Go.Proofs.YtbblmbibddjedacDoor
open Go.RowKit


/-- The numbers of a good board are small. -/
theorem good_bounds {s f o : Int} {js : List (Int × Int)} (h : good ⟨s, f, o, js⟩ = true) : (0 ≤ s ∧ s ≤ 999) ∧ (0 ≤ f ∧ f ≤ 999) ∧ (0 ≤ o ∧ o ≤ 999) ∧ ∀ j ∈ js, (0 ≤ j.1 ∧ 0 ≤ j.2) ∧ j.1 ≤ 999 ∧ j.2 ≤ 999 := by
  have hz := good_sizes h
  refine ⟨by omega, by omega, by omega, fun j hj => ?_⟩
  rw [good, Bool.and_eq_true, Bool.and_eq_true, jumpsOk_eq, Bool.and_eq_true] at h
  have := List.all_eq_true.1 h.1.2.1 j hj
  simp only [okJump, Bool.and_eq_true, inB_iff] at this
  omega

set_option maxHeartbeats 8000000 in
set_option maxRecDepth 100000 in
theorem sqText_any (s f o : Int) (A : Option Addr) (c : Nat) (js : List (Int × Int)) (w : World) (hj : RJ w w.heap.size A js) (hs : 0 ≤ s ∧ s ≤ 999) (hf : 0 ≤ f ∧ f ≤ 999) (ho : 0 ≤ o ∧ o ≤ 999) (hjs : ∀ j ∈ js, (0 ≤ j.1 ∧ 0 ≤ j.2) ∧ j.1 ≤ 999 ∧ j.2 ≤ 999) :
    Calls Tryd.prog 40 #[.agg #[.int .i64 s, .int .i64 f, .int .i64 o, .slice A js.length c]] w fun e w' => e = .returned (.string (txtB s f o js)) ∧ Below w.heap.size w w' := by
  have hl := hj.1
  have hle := fun j hj => (hjs j hj).2
  obtain ⟨s1, s2, s3, s4, a1, a2, a3, a4, hs4⟩ := head_adds Tryd.prog s f o hs.2 hf.2 ho.2
  rw [← txtB_nil] at hs4
  have HS4 := Lib.hid hs4; clear hs4
  have hw0 : Below w.heap.size w (w.alloc (.cells #[.int .i64 s, .int .i64 f, .int .i64 o, .slice A js.length c] 32)) := below1 _ _
  have hb0 : Below (w.heap.size + 1) (w.alloc (.cells #[.int .i64 s, .int .i64 f, .int .i64 o, .slice A js.length c] 32)) (w.alloc (.cells #[.int .i64 s, .int .i64 f, .int .i64 o, .slice A js.length c] 32)).drew := (Below.refl _ _).drew
  have q := boxcells hb0
  have Hs := Lib.hid hs; have Hf := Lib.hid hf; have Ho := Lib.hid ho; clear hs hf ho
  go_enter Tryd.func40, Tryd.ntmps40
  go_wp2_with fail
  go_region_held3 (fun w' => Below (w.heap.size + 1) (w.alloc (.cells #[.int .i64 s, .int .i64 f, .int .i64 o, .slice A js.length c] 32)) w' ∧ (∀ i, w'.cell? ⟨w.heap.size, i, none⟩ = #[.int .i64 s, .int .i64 f, .int .i64 o, .slice A js.length c][i]?)) (go_keep)
    (first
      | (go_at_call 41; refine (l1Num_on _ (by with_reducible first | exact Hs.out.1 | exact Hf.out.1 | exact Ho.out.1) (by with_reducible first | exact Hs.out.2 | exact Hf.out.2 | exact Ho.out.2) (by assumption)).mono ?_; rintro e w1 ⟨rfl, k1, k2⟩))
  go_wp2_with fail
  have hb1 := k1
  clear k1 k2 hb0 q
  go_loopw [3, 22] (fun r i wr => ∃ k : Nat, k ≤ js.length ∧ i = .int .i64 k ∧ r = .string (txtB s f o (js.take k)) ∧ Below (w.heap.size + 1) (w.alloc (.cells #[.int .i64 s, .int .i64 f, .int .i64 o, .slice A js.length c] 32)) wr) (fun _ i _ => js.length - (intOf i).toNat)
  case atStart => exact ⟨0, Nat.zero_le _, rfl, by rw [HS4.out]; rfl, hb1⟩
  case round =>
    clear hb1
    obtain ⟨k, hk, rfl, rfl, hb⟩ := hrel
    have hb' := hw0.trans (hb.mono (by omega))
    by_cases hlt : k < js.length
    · obtain ⟨b, off, rfl, hB, h1, h2⟩ := hj.at_ hb' hlt
      have hs := hb.size
      obtain ⟨t1, t2, t3, b1, b2, b3, b4⟩ := jump_adds Tryd.prog s f o js Hs.out.2 Hf.out.2 Ho.out.2 hle hl k hlt
      have HJ := Lib.hid (hjs js[k] (List.getElem_mem hlt))
      have hc0 : Below (wr.heap.size + 1) (wr.alloc (.cells #[.int .i64 js[k].1, .int .i64 js[k].2] 57)) (wr.alloc (.cells #[.int .i64 js[k].1, .int .i64 js[k].2] 57)).drew := (Below.refl _ _).drew
      have qc := boxcells hc0
      go_wp2_with fail
      go_region_held3 (fun w' => Below (wr.heap.size + 1) (wr.alloc (.cells #[.int .i64 js[k].1, .int .i64 js[k].2] 57)) w' ∧ (∀ i, w'.cell? ⟨wr.heap.size, i, none⟩ = #[.int .i64 js[k].1, .int .i64 js[k].2][i]?)) (go_keep)
        (first
          | (go_at_call 41; refine (l1Num_on _ (by with_reducible first | exact HJ.out.1.1 | exact HJ.out.1.2) (by with_reducible first | exact HJ.out.2.1 | exact HJ.out.2.2) (by assumption)).mono ?_; rintro e w1 ⟨rfl, k1, k2⟩))
      go_wp2_with fail
      go_roundw
      case rel => exact ⟨k + 1, by omega, by go_num, rfl, hb.trans (((below1 _ _).trans (k1.mono (by omega))).mono (by have := hb.size; simpa using this))⟩
      case measure => simp [intOf]; omega
    · go_wp2
      go_ret
      exact ⟨by rw [List.take_of_length_le (by omega)]; rfl, hb'⟩

end Go.Proofs.YtbblmbibddjedacDoor

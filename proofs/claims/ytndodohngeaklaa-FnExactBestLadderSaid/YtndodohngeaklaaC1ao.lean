/-
  BestLadder, the program's.
-/
import Derived.Test.YtndodohngeaklaaC1am
import Derived.Test.YtndodohngeaklaaC1an
import Derived.Test.YtndodohngeaklaaC1o
import Derived.Test.YtndodohngeaklaaC1ai
namespace Go.Proofs.Ytndodohngeaklaa
open Go.RowKit

/-- A jump, a number and a Bool are handed back: the best one. -/
def LadIs (w : World) (st : Option ((Int × Int) × Nat)) (e : Ending) (w' : World) : Prop :=
  e = .returned (.tuple #[.agg #[.int .i64 (stP st).1, .int .i64 (stP st).2], .int .i64 (stN st), .bool (stF st)]) ∧ Below w.heap.size w w'

set_option maxRecDepth 100000 in
theorem implBestLadder_no (s f o : Int) (A : Option Addr) (c : Nat) (js : List (Int × Int)) (w : World) (hj : RJ w w.heap.size A js) (hgd : good ⟨s, f, o, js⟩ = false) :
    Calls Try.prog 24 #[.agg #[.int .i64 s, .int .i64 f, .int .i64 o, .slice A js.length c]] w (LadIs w none) := by
  have hl := hj.1
  have hst := storeCourse 0 0 0 (fun _ => 0)
  have HG := Lib.hid hgd; clear hgd
  go_enter Try.func24, Try.ntmps24
  go_wp2_with fail
  refine (courseOf_no _ _ _ _ _ _ _ (hj.go (below2 _ _ _)) HG.out).mono ?_
  rintro e w2 ⟨rfl, hx⟩
  have hs2 := hx.size
  simp only [World.size_alloc] at hs2
  have kR := (hx.block (w.heap.size + 1) (by simp)).trans (heap_alloc_at _ _ _ (by simp))
  have hb := (below2 w _ _).trans (hx.mono (by simp; omega))
  have hx2 := below1 w2 (.cells (crsCells 0 0 0 (fun _ => 0)) 58)
  have qR := cell_at hx2 (by omega) kR
  have fR := free_at hx2 (by omega) kR
  go_wp2
  exact bodyPost_ret (v := .tuple #[.agg #[.int .i64 0, .int .i64 0], .int .i64 0, .bool false]) (by simp [results, Try.results24, go_sem, qR]) rfl ⟨rfl, by first | exact ((hb.alloc (by omega) _).setCell (by dsimp only; omega) _).setCell (by dsimp only; omega) _ | exact ((hb.setCell (by dsimp only; omega) _).setCell (by dsimp only; omega) _).alloc (by simp; omega) _⟩

theorem withG {s f o : Int} {js : List (Int × Int)} {a : Nat} {b : Int} (hg : good ⟨s, f, o, put js ((a : Int), b)⟩ = true) : (fun i : Nat => if i = a then b else jumpOf js (i : Int)) = fun i : Nat => jumpOf (put js ((a : Int), b)) (i : Int) := by
  funext i
  rw [jumpOf_put (good_upS hg)]
  by_cases h : i = a
  · subst h; simp
  · rw [if_neg h, if_neg (by omega)]
theorem asked_start {s f o : Int} {js : List (Int × Int)} (hg : good ⟨s, f, o, js⟩ = true) : asked s f o js ((0 : Nat) : Int) = true := by
  have hz := good_sizes hg
  have h0 : jumpOf js 0 = 0 := jumpOf_none js 0 fun j hj e => by have := good_ends hg hj; omega
  simp only [asked, hg, onSq, Bool.true_and, Bool.and_eq_true, inB_iff, beq_iff_eq]
  exact ⟨⟨by omega, by omega⟩, h0⟩

set_option maxRecDepth 100000 in
set_option maxHeartbeats 2000000 in
theorem implBestLadder_yes (s f o : Int) (A : Option Addr) (c : Nat) (js : List (Int × Int)) (V : Int × Int → Option Nat) (w : World) (hj : RJ w w.heap.size A js) (hgd : good ⟨s, f, o, js⟩ = true) (hV : ValOf s f o js V) :
    Calls Try.prog 24 #[.agg #[.int .i64 s, .int .i64 f, .int .i64 o, .slice A js.length c]] w (LadIs w (bst V (ladsL s f o js))) := by
  have hl := hj.1
  have hst := storeCourse s f o (fun i => jumpOf js i)
  have hz := good_sizes hgd
  have hll := ladsL_len (f := f) (o := o) (js := js) hz.1
  have HG := Lib.hid hgd; have HV := Lib.hid hV; clear hgd hV
  go_enter Try.func24, Try.ntmps24
  go_wp2_with fail
  refine (courseOf_yes _ _ _ _ _ _ _ (hj.go (below2 _ _ _)) HG.out).mono ?_
  rintro e w2 ⟨rfl, hx⟩
  have hs2 := hx.size
  simp only [World.size_alloc] at hs2
  obtain ⟨W, hW⟩ : ∃ W, W = (w2.alloc (.cells (crsCells s f o (fun i => jumpOf js i)) 58)).alloc (.cells #[.int .i64 0, .int .i64 0] 38) := ⟨_, rfl⟩
  have kB : W.heap[w.heap.size]? = some (.cells #[.int .i64 s, .int .i64 f, .int .i64 o, .slice A js.length c] 30 (0, 0)) := by rw [hW]; exact (Below.heap_alloc _ _ _ (by simp; omega)).trans ((Below.heap_alloc _ _ _ (by omega)).trans ((hx.block w.heap.size (by simp; omega)).trans ((Below.heap_alloc _ _ _ (by simp)).trans (heap_alloc_at _ _ _ rfl))))
  have kR : W.heap[w.heap.size + 1]? = some (.cells #[.int .i64 0, .int .i64 0] 38 (0, 0)) := by rw [hW]; exact (Below.heap_alloc _ _ _ (by simp; omega)).trans ((Below.heap_alloc _ _ _ (by omega)).trans ((hx.block (w.heap.size + 1) (by simp)).trans (heap_alloc_at _ _ _ (by simp))))
  have kC : CA W w2.heap.size s f o (fun i => jumpOf js i) := by rw [hW]; exact (Below.heap_alloc _ _ _ (by simp)).trans (heap_alloc_at _ _ _ rfl)
  have kJ : W.heap[w2.heap.size + 1]? = some (.cells #[.int .i64 0, .int .i64 0] 38 (0, 0)) := by rw [hW]; exact heap_alloc_at _ _ _ (by simp)
  have zW : W.heap.size = w2.heap.size + 2 := by rw [hW]; simp
  have D : Below w.heap.size w W := by rw [hW]; exact (((below2 w _ _).trans (hx.mono (by simp; omega))).alloc (by omega) _).alloc (by simp; omega) _
  have qB := fun i => cell_of_row W w.heap.size i _ _ _ kB
  rw [hW] at qB
  go_wp2_with fail
  rw [← hW]
  have HW := Lib.hid hW; clear hW qB hst
  refine (laddersToAdd_all _ _ _ _ _ _ _ (hj.later D D.size) HG.out).mono ?_
  rintro e w3 ⟨v, rfl, ho, hx3⟩
  obtain ⟨Lz, hLz⟩ : ∃ Lz, Lz = ladsL s f o js := ⟨_, rfl⟩
  have hmem : ∀ p ∈ Lz, good ⟨s, f, o, put js p⟩ = true ∧ 1 ≤ p.1 ∧ p.1 < s ∧ p.1 < p.2 ∧ p.2 ≤ s := fun p hp => ladsL_mem hz.1 (by rw [← hLz]; exact hp)
  have hwf : wfJ Lz := fun p hp => by have := hmem p hp; exact ⟨wfi_of (by omega) (by omega), wfi_of (by omega) (by omega)⟩
  rw [← hLz] at ho hll ⊢
  have HMEM := Lib.hid hmem; have HLZ := Lib.hid hLz; clear hmem hLz
  obtain ⟨A3, c3, rfl⟩ := own_sl ho
  have hR := (own_row ho rfl).lo (show w2.heap.size + 2 ≤ W.heap.size by omega)
  have hs3 := hx3.size
  have kC3 := hx3.block _ (by omega) |>.trans kC
  have kJ3 := hx3.block _ (by omega) |>.trans kJ
  have kR3 := hx3.block (w.heap.size + 1) (by omega) |>.trans kR
  have D3 := D.trans (hx3.mono D.size)
  clear ho hx3
  go_wp2_with fail
  go_loopw [8, 9, 27, 11, 12, 13, 14] (fun x y i _ _ _ _ wr => ∃ (k : Nat) (st : Option ((Int × Int) × Nat)), k ≤ Lz.length ∧ i = .int .i64 (k : Int) ∧ bst V (Lz.take k) = st ∧ x = .int .i64 (stN st) ∧ y = .bool (stF st) ∧ Below w.heap.size w wr ∧ wr.heap[w2.heap.size + 1]? = some (.cells #[.int .i64 (stP st).1, .int .i64 (stP st).2] 38 (0, 0)) ∧ wr.heap[w.heap.size + 1]? = some (.cells #[.int .i64 0, .int .i64 0] 38 (0, 0)) ∧ CA wr w2.heap.size s f o (fun i => jumpOf js i) ∧ OJ wr (w2.heap.size + 2) 38 A3 Lz.length (fun k => Lz.getD k (0, 0))) (fun _ _ i _ _ _ _ _ => Lz.length - (intOf i).toNat)
  case atStart => exact ⟨0, none, Nat.zero_le _, rfl, rfl, rfl, rfl, D3, kJ3, kR3, kC3, hR⟩
  case round =>
    clear D3 kJ3 kR3 kC3 hR
    obtain ⟨k, st, hk, rfl, hst, rfl, rfl, D, kJ, kR, kC, hR⟩ := hrel
    have HST := Lib.hid hst; clear hst
    have hDs := D.size
    have hJs := heap_lt kJ
    have hCs := kC.lt
    have hRs := heap_lt kR
    by_cases hlt : k < Lz.length
    · have h3 : (k : Int) < (Lz.length : Int) := by omega
      have hp := HMEM.out Lz[k] (List.getElem_mem hlt)
      obtain ⟨bb, off, rfl, hB, c1, c2⟩ := (hR.rj (by omega) hwf).at_ (Below.refl _ _) hlt
      obtain ⟨an, han⟩ := Int.eq_ofNat_of_zero_le (show 0 ≤ Lz[k].1 by omega)
      have hpe : Lz[k] = ((an : Int), Lz[k].2) := by rw [← han]
      obtain ⟨b, hbe⟩ : ∃ b, b = Lz[k].2 := ⟨_, rfl⟩
      rw [← hbe] at hpe c2
      rw [han] at c1
      have hsn : bst V (Lz.take (k + 1)) = better V st ((an : Int), b) := by rw [List.take_succ_eq_append_getElem hlt, bst_snoc, HST.out, hpe]
      rw [hpe] at hp
      have hgp := hp.1
      have han1 : an < 101 := by have := hp.2.2.1; dsimp only at this; omega
      have HSN := Lib.hid hsn; have HGP := Lib.hid hgp
      have hst2 := storeCourse s f o (fun i => jumpOf (put js ((an : Int), b)) i)
      have bj := below1 wr (.cells #[.int .i64 (an : Int), .int .i64 b] 38)
      have kC2 : CA (wr.alloc (.cells #[.int .i64 (an : Int), .int .i64 b] 38)) w2.heap.size s f o (fun i => jumpOf js i) := (Below.heap_alloc _ _ _ hCs).trans kC
      clear hsn hgp hp hpe hbe han
      go_wp2_with (refine wpList_load_row rfl 58 (.tmp 5) rfl w2.heap.size rfl _ _ _ _ kC2 Try.underlying58 rfl ?_ ?_; (rw [crs_size]; exact sizeCourse))
      refine (withJump_any s f o b (fun i => jumpOf js i) an han1 _).mono ?_
      rintro e w4 ⟨rfl, hx4⟩
      rw [withG HGP.out]
      have hs4 := hx4.size
      simp only [World.size_alloc] at hs4
      have b4 : Below wr.heap.size wr w4 := bj.trans (hx4.mono (by simp))
      have b5 := b4.alloc b4.size (.cells (crsCells s f o (fun i => jumpOf (put js ((an : Int), b)) i)) 58)
      have hCn : CA (w4.alloc (.cells (crsCells s f o (fun i => jumpOf (put js ((an : Int), b)) i)) 58)) w4.heap.size s f o (fun i => jumpOf (put js ((an : Int), b)) i) := heap_alloc_at _ _ _ rfl
      have bx4 := box_on (Below.refl _ _) hx4 (by simp)
      go_wp2_with fail
      refine (fewest_any _ s f o 0 (put js ((an : Int), b)) _ hCn.cv hCn.lt (asked_start HGP.out)).mono ?_
      rintro e w5 ⟨x, ok, rfl, hr, hx5⟩
      have b6 := b5.trans (hx5.mono b5.size)
      have bx6 := (bx4.alloc (by have := bx4.size; simpa using this) (.cells (crsCells s f o (fun i => jumpOf (put js ((an : Int), b)) i)) 58)).trans (hx5.mono (by have := bx4.size; simp at *; omega))
      have qb := boxcells bx6
      have D6 := D.trans (b6.mono D.size)
      have kJ6 := (b6.block _ hJs).trans kJ
      have kR6 := (b6.block _ hRs).trans kR
      have kC6 : CA w5 w2.heap.size s f o (fun i => jumpOf js i) := (b6.block _ hCs).trans kC
      have hR6 := hR.below b6 (Nat.le_refl _)
      have hv := HV.out ((an : Int), b)
      have HVV := Lib.hid hv
      clear hv hst2 kC2 hCn b4 b5 bx4 bx6 hx4 hx5 bj hR kJ kR kC D
      have qJ6 := fun i => cell_of_row w5 (w2.heap.size + 1) i _ _ _ kJ6
      have fJ6 := fun i => frozen_row (i := i) kJ6
      rcases hr with ⟨rfl, t, rfl, ht⟩ | ⟨rfl, rfl, hno⟩
      · have HT := Lib.hid (HVV.out.1 t ht); clear ht
        rcases st with _ | ⟨⟨p1, p2⟩, m⟩
        · dsimp only [stN, stF, stP] at qJ6 kJ6 ⊢
          go_wp2
          go_roundw
          case rel =>
            exact ⟨k + 1, some (((an : Int), b), t), by omega, by go_num, by rw [HSN.out]; exact better_first HT.out, rfl, rfl, (D6.setCell (by dsimp only; omega) _).setCell (by dsimp only; omega) _, (heap_set _ _ _ _ _ _ (heap_set _ _ _ _ _ _ kJ6)).trans rfl, (Below.heap_setCell _ _ _ _ (by dsimp only; omega)).trans ((Below.heap_setCell _ _ _ _ (by dsimp only; omega)).trans kR6), (Below.heap_setCell _ _ _ _ (by dsimp only; omega)).trans ((Below.heap_setCell _ _ _ _ (by dsimp only; omega)).trans kC6), (hR6.farlo (p := ⟨w2.heap.size + 1, 0, none⟩) (by dsimp only; omega) _).farlo (p := ⟨w2.heap.size + 1, 1, none⟩) (by dsimp only; omega) _⟩
          case measure => simp [intOf]; omega
        · dsimp only [stN, stF, stP] at qJ6 kJ6 ⊢
          by_cases hl2 : t < m
          · have g1 : (t : Int) < (m : Int) := by omega
            go_wp2
            go_roundw
            case rel =>
              exact ⟨k + 1, some (((an : Int), b), t), by omega, by go_num, by rw [HSN.out]; exact better_less HT.out hl2, rfl, rfl, (D6.setCell (by dsimp only; omega) _).setCell (by dsimp only; omega) _, (heap_set _ _ _ _ _ _ (heap_set _ _ _ _ _ _ kJ6)).trans rfl, (Below.heap_setCell _ _ _ _ (by dsimp only; omega)).trans ((Below.heap_setCell _ _ _ _ (by dsimp only; omega)).trans kR6), (Below.heap_setCell _ _ _ _ (by dsimp only; omega)).trans ((Below.heap_setCell _ _ _ _ (by dsimp only; omega)).trans kC6), (hR6.farlo (p := ⟨w2.heap.size + 1, 0, none⟩) (by dsimp only; omega) _).farlo (p := ⟨w2.heap.size + 1, 1, none⟩) (by dsimp only; omega) _⟩
            case measure => simp [intOf]; omega
          · have g1 : ¬ (t : Int) < (m : Int) := by omega
            go_wp2
            go_roundw
            case rel => exact ⟨k + 1, some ((p1, p2), m), by omega, by go_num, by rw [HSN.out]; exact better_not HT.out hl2, rfl, rfl, D6, kJ6, kR6, kC6, hR6⟩
            case measure => simp [intOf]; omega
      · have HT := Lib.hid (HVV.out.2 hno); clear hno
        go_wp2
        go_roundw
        case rel => exact ⟨k + 1, st, by omega, by go_num, by rw [HSN.out]; exact better_no HT.out st, rfl, rfl, D6, kJ6, kR6, kC6, hR6⟩
        case measure => simp [intOf]; omega
    · obtain rfl : k = Lz.length := by omega
      have h3 : ¬ (Lz.length : Int) < (Lz.length : Int) := by omega
      have HE := Lib.hid (show bst V Lz = st by have := HST.out; rwa [List.take_of_length_le (Nat.le_refl _)] at this)
      have qJ := fun i => cell_of_row wr (w2.heap.size + 1) i _ _ _ kJ
      have qR := fun i => cell_of_row wr (w.heap.size + 1) i _ _ _ kR
      have fR := fun i => frozen_row (i := i) kR
      go_wp2
      refine bodyPost_ret (v := .tuple #[.agg #[.int .i64 (stP st).1, .int .i64 (stP st).2], .int .i64 (stN st), .bool (stF st)]) (by simp [results, Try.results24, go_sem, qR]) rfl ?_
      rw [← HLZ.out, HE.out]
      exact ⟨rfl, (D.setCell (by dsimp only; omega) _).setCell (by dsimp only; omega) _⟩
end Go.Proofs.Ytndodohngeaklaa

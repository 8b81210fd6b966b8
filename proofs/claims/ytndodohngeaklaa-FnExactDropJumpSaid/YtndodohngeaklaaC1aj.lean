/-
  DropJump, the model's and the program's.
-/
import Derived.Test.YtndodohngeaklaaC1ai
namespace Go.Proofs.Ytndodohngeaklaa
open Go.RowKit

theorem dropR_wf {s f o x : Int} {js : List (Int × Int)} (h : wfJ js) : wfJ (dropR s f o js x).1.2.2.2 := by
  unfold dropR
  split
  · exact fun j hj => h j (List.mem_filter.1 hj).1
  · exact fun j hj => by simp [noBd] at hj
theorem any_take {js : List (Int × Int)} {x : Int} {k : Nat} (hk : k < js.length) (e : js[k].1 = x) : js.any (fun j => j.1 == x) = true :=
  List.any_eq_true.2 ⟨js[k], List.getElem_mem hk, by simpa using e⟩

set_option maxRecDepth 100000 in
set_option maxHeartbeats 1000000 in
theorem implDropJump_any (s f o x : Int) (A : Option Addr) (c : Nat) (js : List (Int × Int)) (w : World) (hj : RJ w w.heap.size A js) :
    Calls Try.prog 20 #[.agg #[.int .i64 s, .int .i64 f, .int .i64 o, .slice A js.length c], .int .i64 x] w (BdBack w.heap.size w (dropR s f o js x)) := by
  have hl := hj.1
  obtain ⟨W0, hW0⟩ : ∃ W0, W0 = ((w.alloc (.cells #[.int .i64 s, .int .i64 f, .int .i64 o, .slice A js.length c] 30)).alloc (.cells #[.int .i64 x] 3)).alloc (.cells #[.int .i64 0, .int .i64 0, .int .i64 0, .slice none 0 0] 30) := ⟨_, rfl⟩
  have z0 : W0.heap.size = w.heap.size + 3 := by rw [hW0]; simp
  have h0 : Below w.heap.size w W0 := by rw [hW0]; exact below3 _ _ _ _
  have k1 : W0.heap[w.heap.size]? = some (.cells #[.int .i64 s, .int .i64 f, .int .i64 o, .slice A js.length c] 30 (0, 0)) := by rw [hW0]; exact (Below.heap_alloc _ _ _ (by simp; omega)).trans ((Below.heap_alloc _ _ _ (by simp)).trans (heap_alloc_at _ _ _ rfl))
  have k2 : W0.heap[w.heap.size + 1]? = some (.cells #[.int .i64 x] 3 (0, 0)) := by rw [hW0]; exact (Below.heap_alloc _ _ _ (by simp)).trans (heap_alloc_at _ _ _ (by simp))
  have k3 : W0.heap[w.heap.size + 1 + 1]? = some (.cells #[.int .i64 0, .int .i64 0, .int .i64 0, .slice none 0 0] 30 (0, 0)) := by rw [hW0]; exact heap_alloc_at _ _ _ (by simp)
  cases hg : good ⟨s, f, o, js⟩
  · have ht : dropR s f o js x = noBd := by rw [dropR, hg, Bool.false_and]; rfl
    rw [ht]
    have HG := Lib.hid hg; clear hg ht
    go_enter Try.func20, Try.ntmps20
    go_wp2_with fail
    rw [← hW0]
    refine (implIsBoard_any _ _ _ _ _ _ _ (hj.later h0 h0.size)).mono ?_
    rintro e w1 ⟨rfl, hx⟩
    rw [HG.out]
    rw [z0] at hx
    have q3 := cell_at hx (by omega) k3
    have f3 := free_at hx (by omega) k3
    have hb1 := h0.trans (hx.mono (by omega))
    clear hW0
    go_wp2
    exact bodyPost_ret (v := .tuple #[.agg #[.int .i64 0, .int .i64 0, .int .i64 0, .slice none 0 0], .bool false]) (by simp [results, Try.results20, go_sem, q3]) rfl
      ⟨none, 0, rfl, .inl rfl, (((hb1.setCell (by dsimp only; omega) _).setCell (by dsimp only; omega) _).setCell (by dsimp only; omega) _).setCell (by dsimp only; omega) _⟩
  · have hz := good_sizes hg
    obtain ⟨⟨⟨r1, r2, r3, rl⟩, rb⟩, hR⟩ : ∃ R, R = dropR s f o js x := ⟨_, rfl⟩
    rw [← hR]
    obtain ⟨n, hn⟩ : ∃ n, (js.filter (notFrom x)).length = n := ⟨_, rfl⟩
    have hn1 : n ≤ js.length := by rw [← hn]; exact List.length_filter_le _ _
    have hall := filter_all_len js x
    rw [hn] at hall
    have hwf : wfJ (js.filter (notFrom x)) := fun j hjm => hj.2.1 j (List.mem_filter.1 hjm).1
    have HG := Lib.hid hg; have HR := Lib.hid hR; have HN := Lib.hid hn; have HALL := Lib.hid hall; clear hg hR hn hall
    go_enter Try.func20, Try.ntmps20
    go_wp2_with fail
    rw [← hW0]
    refine (implIsBoard_any _ _ _ _ _ _ _ (hj.later h0 h0.size)).mono ?_
    rintro e w1 ⟨rfl, hx⟩
    rw [HG.out]
    rw [z0] at hx
    have q1 := cell_at hx (by omega) k1
    have q2 := cell_at hx (by omega) k2
    have hb1 := h0.trans (hx.mono (by omega))
    have hs1 := hx.size
    have HW := Lib.hid hW0
    clear hW0
    go_wp2_with fail
    refine (thatNot_any s f o A c js x (w.heap.size + 1) w1 (hj.later hb1 hb1.size) (q2 0)).mono ?_
    rintro e w2 ⟨v, rfl, ho, hx2⟩
    rw [HN.out] at ho
    obtain ⟨A2, c2, rfl⟩ := own_sl ho
    have hs2 := hx2.size
    have hx02 : Below (w.heap.size + 3) W0 w2 := hx.trans (hx2.mono (by omega))
    have q1 := cell_at hx02 (by omega) k1
    have q3 := cell_at hx02 (by omega) k3
    have f3 := free_at hx02 (by omega) k3
    have hb2 := h0.trans (hx02.mono (by omega))
    by_cases hne : n = js.length
    · have HNE := Lib.hid hne
      have hRe : ((r1, r2, r3, rl), rb) = noBd := by
        rw [HR.out, dropR, HALL.out.1 HNE.out, Bool.and_false]; rfl
      have HRE := Lib.hid hRe; clear hRe
      have hg1 : ((n : Int) == (js.length : Int)) = true := by rw [beq_iff_eq]; omega
      clear hne
      go_wp2
      exact bodyPost_ret (v := .tuple #[.agg #[.int .i64 0, .int .i64 0, .int .i64 0, .slice none 0 0], .bool false]) (by simp [results, Try.results20, go_sem, q3]) rfl
        (by rw [HRE.out]; exact ⟨none, 0, rfl, .inl rfl, (((hb2.setCell (by dsimp only; omega) _).setCell (by dsimp only; omega) _).setCell (by dsimp only; omega) _).setCell (by dsimp only; omega) _⟩)
    · have hany : js.any (fun j => j.1 == x) = true := by
        cases h : js.any (fun j => j.1 == x)
        · exact absurd (HALL.out.2 h) hne
        · rfl
      have HANY := Lib.hid hany; clear hany
      have hg1 : ((n : Int) == (js.length : Int)) = false := by rw [beq_eq_false_iff_ne]; omega
      clear q3 f3
      go_wp2_with fail
      refine (withJumps_any s f o A A2 js.length c c2 w1.heap.size n (js.filter (notFrom x)) HN.out _ ((own_row ho HN.out).lo (by omega)) (by omega) hwf hx2.size).mono ?_
      rintro e w5 ⟨L', hp, hu, hback⟩
      rw [dropR_sorted HG.out HANY.out hp hu, ← HR.out] at hback
      obtain ⟨A5, c5, rfl, ho5, hx5⟩ := hback
      dsimp only at ho5
      have hb5 : Below (w.heap.size + 3) W0 w5 := hx02.trans (hx5.mono (by omega))
      have q3 := cell_at hb5 (by omega) k3
      have f3 := free_at hb5 (by omega) k3
      have hb6 := h0.trans (hb5.mono (show w.heap.size ≤ w.heap.size + 3 by omega))
      go_wp2_with fail
      refine bodyPost_ret (v := .tuple #[.agg #[.int .i64 r1, .int .i64 r2, .int .i64 r3, .slice A5 rl.length c5], .bool rb]) (by simp [results, Try.results20, go_sem, q3]) rfl ?_
      exact ⟨A5, c5, rfl, ((((ho5.farlo (p := ⟨w.heap.size + 1 + 1, 0, none⟩) (by dsimp only; omega) (.int .i64 r1)).farlo (p := ⟨w.heap.size + 1 + 1, 1, none⟩) (by dsimp only; omega) (.int .i64 r2)).farlo (p := ⟨w.heap.size + 1 + 1, 2, none⟩) (by dsimp only; omega) (.int .i64 r3)).farlo (p := ⟨w.heap.size + 1 + 1, 3, none⟩) (by dsimp only; omega) (.slice A5 rl.length c5)).lo (by omega), (((hb6.setCell (by dsimp only; omega) _).setCell (by dsimp only; omega) _).setCell (by dsimp only; omega) _).setCell (by dsimp only; omega) _⟩

theorem drop_flat {js : List (Int × Int)} (hu : js.Pairwise UpS) {k : Nat} (hk : k < js.length) (x : Int) (e : js[k].1 = x) : [] ++ flatJ (js.take k) ++ flatJ (js.drop (k + 1)) = flatJ (js.filter (notFrom x)) := by
  rw [← drop_first hu hk x e, flatJ_app]; rfl
theorem drop_len {js : List (Int × Int)} (hu : js.Pairwise UpS) {k : Nat} (hk : k < js.length) (x : Int) (e : js[k].1 = x) : (js.filter (notFrom x)).length = 0 + k + (js.length - (k + 1)) := by
  rw [← drop_first hu hk x e, List.length_append, List.length_take, List.length_drop]; omega

set_option maxRecDepth 100000 in
set_option maxHeartbeats 1000000 in
theorem specDropJump_some (s f o x : Int) (bb off c : Nat) (js : List (Int × Int)) (w : World) (hj : RJ w w.heap.size (some ⟨bb, off, none⟩) js) (hc : js.length ≤ c) :
    Calls Try.prog 19 #[.agg #[.int .i64 s, .int .i64 f, .int .i64 o, .slice (some ⟨bb, off, none⟩) js.length c], .int .i64 x] w (BdBack w.heap.size w (dropR s f o js x)) := by
  have hl := hj.1
  obtain ⟨ti, hi, hz0, hz1, hz2⟩ := info_parts infoJumpW
  obtain ⟨W0, hW0⟩ : ∃ W0, W0 = (w.alloc (.cells #[.int .i64 s, .int .i64 f, .int .i64 o, .slice (some ⟨bb, off, none⟩) js.length c] 30)).alloc (.cells #[.int .i64 0, .int .i64 0, .int .i64 0, .slice none 0 0] 30) := ⟨_, rfl⟩
  have z0 : W0.heap.size = w.heap.size + 2 := by rw [hW0]; simp
  have h0 : Below w.heap.size w W0 := by rw [hW0]; exact below2 _ _ _
  have k1 : W0.heap[w.heap.size]? = some (.cells #[.int .i64 s, .int .i64 f, .int .i64 o, .slice (some ⟨bb, off, none⟩) js.length c] 30 (0, 0)) := by rw [hW0]; exact (Below.heap_alloc _ _ _ (by simp)).trans (heap_alloc_at _ _ _ rfl)
  have k3 : W0.heap[w.heap.size + 1]? = some (.cells #[.int .i64 0, .int .i64 0, .int .i64 0, .slice none 0 0] 30 (0, 0)) := by rw [hW0]; exact heap_alloc_at _ _ _ (by simp)
  cases hg : good ⟨s, f, o, js⟩
  · have ht : dropR s f o js x = noBd := by rw [dropR, hg, Bool.false_and]; rfl
    rw [ht]
    have HG := Lib.hid hg; clear hg ht
    go_enter Try.func19, Try.ntmps19
    go_wp2_with fail
    rw [← hW0]
    refine (sqGood_any _ _ _ _ _ _ _ (hj.later h0 h0.size)).mono ?_
    rintro e w1 ⟨rfl, hx⟩
    rw [HG.out]
    rw [z0] at hx
    have q3 := cell_at hx (by omega) k3
    have f3 := free_at hx (by omega) k3
    have hb1 := h0.trans (hx.mono (by omega))
    clear hW0
    go_wp2
    exact bodyPost_ret (v := .tuple #[.agg #[.int .i64 0, .int .i64 0, .int .i64 0, .slice none 0 0], .bool false]) (by simp [results, Try.results19, go_sem, q3]) rfl
      ⟨none, 0, rfl, .inl rfl, (((hb1.setCell (by dsimp only; omega) _).setCell (by dsimp only; omega) _).setCell (by dsimp only; omega) _).setCell (by dsimp only; omega) _⟩
  · have hz := good_sizes hg
    have hu := good_upS hg
    obtain ⟨⟨⟨r1, r2, r3, rl⟩, rb⟩, hR⟩ : ∃ R, R = dropR s f o js x := ⟨_, rfl⟩
    rw [← hR]
    have HG := Lib.hid hg; have HR := Lib.hid hR; have HU := Lib.hid hu; clear hg hR hu
    have hcl : ∀ w', Below (w.heap.size + 2) W0 w' → ∀ k (h : k < js.length), bb < w.heap.size ∧ w'.cell? ⟨bb, off + k * 2, none⟩ = some (.int .i64 js[k].1) ∧ w'.cell? ⟨bb, off + k * 2 + 1, none⟩ = some (.int .i64 js[k].2) := by
      intro w' hb k hk
      rcases hj.2.2 with rfl | ⟨b', off', e', hbw, hcell⟩
      · simp at hk
      · injection e' with e'; injection e' with e1 e2 _; subst e1; subst e2
        exact ⟨hbw, (bcell hb (by omega)).trans ((bcell h0 hbw).trans (hcell k hk).1), (bcell hb (by omega)).trans ((bcell h0 hbw).trans (hcell k hk).2)⟩
    have HCL := Lib.hid hcl; clear hcl
    go_enter Try.func19, Try.ntmps19
    go_wp2_with fail
    rw [← hW0]
    refine (sqGood_any _ _ _ _ _ _ _ (hj.later h0 h0.size)).mono ?_
    rintro e w1 ⟨rfl, hx⟩
    rw [HG.out]
    rw [z0] at hx
    have q1 := cell_at hx (by omega) k1
    have HW := Lib.hid hW0
    clear hW0
    go_wp2_with fail
    go_loopw [16, 6, 7] (fun i _ _ wr => ∃ k : Nat, k ≤ js.length ∧ i = .int .i64 (k : Int) ∧ Below (w.heap.size + 2) W0 wr ∧ js.any (fun j => j.1 == x) = (js.drop k).any (fun j => j.1 == x)) (fun i _ _ _ => js.length - (intOf i).toNat)
    case atStart => exact ⟨0, Nat.zero_le _, rfl, hx, rfl⟩
    case round =>
      clear hx q1
      obtain ⟨k, hk, rfl, hb, hany⟩ := hrel
      have HANY := Lib.hid hany; clear hany
      have hs := hb.size
      by_cases hlt : k < js.length
      · obtain ⟨hbw, c1, c2⟩ := HCL.out wr hb k hlt
        have h3 : (k : Int) < (js.length : Int) := by omega
        cases hex : (js[k].1 == x)
        · have HEX := Lib.hid hex
          go_wp2
          go_roundw
          case rel => exact ⟨k + 1, by omega, by go_num, hb.alloc (by omega) _, by rw [HANY.out, any_drop js x k hlt, HEX.out, Bool.false_or]⟩
          case measure => simp [intOf]; omega
        · have hex2 : js[k].1 = x := by simpa using hex
          have HEX := Lib.hid hex2; clear hex2
          have hRe : ((r1, r2, r3, rl), rb) = ((s, f, o, js.filter (notFrom x)), true) := by rw [HR.out, dropR, HG.out, any_take hlt HEX.out]; rfl
          obtain ⟨hb0, hb0e⟩ : ∃ h : Below (w.heap.size + 2) W0 (wr.alloc (.cells #[.int .i64 js[k].1, .int .i64 js[k].2] 38)), h = hb.alloc (by omega) _ := ⟨_, rfl⟩
          have HRE := Lib.hid hRe; clear hRe hb0e
          have hnn := Lib.hid (drop_len HU.out hlt x HEX.out)
          have pz1 : (0 : Int) ≤ (k : Int) := by omega
          have pz2 : (k : Int) ≤ (c : Int) := by omega
          have pz3 : (k : Int) + 1 ≤ (js.length : Int) := by omega
          have pz4 : (0 : Int) ≤ (k : Int) + 1 := by omega
          have pz5 : IntKind.i64.wrap ((k : Int) + 1) = (k : Int) + 1 := IntWalk.i64_in _ (by omega)
          have pz6 : ((k : Int) + 1).toNat = k + 1 := by omega
          have pz7 : (k : Int) + 1 ≤ (c : Int) := by omega
          have hSo : ∀ w', Below (w.heap.size + 2) W0 w' → (Below (w.heap.size + 2) W0 w' ∧ (∀ i, w'.cell? ⟨w.heap.size, i, none⟩ = #[.int .i64 s, .int .i64 f, .int .i64 o, .slice (some ⟨bb, off, none⟩) js.length c][i]?)) := fun w' h => ⟨h, cell_at h (by omega) k1⟩
          have HSO := Lib.hid hSo; clear hSo
          go_wp2_with fail
          refine wp_region_held_drew (S := (fun w' => Below (w.heap.size + 2) W0 w' ∧ (∀ i, w'.cell? ⟨w.heap.size, i, none⟩ = #[.int .i64 s, .int .i64 f, .int .i64 o, .slice (some ⟨bb, off, none⟩) js.length c][i]?))) (by kernel_rfl) (HSO.out _ hb0.drew) (fun hS => ?_)
          refine wpAnyH_take (i := 1) (oi := ⟨some 26, _, _, _, _, _⟩) (v := ?va1) rfl (by kernel_rfl) (by kernel_rfl) (by kernel_rfl) (fun _ _ _ h => h) (Or.inl ⟨by rfl, ?ha1⟩) hS ?ra1
          case ha1 => (intro w' hSw; (try dsimp only at hSw); go_simp; (try with_reducible rfl))
          try simp only [Act.put, List.setIfInBounds_toArray, List.set_cons_zero, List.set_cons_succ]
          refine wpAnyH_take (i := 2) (oi := ⟨some 27, _, _, _, _, _⟩) (v := ?va2) rfl (by kernel_rfl) (by kernel_rfl) (by kernel_rfl) (fun _ _ _ h => h) (Or.inl ⟨by rfl, ?ha2⟩) hS ?ra2
          case ha2 => (intro w' hSw; (try dsimp only at hSw); go_simp; (try with_reducible rfl))
          try simp only [Act.put, List.setIfInBounds_toArray, List.set_cons_zero, List.set_cons_succ]
          refine wpAnyH_take (i := 3) (oi := ⟨some 28, _, _, _, _, _⟩) (v := ?va3) rfl (by kernel_rfl) (by kernel_rfl) (by kernel_rfl) (fun _ _ _ h => h) (Or.inl ⟨by rfl, ?ha3⟩) hS ?ra3
          case ha3 => (intro w' hSw; (try dsimp only at hSw); go_simp; (try with_reducible rfl))
          try simp only [Act.put, List.setIfInBounds_toArray, List.set_cons_zero, List.set_cons_succ]
          refine wpAnyH_take (i := 4) (oi := ⟨some 29, _, _, _, _, _⟩) (v := ?va4) rfl (by kernel_rfl) (by kernel_rfl) (by kernel_rfl) (fun _ _ _ h => h) (Or.inl ⟨by rfl, ?ha4⟩) hS ?ra4
          case ha4 => (intro w' hSw; (try dsimp only at hSw); go_simp; (try with_reducible rfl))
          try simp only [Act.put, List.setIfInBounds_toArray, List.set_cons_zero, List.set_cons_succ]
          refine wpAnyH_take (i := 6) (oi := ⟨some 31, _, _, _, _, _⟩) (v := ?va5) rfl (by kernel_rfl) (by kernel_rfl) (by kernel_rfl) (fun _ _ _ h => h) (Or.inl ⟨by rfl, ?ha5⟩) hS ?ra5
          case ha5 => (intro w' hSw; (try dsimp only at hSw); go_simp; (try with_reducible rfl))
          try simp only [Act.put, List.setIfInBounds_toArray, List.set_cons_zero, List.set_cons_succ]
          refine wpAnyH_take (i := 7) (oi := ⟨some 32, _, _, _, _, _⟩) (v := ?va6) rfl (by kernel_rfl) (by kernel_rfl) (by kernel_rfl) (fun _ _ _ h => h) (Or.inl ⟨by rfl, ?ha6⟩) hS ?ra6
          case ha6 => (intro w' hSw; (try dsimp only at hSw); go_simp; (try with_reducible rfl))
          try simp only [Act.put, List.setIfInBounds_toArray, List.set_cons_zero, List.set_cons_succ]
          refine wpAnyH_take (i := 8) (oi := ⟨some 33, _, _, _, _, _⟩) (v := ?va7) rfl (by kernel_rfl) (by kernel_rfl) (by kernel_rfl) (fun _ _ _ h => h) (Or.inl ⟨by rfl, ?ha7⟩) hS ?ra7
          case ha7 => (intro w' hSw; (try dsimp only at hSw); go_simp; (try with_reducible rfl))
          try simp only [Act.put, List.setIfInBounds_toArray, List.set_cons_zero, List.set_cons_succ]
          refine wpAnyH_take (i := 9) (oi := ⟨some 34, _, _, _, _, _⟩) (v := ?va8) rfl (by kernel_rfl) (by kernel_rfl) (by kernel_rfl) (fun _ _ _ h => h) (Or.inl ⟨by rfl, ?ha8⟩) hS ?ra8
          case ha8 => (intro w' hSw; (try dsimp only at hSw); go_simp; (try with_reducible rfl))
          try simp only [Act.put, List.setIfInBounds_toArray, List.set_cons_zero, List.set_cons_succ]
          refine wpAnyH_take (i := 10) (oi := ⟨some 35, _, _, _, _, _⟩) (v := ?va9) rfl (by kernel_rfl) (by kernel_rfl) (by kernel_rfl) (fun _ _ _ h => h) (Or.inl ⟨by rfl, ?ha9⟩) hS ?ra9
          case ha9 => (intro w' hSw; (try dsimp only at hSw); go_simp; (try with_reducible rfl))
          try simp only [Act.put, List.setIfInBounds_toArray, List.set_cons_zero, List.set_cons_succ]
          refine wpAnyH_ready (rs := [0]) (by kernel_rfl) (by simp) ?_
          refine AllReadyH.cons (o := ⟨some 25, _, _, _, _, _⟩) rfl (fun K' hK' => ?_) AllReadyH.nil
          go_simp
          have hb1 := hb0.drew.alloc (Nat.le_trans (Nat.le_of_eq z0.symm) hb0.drew.size) (.cells #[] 38)
          have o25 := own_made0 hb0.drew (Nat.le_trans (Nat.le_of_eq z0.symm) hb0.drew.size) 38
          refine hK'.out _ _ (HSO.out _ hb1) (fun _ => ?_)
          clear hK' K'
          try simp only [Act.put, List.setIfInBounds_toArray, List.set_cons_zero, List.set_cons_succ]
          refine wpAnyH_ready (rs := [5]) (by kernel_rfl) (by simp) ?_
          refine AllReadyH.cons (o := ⟨some 30, _, _, _, _, _⟩) rfl (fun K' hK' => ?_) AllReadyH.nil
          rw [if_pos (wanted_plain rfl)]
          refine wp_append_own _ _ _ 28 rfl (w.heap.size + 2) 38 ti (.agg #[.int .i64 0, .int .i64 0]) 2 16 Try.underlying28 hi hz0 hz1 hz2 rfl (by decide) _ _ _ rfl (o25 _ (by simp)) ⟨bb, off, none⟩ k c (flatJ (js.take k)) rfl (by rw [flatJ_len, List.length_take]; omega) (jumps_front (fun k h => (HCL.out _ hb1 k h).2) k) (flat_one _) (by unfold maxLen; omega) (by omega) (Nat.le_trans (Nat.le_of_eq z0.symm) hb1.size) ?_
          intro v30 w30 o30 hg30 _
          have hb2 := hb1.grown hg30 (Nat.le_trans (Nat.le_of_eq z0.symm) hb1.size) (fun g hg => own_from (o25 _ (by simp)) g hg)
          refine hK'.out _ _ (HSO.out _ hb2) (fun _ => ?_)
          clear hK' K'
          try simp only [Act.put, List.setIfInBounds_toArray, List.set_cons_zero, List.set_cons_succ]
          refine wpAnyH_ready (rs := [11]) (by kernel_rfl) (by simp) ?_
          refine AllReadyH.cons (o := ⟨some 36, _, _, _, _, _⟩) rfl (fun K' hK' => ?_) AllReadyH.nil
          rw [if_pos (wanted_plain rfl)]
          refine wp_append_own _ _ _ 28 rfl (w.heap.size + 2) 38 ti (.agg #[.int .i64 0, .int .i64 0]) 2 16 Try.underlying28 hi hz0 hz1 hz2 rfl (by decide) _ _ _ rfl o30 ⟨bb, if c = k + 1 then off else off + (k + 1) * 2, none⟩ (js.length - (k + 1)) (c - (k + 1)) (flatJ (js.drop (k + 1))) (slice_ite c (k + 1) bb off (off + (k + 1) * 2) (js.length - (k + 1)) (c - (k + 1))) (by rw [flatJ_len, List.length_drop]) (jumps_behind (fun k h => (HCL.out _ hb2 k h).2) (k + 1) c (by omega) hc) (flat_one _) (by unfold maxLen; omega) (by omega) (Nat.le_trans (Nat.le_of_eq z0.symm) hb2.size) ?_
          intro v36 w36 o36 hg36 _
          have hb3 := hb2.grown hg36 (Nat.le_trans (Nat.le_of_eq z0.symm) hb2.size) (fun g hg => own_from o30 g hg)
          rw [drop_flat HU.out hlt x HEX.out, ← hnn.out] at o36
          obtain ⟨A36, c36, rfl⟩ := own_sl o36
          refine hK'.out _ _ (HSO.out _ hb3) (fun _ => ?_)
          clear hK' K'
          try simp only [Act.put, List.setIfInBounds_toArray, List.set_cons_zero, List.set_cons_succ]
          refine wpAnyH_ready (rs := [12]) (by kernel_rfl) (by simp) ?_
          refine AllReadyH.cons (o := ⟨some 8, _, _, _, _, _⟩) rfl (fun K' hK' => ?_) AllReadyH.nil
          go_simp
          refine hK'.out _ _ (HSO.out _ hb3) (fun _ => ?_)
          clear hK' K'
          try simp only [Act.put, List.setIfInBounds_toArray, List.set_cons_zero, List.set_cons_succ]
          refine wpAnyH_done (by kernel_rfl) ?_ _
          have q1 := cell_at hb3 (by omega) k1
          have q3 := cell_at hb3 (by omega) k3
          have f3 := free_at hb3 (by omega) k3
          have hb4 := h0.trans (hb3.mono (by omega))
          have hO := (own_row o36 rfl)
          go_wp2_with fail
          all_goals
            refine bodyPost_ret (v := .tuple #[.agg #[.int .i64 s, .int .i64 f, .int .i64 o, .slice A36 (js.filter (notFrom x)).length c36], .bool true]) (by simp [results, Try.results19, go_sem, q3]) rfl ?_
            rw [HRE.out]
            exact ⟨A36, c36, rfl, ((((hO.farlo (p := ⟨w.heap.size + 1, 0, none⟩) (by dsimp only; omega) (.int .i64 s)).farlo (p := ⟨w.heap.size + 1, 1, none⟩) (by dsimp only; omega) (.int .i64 f)).farlo (p := ⟨w.heap.size + 1, 2, none⟩) (by dsimp only; omega) (.int .i64 o)).farlo (p := ⟨w.heap.size + 1, 3, none⟩) (by dsimp only; omega) (.slice A36 (js.filter (notFrom x)).length c36)).lo (by omega), (((hb4.setCell (by dsimp only; omega) _).setCell (by dsimp only; omega) _).setCell (by dsimp only; omega) _).setCell (by dsimp only; omega) _⟩
      · have h3 : ¬ (k : Int) < (js.length : Int) := by omega
        have hRe : ((r1, r2, r3, rl), rb) = noBd := by
          rw [HR.out, dropR, HANY.out, List.drop_eq_nil_of_le (by omega), List.any_nil, Bool.and_false]; rfl
        have HRE := Lib.hid hRe; clear hRe
        have q3 := cell_at hb (by omega) k3
        have f3 := free_at hb (by omega) k3
        have hb4 := h0.trans (hb.mono (show w.heap.size ≤ w.heap.size + 2 by omega))
        go_wp2
        refine bodyPost_ret (v := .tuple #[.agg #[.int .i64 0, .int .i64 0, .int .i64 0, .slice none 0 0], .bool false]) (by simp [results, Try.results19, go_sem, q3]) rfl ?_
        rw [HRE.out]
        exact ⟨none, 0, rfl, .inl rfl, (((hb4.setCell (by dsimp only; omega) _).setCell (by dsimp only; omega) _).setCell (by dsimp only; omega) _).setCell (by dsimp only; omega) _⟩
end Go.Proofs.Ytndodohngeaklaa

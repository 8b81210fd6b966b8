/-
  Puzzles: what a clue tells, whole; fits; DoesFit on both sides.
-/
import Derived.Test.YtmhffdgfkgdmlabC9l
import Derived.Test.YtmhffdgfkgdmlabC9e
import Derived.Test.YtmhffdgfkgdmlabC1v
namespace Go.Proofs.Ytmhffdgfkgdmlab
open Go.RowKit

theorem sizeBoard9 : (Try.prog.info? 37).map (·.size) = some 4 := by kernel_rfl
theorem playRep_any (s f o : Int) (A : Option Addr) (c : Nat) (js : List (Int × Int)) (b : Int) (n : Nat) (A' : Option Addr) (w : World) (hj : RJ w w.heap.size A js) (hx : RI w w.heap.size A' (List.replicate n b)) :
    Calls Try.prog 113 #[.agg #[.int .i64 s, .int .i64 f, .int .i64 o, .slice A js.length c], .int .i64 0, .slice A' n n] w fun e w' => e = .returned (.tuple #[.int .i64 (playR s f o js 0 (List.replicate n b)).1, .bool (playR s f o js 0 (List.replicate n b)).2]) ∧ Below w.heap.size w w' := by
  have h := implPlayThrows_any s f o A A' c n 0 (List.replicate n b) js w hj hx
  rwa [List.length_replicate] at h
theorem playRep {s f o b : Int} {js : List (Int × Int)} {n : Nat} (hg : good ⟨s, f, o, js⟩ = true) (hn : n ≤ 20) (hb : 1 ≤ b ∧ b ≤ f) : playR s f o js 0 (List.replicate n b) = (walkTo s o js 0 (List.replicate n b) n, true) := by
  have h : throwsOk f (List.replicate n b) = true := by
    rw [throwsOk, Bool.and_eq_true, decide_eq_true_eq, List.length_replicate, List.all_eq_true]
    exact ⟨by omega, fun x hx => by rw [List.eq_of_mem_replicate hx]; exact inB_iff.2 hb⟩
  rw [playR, asked_zero hg, h, List.length_replicate]
  rfl

set_option maxRecDepth 100000 in
set_option maxHeartbeats 400000 in
theorem toldBy5 (s f o : Int) (A : Option Addr) (c : Nat) (js : List (Int × Int)) (b d : Int) (n : Nat) (w : World) (hj : RJ w w.heap.size A js) (hn : n ≤ 20) : Calls Try.prog 92 #[.agg #[.int .i64 s, .int .i64 f, .int .i64 o, .slice A js.length c], .agg #[.int .i64 5, .int .i64 (n : Int), .int .i64 b, .int .i64 d]] w fun e w' => e = .returned (.tuple #[.int .i64 (playR s f o js 0 (List.replicate n b)).1, .bool (playR s f o js 0 (List.replicate n b)).2]) ∧ Below w.heap.size w w' := by
  have hl := hj.1
  obtain ⟨R, hR⟩ : ∃ R, R = playR s f o js 0 (List.replicate n b) := ⟨_, rfl⟩
  rw [← hR]
  have HR := Lib.hid hR; clear hR
  go_enter Try.func92, Try.ntmps92
  go_wp2_with fail
  obtain ⟨W0, hW0⟩ : ∃ W0, W0 = (w.alloc (.cells #[.int .i64 s, .int .i64 f, .int .i64 o, .slice A js.length c] 37)).alloc (.cells #[.int .i64 5, .int .i64 (n : Int), .int .i64 b, .int .i64 d] 33) := ⟨_, rfl⟩
  have z0 : w.heap.size + 2 ≤ W0.heap.size := by rw [hW0]; simp
  have h0 : Below w.heap.size w W0 := by rw [hW0]; exact below2 _ _ _
  have k1 : W0.heap[w.heap.size]? = some (.cells #[.int .i64 s, .int .i64 f, .int .i64 o, .slice A js.length c] 37 (0, 0)) := by rw [hW0]; exact (Below.heap_alloc _ _ _ (by simp)).trans (heap_alloc_at _ _ _ rfl)
  have k2 : W0.heap[w.heap.size + 1]? = some (.cells #[.int .i64 5, .int .i64 (n : Int), .int .i64 b, .int .i64 d] 33 (0, 0)) := by rw [hW0]; exact heap_alloc_at _ _ _ (by simp)
  rw [← hW0]
  have HW0 := Lib.hid hW0; clear hW0
  have hSo : ∀ B, w.heap.size + 2 ≤ B → ∀ w', Below B W0 w' → (Below (w.heap.size + 2) W0 w' ∧ w'.heap[w.heap.size]? = some (.cells #[.int .i64 s, .int .i64 f, .int .i64 o, .slice A js.length c] 37 (0, 0)) ∧ (∀ i, w'.cell? ⟨w.heap.size, i, none⟩ = #[.int .i64 s, .int .i64 f, .int .i64 o, .slice A js.length c][i]?) ∧ (∀ i, w'.cell? ⟨w.heap.size + 1, i, none⟩ = #[.int .i64 5, .int .i64 (n : Int), .int .i64 b, .int .i64 d][i]?)) :=
    fun B hB w' hb => ⟨hb.mono hB, (hb.block _ (by omega)).trans k1, fun i => cell_of_row w' w.heap.size i _ _ _ ((hb.block _ (by omega)).trans k1), fun i => cell_of_row w' (w.heap.size + 1) i _ _ _ ((hb.block _ (by omega)).trans k2)⟩
  have HSO := Lib.hid hSo; clear hSo
  have HJ := Lib.hid hj; clear hj
  have hbD : Below W0.heap.size W0 W0.drew := (Below.refl _ W0).drew
  refine wp_region_held_drew (S := (fun w' => Below (w.heap.size + 2) W0 w' ∧ w'.heap[w.heap.size]? = some (.cells #[.int .i64 s, .int .i64 f, .int .i64 o, .slice A js.length c] 37 (0, 0)) ∧ (∀ i, w'.cell? ⟨w.heap.size, i, none⟩ = #[.int .i64 s, .int .i64 f, .int .i64 o, .slice A js.length c][i]?) ∧ (∀ i, w'.cell? ⟨w.heap.size + 1, i, none⟩ = #[.int .i64 5, .int .i64 (n : Int), .int .i64 b, .int .i64 d][i]?))) (by kernel_rfl) (HSO.out _ (by omega) _ hbD) (fun hS => ?_)
  refine wpAnyH_take (i := 0) (oi := ⟨some 52, _, _, _, _, _⟩) rfl (by kernel_rfl) (by kernel_rfl) (by kernel_rfl) (fun _ _ _ h => h) (yields_load_row rfl 37 (.tmp 2) rfl w.heap.size rfl _ _ _ _ (fun _ h => h.2.1) Try.underlying37 rfl sizeBoard9) hS ?_
  try simp only [Act.put, List.setIfInBounds_toArray, List.set_cons_zero, List.set_cons_succ]
  refine wpAnyH_take (i := 1) (oi := ⟨some 53, _, _, _, _, _⟩) (v := ?vtb1) rfl (by kernel_rfl) (by kernel_rfl) (by kernel_rfl) (fun _ _ _ h => h) (Or.inl ⟨by rfl, ?htb1⟩) hS ?rtb1
  case htb1 => (intro w' hSw; (try dsimp only at hSw); go_simp; (try with_reducible rfl))
  try simp only [Act.put, List.setIfInBounds_toArray, List.set_cons_zero, List.set_cons_succ]
  refine wpAnyH_take (i := 2) (oi := ⟨some 54, _, _, _, _, _⟩) (v := ?vtb2) rfl (by kernel_rfl) (by kernel_rfl) (by kernel_rfl) (fun _ _ _ h => h) (Or.inl ⟨by rfl, ?htb2⟩) hS ?rtb2
  case htb2 => (intro w' hSw; (try dsimp only at hSw); go_simp; (try with_reducible rfl))
  try simp only [Act.put, List.setIfInBounds_toArray, List.set_cons_zero, List.set_cons_succ]
  refine wpAnyH_take (i := 4) (oi := ⟨some 56, _, _, _, _, _⟩) (v := ?vtb3) rfl (by kernel_rfl) (by kernel_rfl) (by kernel_rfl) (fun _ _ _ h => h) (Or.inl ⟨by rfl, ?htb3⟩) hS ?rtb3
  case htb3 => (intro w' hSw; (try dsimp only at hSw); go_simp; (try with_reducible rfl))
  try simp only [Act.put, List.setIfInBounds_toArray, List.set_cons_zero, List.set_cons_succ]
  refine wpAnyH_take (i := 5) (oi := ⟨some 57, _, _, _, _, _⟩) (v := ?vtb4) rfl (by kernel_rfl) (by kernel_rfl) (by kernel_rfl) (fun _ _ _ h => h) (Or.inl ⟨by rfl, ?htb4⟩) hS ?rtb4
  case htb4 => (intro w' hSw; (try dsimp only at hSw); go_simp; (try with_reducible rfl))
  try simp only [Act.put, List.setIfInBounds_toArray, List.set_cons_zero, List.set_cons_succ]
  refine wpAnyH_ready (rs := [3]) (by kernel_rfl) (by simp) ?_
  refine AllReadyH.cons (o := ⟨some 55, _, _, _, _, _⟩) rfl (fun K' hK' => ?_) AllReadyH.nil
  go_simp
  have hb4 : Below W0.heap.size W0 (W0.drew.alloc (.cells #[.int .i64 b] 3)) := hbD.alloc (Nat.le_refl _) _
  have c4 : (W0.drew.alloc (.cells #[.int .i64 b] 3)).cell? ⟨W0.heap.size, 0, none⟩ = some (.int .i64 b) := cell_of_row _ W0.heap.size 0 #[.int .i64 b] 3 _ (heap_alloc_at _ _ _ rfl)
  refine hK'.out _ _ (HSO.out _ (by omega) _ hb4) (fun _ => ?_)
  clear hK' K'
  try simp only [Act.put, List.setIfInBounds_toArray, List.set_cons_zero, List.set_cons_succ]
  refine wpAnyH_ready (rs := [6]) (by kernel_rfl) (by simp) ?_
  refine AllReadyH.cons (o := ⟨some 58, _, _, _, _, _⟩) rfl (fun K' hK' => ?_) AllReadyH.nil
  go_simp
  go_at_call 114
  refine (repeatI_any W0.heap.size b n hn _ c4).mono ?_
  rintro e w5 ⟨A5, rfl, hR5, hx5⟩
  have hb5 : Below W0.heap.size W0 w5 := hb4.trans (hx5.mono hb4.size)
  refine hK'.out _ _ (HSO.out _ (by omega) _ hb5) (fun _ => ?_)
  clear hK' K'
  try simp only [Act.put, List.setIfInBounds_toArray, List.set_cons_zero, List.set_cons_succ]
  refine wpAnyH_ready (rs := [7]) (by kernel_rfl) (by simp) ?_
  refine AllReadyH.cons (o := ⟨some 59, _, _, _, _, _⟩) rfl (fun K' hK' => ?_) AllReadyH.nil
  go_simp
  go_at_call 113
  refine (playRep_any s f o A c js b n A5 w5 (HJ.out.go (h0.trans (hb5.mono (by omega)))) hR5).mono ?_
  rintro e w6 ⟨rfl, hx6⟩
  have hb6 : Below W0.heap.size W0 w6 := hb5.trans (hx6.mono hb5.size)
  rw [← HR.out]
  refine hK'.out _ _ (HSO.out _ (by omega) _ hb6) (fun _ => ?_)
  clear hK' K'
  try simp only [Act.put, List.setIfInBounds_toArray, List.set_cons_zero, List.set_cons_succ]
  refine wpAnyH_take (i := 8) (oi := ⟨some 60, _, _, _, _, _⟩) (v := ?vtb5) rfl (by kernel_rfl) (by kernel_rfl) (by kernel_rfl) (fun _ _ _ h => h) (Or.inl ⟨by rfl, ?htb5⟩) (HSO.out _ (by omega) _ hb6) ?rtb5
  case htb5 => (intro w' hSw; (try dsimp only at hSw); go_simp; (try with_reducible rfl))
  try simp only [Act.put, List.setIfInBounds_toArray, List.set_cons_zero, List.set_cons_succ]
  refine wpAnyH_take (i := 9) (oi := ⟨some 61, _, _, _, _, _⟩) (v := ?vtb6) rfl (by kernel_rfl) (by kernel_rfl) (by kernel_rfl) (fun _ _ _ h => h) (Or.inl ⟨by rfl, ?htb6⟩) (HSO.out _ (by omega) _ hb6) ?rtb6
  case htb6 => (intro w' hSw; (try dsimp only at hSw); go_simp; (try with_reducible rfl))
  try simp only [Act.put, List.setIfInBounds_toArray, List.set_cons_zero, List.set_cons_succ]
  refine wpAnyH_ready (rs := [10]) (by kernel_rfl) (by simp) ?_
  refine AllReadyH.cons (o := ⟨some 4, _, _, _, _, _⟩) rfl (fun K' hK' => ?_) AllReadyH.nil
  go_simp
  refine hK'.out _ _ (HSO.out _ (by omega) _ hb6) (fun _ => ?_)
  clear hK' K'
  try simp only [Act.put, List.setIfInBounds_toArray, List.set_cons_zero, List.set_cons_succ]
  refine wpAnyH_ready (rs := [11]) (by kernel_rfl) (by simp) ?_
  refine AllReadyH.cons (o := ⟨some 5, _, _, _, _, _⟩) rfl (fun K' hK' => ?_) AllReadyH.nil
  go_simp
  refine hK'.out _ _ (HSO.out _ (by omega) _ hb6) (fun _ => ?_)
  clear hK' K'
  try simp only [Act.put, List.setIfInBounds_toArray, List.set_cons_zero, List.set_cons_succ]
  refine wpAnyH_done (by kernel_rfl) ?_ _
  go_wp2
  go_ret2
  exact ⟨rfl, h0.trans (hb6.mono (by omega))⟩

/-- What a clue tells of a board, the clue being one of its puzzles. -/
theorem toldBy_any (s f o : Int) (A : Option Addr) (c : Nat) (js : List (Int × Int)) (k a b d : Int) (R : Int × Bool) (P : Nat → Bool) (V : Int × Bool) (w : World) (hj : RJ w w.heap.size A js) (hg : good ⟨s, f, o, js⟩ = true) (hR : FewR s f o js 0 R) (hP : HopeIs s f o js P) (hc : clB s f k a b d = true) (hV : V = toldV s o js R.1 (selL P (s.toNat + 1)).length k a b) :
    Calls Try.prog 92 #[.agg #[.int .i64 s, .int .i64 f, .int .i64 o, .slice A js.length c], .agg #[.int .i64 k, .int .i64 a, .int .i64 b, .int .i64 d]] w fun e w' => e = .returned (.tuple #[.int .i64 V.1, .bool V.2]) ∧ Below w.heap.size w w' := by
  subst hV
  have hk := clB_k hc
  rcases (show k = 0 ∨ k = 1 ∨ k = 2 ∨ k = 3 ∨ k = 4 ∨ k = 5 by omega) with rfl | rfl | rfl | rfl | rfl | rfl
  · exact toldBy0 s f o A c js a b d w hj
  · have h := clB_1 hc
    have e : toldV s o js R.1 (selL P (s.toNat + 1)).length 1 a b = throwTo s f o js a b := by
      rw [throwTo, asked, hg, Bool.true_and, inB_iff.2 h.2, Bool.and_true]; rfl
    rw [e]
    exact toldBy1 s f o A c js a b d w hj
  · exact toldBy2 s f o A c js a b d w hj R hg hR
  · exact toldBy3 s f o A c js a b d w hj P hg hP
  · exact toldBy4 s f o A c js a b d w hj
  · have h := clB_5 hc
    obtain ⟨n, rfl⟩ := Int.eq_ofNat_of_zero_le h.1.1
    have e : toldV s o js R.1 (selL P (s.toNat + 1)).length 5 (n : Int) b = playR s f o js 0 (List.replicate n b) := by
      rw [playRep hg (by omega) h.2]; rfl
    rw [e]
    exact toldBy5 s f o A c js b d n w hj (by omega)
/-- A board fits a clue that tells V of it. -/
def fitB (V : Int × Bool) (d : Int) : Bool := V.2 && (V.1 == d)
theorem fitB_md (V : Int × Bool) (d : Int) (hd : 0 ≤ d) : fitB V d = (mdV V == d) := by
  unfold fitB mdV
  cases h : V.2
  · have : ((-1 : Int) == d) = false := beq_eq_false_iff_ne.2 (by omega)
    simp [this]
  · simp
theorem clB_d {q f k a b d : Int} (h : clB q f k a b d = true) : 0 ≤ d := by
  have hk := clB_k h
  rw [clB_eq hk.1 hk.2, Bool.and_eq_true] at h
  exact (inB_iff.1 h.2).1
set_option maxRecDepth 100000 in
set_option maxHeartbeats 400000 in
theorem fits_any (s f o : Int) (A : Option Addr) (c : Nat) (js : List (Int × Int)) (k a b d : Int) (R : Int × Bool) (P : Nat → Bool) (V : Int × Bool) (w : World) (hj : RJ w w.heap.size A js) (hg : good ⟨s, f, o, js⟩ = true) (hR : FewR s f o js 0 R) (hP : HopeIs s f o js P) (hc : clB s f k a b d = true) (hV : V = toldV s o js R.1 (selL P (s.toNat + 1)).length k a b) :
    Calls Try.prog 65 #[.agg #[.int .i64 s, .int .i64 f, .int .i64 o, .slice A js.length c], .agg #[.int .i64 k, .int .i64 a, .int .i64 b, .int .i64 d]] w fun e w' => e = .returned (.bool (fitB V d)) ∧ Below w.heap.size w w' := by
  have hl := hj.1
  have hT : ∀ w : World, RJ w w.heap.size A js → Calls Try.prog 92 #[.agg #[.int .i64 s, .int .i64 f, .int .i64 o, .slice A js.length c], .agg #[.int .i64 k, .int .i64 a, .int .i64 b, .int .i64 d]] w fun e w' => e = .returned (.tuple #[.int .i64 V.1, .bool V.2]) ∧ Below w.heap.size w w' := fun w hj => toldBy_any s f o A c js k a b d R P V w hj hg hR hP hc hV
  clear hV
  obtain ⟨x, ok⟩ := V
  have HT := Lib.hid hT; clear hT hg hR hP hc
  go_enter Try.func65, Try.ntmps65
  go_wp2_with fail
  refine (HT.out _ (hj.go (below2 _ _ _))).mono ?_
  rintro e w2 ⟨rfl, hx⟩
  simp only [World.size_alloc] at hx
  have qc := fun i => cell_of_row w2 (w.heap.size + 1) i _ _ _ ((hx.block (w.heap.size + 1) (by omega)).trans (heap_alloc_at _ (.cells #[.int .i64 k, .int .i64 a, .int .i64 b, .int .i64 d] 33) _ (by simp)))
  cases ok
  · go_wp2
    go_ret
    exact ⟨rfl, (below2 _ _ _).trans (hx.mono (by omega))⟩
  · by_cases hxd : x = d
    · subst hxd
      go_wp2
      go_ret
      exact ⟨ret_bool (by simp [fitB]), (below2 _ _ _).trans (hx.mono (by omega))⟩
    · have hxb : (x == d) = false := beq_eq_false_iff_ne.2 hxd
      go_wp2
      go_ret
      exact ⟨ret_bool (by simp [fitB, hxd]), (below2 _ _ _).trans (hx.mono (by omega))⟩

set_option maxRecDepth 100000 in
set_option maxHeartbeats 400000 in
theorem pzFits_any (s f o : Int) (A : Option Addr) (c : Nat) (js : List (Int × Int)) (k a b d : Int) (R : Int × Bool) (P : Nat → Bool) (V : Int × Bool) (w : World) (hj : RJ w w.heap.size A js) (hg : good ⟨s, f, o, js⟩ = true) (hjs : js.length ≤ 1) (hR : FewR s f o js 0 R) (hP : HopeIs s f o js P) (hc : clB s f k a b d = true) (hV : V = toldV s o js R.1 (selL P (s.toNat + 1)).length k a b) :
    Calls Try.prog 61 #[.agg #[.int .i64 k, .int .i64 a, .int .i64 b, .int .i64 d], .agg #[.int .i64 s, .int .i64 f, .int .i64 o, .slice A js.length c]] w fun e w' => e = .returned (.bool (fitB V d)) ∧ Below w.heap.size w w' := by
  have hl := hj.1
  have hT : ∀ w : World, RJ w w.heap.size A js → Calls Try.prog 89 #[.int .i64 k, .int .i64 a, .int .i64 b, .agg #[.int .i64 s, .int .i64 f, .int .i64 o, .slice A js.length c]] w fun e w' => e = .returned (.int .i64 (mdV V)) ∧ Below w.heap.size w w' := fun w hj => by rw [hV]; exact pzValue_any s f o A c js k a b d R P w hj hg hjs hR hP hc
  have hd := clB_d hc
  rw [fitB_md V d hd]
  clear hV hg hjs hR hP hc
  obtain ⟨y, hy⟩ : ∃ y, y = mdV V := ⟨_, rfl⟩
  rw [← hy] at hT ⊢
  have HT := Lib.hid hT; clear hT hy
  go_enter Try.func61, Try.ntmps61
  go_wp2_with fail
  obtain ⟨W0, hW0⟩ : ∃ W0, W0 = (w.alloc (.cells #[.int .i64 k, .int .i64 a, .int .i64 b, .int .i64 d] 33)).alloc (.cells #[.int .i64 s, .int .i64 f, .int .i64 o, .slice A js.length c] 37) := ⟨_, rfl⟩
  have z0 : w.heap.size + 2 ≤ W0.heap.size := by rw [hW0]; simp
  have h0 : Below w.heap.size w W0 := by rw [hW0]; exact below2 _ _ _
  have k1 : W0.heap[w.heap.size]? = some (.cells #[.int .i64 k, .int .i64 a, .int .i64 b, .int .i64 d] 33 (0, 0)) := by rw [hW0]; exact (Below.heap_alloc _ _ _ (by simp)).trans (heap_alloc_at _ _ _ rfl)
  have k2 : W0.heap[w.heap.size + 1]? = some (.cells #[.int .i64 s, .int .i64 f, .int .i64 o, .slice A js.length c] 37 (0, 0)) := by rw [hW0]; exact heap_alloc_at _ _ _ (by simp)
  rw [← hW0]
  have HW0 := Lib.hid hW0; clear hW0
  have hSo : ∀ B, w.heap.size + 2 ≤ B → ∀ w', Below B W0 w' → (Below (w.heap.size + 2) W0 w' ∧ w'.heap[w.heap.size + 1]? = some (.cells #[.int .i64 s, .int .i64 f, .int .i64 o, .slice A js.length c] 37 (0, 0)) ∧ (∀ i, w'.cell? ⟨w.heap.size, i, none⟩ = #[.int .i64 k, .int .i64 a, .int .i64 b, .int .i64 d][i]?)) :=
    fun B hB w' hb => ⟨hb.mono hB, (hb.block _ (by omega)).trans k2, fun i => cell_of_row w' w.heap.size i _ _ _ ((hb.block _ (by omega)).trans k1)⟩
  have HSO := Lib.hid hSo; clear hSo
  have HJ := Lib.hid hj; clear hj
  have hbD : Below W0.heap.size W0 W0.drew := (Below.refl _ W0).drew
  refine wp_region_held_drew (S := (fun w' => Below (w.heap.size + 2) W0 w' ∧ w'.heap[w.heap.size + 1]? = some (.cells #[.int .i64 s, .int .i64 f, .int .i64 o, .slice A js.length c] 37 (0, 0)) ∧ (∀ i, w'.cell? ⟨w.heap.size, i, none⟩ = #[.int .i64 k, .int .i64 a, .int .i64 b, .int .i64 d][i]?))) (by kernel_rfl) (HSO.out _ (by omega) _ hbD) (fun hS => ?_)
  refine wpAnyH_take (i := 6) (oi := ⟨some 11, _, _, _, _, _⟩) rfl (by kernel_rfl) (by kernel_rfl) (by kernel_rfl) (fun _ _ _ h => h) (yields_load_row rfl 37 (.tmp 3) rfl (w.heap.size + 1) rfl _ _ _ _ (fun _ h => h.2.1) Try.underlying37 rfl sizeBoard9) hS ?_
  try simp only [Act.put, List.setIfInBounds_toArray, List.set_cons_zero, List.set_cons_succ]
  refine wpAnyH_take (i := 0) (oi := ⟨some 5, _, _, _, _, _⟩) (v := ?vpf1) rfl (by kernel_rfl) (by kernel_rfl) (by kernel_rfl) (fun _ _ _ h => h) (Or.inl ⟨by rfl, ?hpf1⟩) hS ?rpf1
  case hpf1 => (intro w' hSw; (try dsimp only at hSw); go_simp; (try with_reducible rfl))
  try simp only [Act.put, List.setIfInBounds_toArray, List.set_cons_zero, List.set_cons_succ]
  refine wpAnyH_take (i := 1) (oi := ⟨some 6, _, _, _, _, _⟩) (v := ?vpf2) rfl (by kernel_rfl) (by kernel_rfl) (by kernel_rfl) (fun _ _ _ h => h) (Or.inl ⟨by rfl, ?hpf2⟩) hS ?rpf2
  case hpf2 => (intro w' hSw; (try dsimp only at hSw); go_simp; (try with_reducible rfl))
  try simp only [Act.put, List.setIfInBounds_toArray, List.set_cons_zero, List.set_cons_succ]
  refine wpAnyH_take (i := 2) (oi := ⟨some 7, _, _, _, _, _⟩) (v := ?vpf3) rfl (by kernel_rfl) (by kernel_rfl) (by kernel_rfl) (fun _ _ _ h => h) (Or.inl ⟨by rfl, ?hpf3⟩) hS ?rpf3
  case hpf3 => (intro w' hSw; (try dsimp only at hSw); go_simp; (try with_reducible rfl))
  try simp only [Act.put, List.setIfInBounds_toArray, List.set_cons_zero, List.set_cons_succ]
  refine wpAnyH_take (i := 3) (oi := ⟨some 8, _, _, _, _, _⟩) (v := ?vpf4) rfl (by kernel_rfl) (by kernel_rfl) (by kernel_rfl) (fun _ _ _ h => h) (Or.inl ⟨by rfl, ?hpf4⟩) hS ?rpf4
  case hpf4 => (intro w' hSw; (try dsimp only at hSw); go_simp; (try with_reducible rfl))
  try simp only [Act.put, List.setIfInBounds_toArray, List.set_cons_zero, List.set_cons_succ]
  refine wpAnyH_take (i := 4) (oi := ⟨some 9, _, _, _, _, _⟩) (v := ?vpf5) rfl (by kernel_rfl) (by kernel_rfl) (by kernel_rfl) (fun _ _ _ h => h) (Or.inl ⟨by rfl, ?hpf5⟩) hS ?rpf5
  case hpf5 => (intro w' hSw; (try dsimp only at hSw); go_simp; (try with_reducible rfl))
  try simp only [Act.put, List.setIfInBounds_toArray, List.set_cons_zero, List.set_cons_succ]
  refine wpAnyH_take (i := 5) (oi := ⟨some 10, _, _, _, _, _⟩) (v := ?vpf6) rfl (by kernel_rfl) (by kernel_rfl) (by kernel_rfl) (fun _ _ _ h => h) (Or.inl ⟨by rfl, ?hpf6⟩) hS ?rpf6
  case hpf6 => (intro w' hSw; (try dsimp only at hSw); go_simp; (try with_reducible rfl))
  try simp only [Act.put, List.setIfInBounds_toArray, List.set_cons_zero, List.set_cons_succ]
  refine wpAnyH_take (i := 8) (oi := ⟨some 13, _, _, _, _, _⟩) (v := ?vpf7) rfl (by kernel_rfl) (by kernel_rfl) (by kernel_rfl) (fun _ _ _ h => h) (Or.inl ⟨by rfl, ?hpf7⟩) hS ?rpf7
  case hpf7 => (intro w' hSw; (try dsimp only at hSw); go_simp; (try with_reducible rfl))
  try simp only [Act.put, List.setIfInBounds_toArray, List.set_cons_zero, List.set_cons_succ]
  refine wpAnyH_take (i := 9) (oi := ⟨some 14, _, _, _, _, _⟩) (v := ?vpf8) rfl (by kernel_rfl) (by kernel_rfl) (by kernel_rfl) (fun _ _ _ h => h) (Or.inl ⟨by rfl, ?hpf8⟩) hS ?rpf8
  case hpf8 => (intro w' hSw; (try dsimp only at hSw); go_simp; (try with_reducible rfl))
  try simp only [Act.put, List.setIfInBounds_toArray, List.set_cons_zero, List.set_cons_succ]
  refine wpAnyH_ready (rs := [7]) (by kernel_rfl) (by simp) ?_
  refine AllReadyH.cons (o := ⟨some 12, _, _, _, _, _⟩) rfl (fun K' hK' => ?_) AllReadyH.nil
  go_simp
  go_at_call 89
  refine (HT.out _ (HJ.out.go (h0.trans (hbD.mono (by omega))))).mono ?_
  rintro e w5 ⟨rfl, hx5⟩
  have hb5 : Below W0.heap.size W0 w5 := hbD.trans hx5
  refine hK'.out _ _ (HSO.out _ (by omega) _ hb5) (fun _ => ?_)
  clear hK' K'
  try simp only [Act.put, List.setIfInBounds_toArray, List.set_cons_zero, List.set_cons_succ]
  refine wpAnyH_take (i := 10) (oi := ⟨some 15, _, _, _, _, _⟩) (v := ?vpf9) rfl (by kernel_rfl) (by kernel_rfl) (by kernel_rfl) (fun _ _ _ h => h) (Or.inl ⟨by rfl, ?hpf9⟩) (HSO.out _ (by omega) _ hb5) ?rpf9
  case hpf9 => (intro w' hSw; (try dsimp only at hSw); go_simp; (try with_reducible rfl))
  try simp only [Act.put, List.setIfInBounds_toArray, List.set_cons_zero, List.set_cons_succ]
  refine wpAnyH_ready (rs := [11]) (by kernel_rfl) (by simp) ?_
  refine AllReadyH.cons (o := ⟨some 4, _, _, _, _, _⟩) rfl (fun K' hK' => ?_) AllReadyH.nil
  go_simp
  refine hK'.out _ _ (HSO.out _ (by omega) _ hb5) (fun _ => ?_)
  clear hK' K'
  try simp only [Act.put, List.setIfInBounds_toArray, List.set_cons_zero, List.set_cons_succ]
  refine wpAnyH_done (by kernel_rfl) ?_ _
  go_wp2
  go_ret
  exact ⟨rfl, h0.trans (hb5.mono (by omega))⟩

theorem hidB_parts {s f o : Int} {js : List (Int × Int)} (h : hidB s f o js = true) : good ⟨s, f, o, js⟩ = true ∧ s ≤ 10 ∧ js.length ≤ 1 := by
  rw [hidB, Bool.and_eq_true, Bool.and_eq_true, decide_eq_true_eq, decide_eq_true_eq] at h
  exact ⟨h.1.1, h.1.2, h.2⟩
theorem hidB_sz {s f o : Int} {js : List (Int × Int)} (h : hidB s f o js = true) : szB s f = true := by
  have hp := hidB_parts h
  have hz := good_sizes hp.1
  rw [szB, inB_iff.2 ⟨hz.1.1, hp.2.1⟩, inB_iff.2 hz.2.1]
  rfl

set_option maxRecDepth 100000 in
set_option maxHeartbeats 400000 in
theorem specDoesFit_hid (s f o : Int) (A : Option Addr) (c : Nat) (js : List (Int × Int)) (k a b d : Int) (w : World) (hj : RJ w w.heap.size A js) (hh : hidB s f o js = false) : Calls Try.prog 18 #[.agg #[.int .i64 k, .int .i64 a, .int .i64 b, .int .i64 d], .agg #[.int .i64 s, .int .i64 f, .int .i64 o, .slice A js.length c]] w fun e w' => e = .returned (.tuple #[.bool false, .bool false]) ∧ Below w.heap.size w w' := by
  have HH := Lib.hid hh; clear hh
  have hl := hj.1
  go_enter Try.func18, Try.ntmps18
  go_wp2_with fail
  refine (pzHidden_any s f o A c js _ (hj.go (below2 _ _ _))).mono ?_
  rintro e w2 ⟨rfl, hx⟩
  simp only [World.size_alloc] at hx
  have hb2 : Below w.heap.size w w2 := (below2 _ _ _).trans (hx.mono (by omega))
  have k1 := (hx.block w.heap.size (by omega)).trans ((Below.heap_alloc _ _ _ (by simp)).trans (heap_alloc_at w (.cells #[.int .i64 k, .int .i64 a, .int .i64 b, .int .i64 d] 33) _ rfl))
  have k2 := (hx.block (w.heap.size + 1) (by omega)).trans (heap_alloc_at _ (.cells #[.int .i64 s, .int .i64 f, .int .i64 o, .slice A js.length c] 37) _ (by simp))
  have qc := fun i => cell_of_row w2 w.heap.size i _ _ _ k1
  have qb := fun i => cell_of_row w2 (w.heap.size + 1) i _ _ _ k2
  rw [HH.out]
  go_wp2
  go_ret2
  exact ⟨rfl, hb2⟩
set_option maxRecDepth 100000 in
set_option maxHeartbeats 400000 in
theorem specDoesFit_cl (s f o : Int) (A : Option Addr) (c : Nat) (js : List (Int × Int)) (k a b d : Int) (w : World) (hj : RJ w w.heap.size A js) (hh : hidB s f o js = true) (hc : clB s f k a b d = false) : Calls Try.prog 18 #[.agg #[.int .i64 k, .int .i64 a, .int .i64 b, .int .i64 d], .agg #[.int .i64 s, .int .i64 f, .int .i64 o, .slice A js.length c]] w fun e w' => e = .returned (.tuple #[.bool false, .bool false]) ∧ Below w.heap.size w w' := by
  have HH := Lib.hid hh; have HC := Lib.hid hc; clear hh hc
  have hl := hj.1
  go_enter Try.func18, Try.ntmps18
  go_wp2_with fail
  refine (pzHidden_any s f o A c js _ (hj.go (below2 _ _ _))).mono ?_
  rintro e w2 ⟨rfl, hx⟩
  simp only [World.size_alloc] at hx
  have hb2 : Below w.heap.size w w2 := (below2 _ _ _).trans (hx.mono (by omega))
  have k1 := (hx.block w.heap.size (by omega)).trans ((Below.heap_alloc _ _ _ (by simp)).trans (heap_alloc_at w (.cells #[.int .i64 k, .int .i64 a, .int .i64 b, .int .i64 d] 33) _ rfl))
  have k2 := (hx.block (w.heap.size + 1) (by omega)).trans (heap_alloc_at _ (.cells #[.int .i64 s, .int .i64 f, .int .i64 o, .slice A js.length c] 37) _ (by simp))
  have qc := fun i => cell_of_row w2 w.heap.size i _ _ _ k1
  have qb := fun i => cell_of_row w2 (w.heap.size + 1) i _ _ _ k2
  rw [HH.out]
  go_wp2_with fail
  refine (pzClue_any s f k a b d _).mono ?_
  rintro e w3 ⟨rfl, hx3⟩
  rw [HC.out]
  go_wp2
  go_ret2
  exact ⟨rfl, hb2.trans (hx3.mono hb2.size)⟩
set_option maxRecDepth 100000 in
set_option maxHeartbeats 400000 in
theorem specDoesFit_yes (s f o : Int) (A : Option Addr) (c : Nat) (js : List (Int × Int)) (k a b d : Int) (ok : Bool) (w : World) (hj : RJ w w.heap.size A js) (hh : hidB s f o js = true) (hc : clB s f k a b d = true)
    (hT : ∀ w : World, RJ w w.heap.size A js → Calls Try.prog 61 #[.agg #[.int .i64 k, .int .i64 a, .int .i64 b, .int .i64 d], .agg #[.int .i64 s, .int .i64 f, .int .i64 o, .slice A js.length c]] w fun e w' => e = .returned (.bool ok) ∧ Below w.heap.size w w') :
    Calls Try.prog 18 #[.agg #[.int .i64 k, .int .i64 a, .int .i64 b, .int .i64 d], .agg #[.int .i64 s, .int .i64 f, .int .i64 o, .slice A js.length c]] w fun e w' => e = .returned (.tuple #[.bool ok, .bool true]) ∧ Below w.heap.size w w' := by
  have HH := Lib.hid hh; have HC := Lib.hid hc; have HT := Lib.hid hT; clear hh hc hT
  have hl := hj.1
  go_enter Try.func18, Try.ntmps18
  go_wp2_with fail
  refine (pzHidden_any s f o A c js _ (hj.go (below2 _ _ _))).mono ?_
  rintro e w2 ⟨rfl, hx⟩
  simp only [World.size_alloc] at hx
  have hb2 : Below w.heap.size w w2 := (below2 _ _ _).trans (hx.mono (by omega))
  have k1 := (hx.block w.heap.size (by omega)).trans ((Below.heap_alloc _ _ _ (by simp)).trans (heap_alloc_at w (.cells #[.int .i64 k, .int .i64 a, .int .i64 b, .int .i64 d] 33) _ rfl))
  have k2 := (hx.block (w.heap.size + 1) (by omega)).trans (heap_alloc_at _ (.cells #[.int .i64 s, .int .i64 f, .int .i64 o, .slice A js.length c] 37) _ (by simp))
  have qc := fun i => cell_of_row w2 w.heap.size i _ _ _ k1
  have qb := fun i => cell_of_row w2 (w.heap.size + 1) i _ _ _ k2
  rw [HH.out]
  go_wp2_with fail
  refine (pzClue_any s f k a b d _).mono ?_
  rintro e w3 ⟨rfl, hx3⟩
  have hb3 := hb2.trans (hx3.mono hb2.size)
  have hs2 : w.heap.size + 2 ≤ w2.heap.size := by have := hx.size; simpa using this
  have qc3 := fun i => cell_of_row w3 w.heap.size i _ _ _ ((hx3.block w.heap.size (by omega)).trans k1)
  have qb3 := fun i => cell_of_row w3 (w.heap.size + 1) i _ _ _ ((hx3.block (w.heap.size + 1) (by omega)).trans k2)
  clear qc qb
  rw [HC.out]
  go_wp2_with fail
  refine (HT.out _ (hj.go hb3)).mono ?_
  rintro e w4 ⟨rfl, hx4⟩
  go_wp2
  go_ret2
  exact ⟨rfl, hb3.trans (hx4.mono hb3.size)⟩

set_option maxRecDepth 100000 in
set_option maxHeartbeats 400000 in
theorem implDoesFit_hid (s f o : Int) (A : Option Addr) (c : Nat) (js : List (Int × Int)) (k a b d : Int) (w : World) (hj : RJ w w.heap.size A js) (hh : hidB s f o js = false) : Calls Try.prog 21 #[.agg #[.int .i64 k, .int .i64 a, .int .i64 b, .int .i64 d], .agg #[.int .i64 s, .int .i64 f, .int .i64 o, .slice A js.length c]] w fun e w' => e = .returned (.tuple #[.bool false, .bool false]) ∧ Below w.heap.size w w' := by
  have HH := Lib.hid hh; clear hh
  have hl := hj.1
  go_enter Try.func21, Try.ntmps21
  go_wp2_with fail
  refine (isHidden_any s f o A c js _ (hj.go (below2 _ _ _))).mono ?_
  rintro e w2 ⟨rfl, hx⟩
  simp only [World.size_alloc] at hx
  have hb2 : Below w.heap.size w w2 := (below2 _ _ _).trans (hx.mono (by omega))
  have k1 := (hx.block w.heap.size (by omega)).trans ((Below.heap_alloc _ _ _ (by simp)).trans (heap_alloc_at w (.cells #[.int .i64 k, .int .i64 a, .int .i64 b, .int .i64 d] 33) _ rfl))
  have k2 := (hx.block (w.heap.size + 1) (by omega)).trans (heap_alloc_at _ (.cells #[.int .i64 s, .int .i64 f, .int .i64 o, .slice A js.length c] 37) _ (by simp))
  have qc := fun i => cell_of_row w2 w.heap.size i _ _ _ k1
  have qb := fun i => cell_of_row w2 (w.heap.size + 1) i _ _ _ k2
  rw [HH.out]
  go_wp2
  go_ret2
  exact ⟨rfl, hb2⟩
set_option maxRecDepth 100000 in
set_option maxHeartbeats 400000 in
theorem implDoesFit_cl (s f o : Int) (A : Option Addr) (c : Nat) (js : List (Int × Int)) (k a b d : Int) (w : World) (hj : RJ w w.heap.size A js) (hh : hidB s f o js = true) (hc : (szB s f && clB s f k a b d) = false) : Calls Try.prog 21 #[.agg #[.int .i64 k, .int .i64 a, .int .i64 b, .int .i64 d], .agg #[.int .i64 s, .int .i64 f, .int .i64 o, .slice A js.length c]] w fun e w' => e = .returned (.tuple #[.bool false, .bool false]) ∧ Below w.heap.size w w' := by
  have HH := Lib.hid hh; have HC := Lib.hid hc; clear hh hc
  have hl := hj.1
  go_enter Try.func21, Try.ntmps21
  go_wp2_with fail
  refine (isHidden_any s f o A c js _ (hj.go (below2 _ _ _))).mono ?_
  rintro e w2 ⟨rfl, hx⟩
  simp only [World.size_alloc] at hx
  have hb2 : Below w.heap.size w w2 := (below2 _ _ _).trans (hx.mono (by omega))
  have k1 := (hx.block w.heap.size (by omega)).trans ((Below.heap_alloc _ _ _ (by simp)).trans (heap_alloc_at w (.cells #[.int .i64 k, .int .i64 a, .int .i64 b, .int .i64 d] 33) _ rfl))
  have k2 := (hx.block (w.heap.size + 1) (by omega)).trans (heap_alloc_at _ (.cells #[.int .i64 s, .int .i64 f, .int .i64 o, .slice A js.length c] 37) _ (by simp))
  have qc := fun i => cell_of_row w2 w.heap.size i _ _ _ k1
  have qb := fun i => cell_of_row w2 (w.heap.size + 1) i _ _ _ k2
  rw [HH.out]
  go_wp2_with fail
  refine (implIsClue_any s f k a b d _).mono ?_
  rintro e w3 ⟨rfl, hx3⟩
  rw [HC.out]
  go_wp2
  go_ret2
  exact ⟨rfl, hb2.trans (hx3.mono hb2.size)⟩
set_option maxRecDepth 100000 in
set_option maxHeartbeats 400000 in
theorem implDoesFit_yes (s f o : Int) (A : Option Addr) (c : Nat) (js : List (Int × Int)) (k a b d : Int) (ok : Bool) (w : World) (hj : RJ w w.heap.size A js) (hh : hidB s f o js = true) (hc : (szB s f && clB s f k a b d) = true)
    (hT : ∀ w : World, RJ w w.heap.size A js → Calls Try.prog 65 #[.agg #[.int .i64 s, .int .i64 f, .int .i64 o, .slice A js.length c], .agg #[.int .i64 k, .int .i64 a, .int .i64 b, .int .i64 d]] w fun e w' => e = .returned (.bool ok) ∧ Below w.heap.size w w') :
    Calls Try.prog 21 #[.agg #[.int .i64 k, .int .i64 a, .int .i64 b, .int .i64 d], .agg #[.int .i64 s, .int .i64 f, .int .i64 o, .slice A js.length c]] w fun e w' => e = .returned (.tuple #[.bool ok, .bool true]) ∧ Below w.heap.size w w' := by
  have HH := Lib.hid hh; have HC := Lib.hid hc; have HT := Lib.hid hT; clear hh hc hT
  have hl := hj.1
  go_enter Try.func21, Try.ntmps21
  go_wp2_with fail
  refine (isHidden_any s f o A c js _ (hj.go (below2 _ _ _))).mono ?_
  rintro e w2 ⟨rfl, hx⟩
  simp only [World.size_alloc] at hx
  have hb2 : Below w.heap.size w w2 := (below2 _ _ _).trans (hx.mono (by omega))
  have k1 := (hx.block w.heap.size (by omega)).trans ((Below.heap_alloc _ _ _ (by simp)).trans (heap_alloc_at w (.cells #[.int .i64 k, .int .i64 a, .int .i64 b, .int .i64 d] 33) _ rfl))
  have k2 := (hx.block (w.heap.size + 1) (by omega)).trans (heap_alloc_at _ (.cells #[.int .i64 s, .int .i64 f, .int .i64 o, .slice A js.length c] 37) _ (by simp))
  have qc := fun i => cell_of_row w2 w.heap.size i _ _ _ k1
  have qb := fun i => cell_of_row w2 (w.heap.size + 1) i _ _ _ k2
  rw [HH.out]
  go_wp2_with fail
  refine (implIsClue_any s f k a b d _).mono ?_
  rintro e w3 ⟨rfl, hx3⟩
  have hb3 := hb2.trans (hx3.mono hb2.size)
  have hs2 : w.heap.size + 2 ≤ w2.heap.size := by have := hx.size; simpa using this
  have qc3 := fun i => cell_of_row w3 w.heap.size i _ _ _ ((hx3.block w.heap.size (by omega)).trans k1)
  have qb3 := fun i => cell_of_row w3 (w.heap.size + 1) i _ _ _ ((hx3.block (w.heap.size + 1) (by omega)).trans k2)
  clear qc qb
  rw [HC.out]
  go_wp2_with fail
  refine (HT.out _ (hj.go hb3)).mono ?_
  rintro e w4 ⟨rfl, hx4⟩
  go_wp2
  go_ret2
  exact ⟨rfl, hb3.trans (hx4.mono hb3.size)⟩

theorem doesFit_both (s f o : Int) (js : List (Int × Int)) (k a b d : Int) : ∃ x ok : Bool, (∀ (A : Option Addr) (c : Nat) (w : World), RJ w w.heap.size A js → Calls Try.prog 18 #[.agg #[.int .i64 k, .int .i64 a, .int .i64 b, .int .i64 d], .agg #[.int .i64 s, .int .i64 f, .int .i64 o, .slice A js.length c]] w fun e w' => e = .returned (.tuple #[.bool x, .bool ok]) ∧ Below w.heap.size w w') ∧ (∀ (A : Option Addr) (c : Nat) (w : World), RJ w w.heap.size A js → Calls Try.prog 21 #[.agg #[.int .i64 k, .int .i64 a, .int .i64 b, .int .i64 d], .agg #[.int .i64 s, .int .i64 f, .int .i64 o, .slice A js.length c]] w fun e w' => e = .returned (.tuple #[.bool x, .bool ok]) ∧ Below w.heap.size w w') := by
  cases hh : hidB s f o js
  · exact ⟨false, false, fun A c w hj => specDoesFit_hid s f o A c js k a b d w hj hh, fun A c w hj => implDoesFit_hid s f o A c js k a b d w hj hh⟩
  · have hs := hidB_sz hh
    cases hc : clB s f k a b d
    · exact ⟨false, false, fun A c w hj => specDoesFit_cl s f o A c js k a b d w hj hh hc, fun A c w hj => implDoesFit_cl s f o A c js k a b d w hj hh (by rw [hs, hc]; rfl)⟩
    · have hp := hidB_parts hh
      obtain ⟨R, hR⟩ : ∃ R, FewR s f o js 0 R := by
        rcases Classical.em (∃ t, Way (eB s f o js) 0 t s.toNat) with ⟨t, ht⟩ | hn
        · obtain ⟨t, ht⟩ := least_ex (W := fun t => Way (eB s f o js) 0 t s.toNat) ht
          exact ⟨(t, true), .inl ⟨rfl, t, rfl, ht⟩⟩
        · exact ⟨(0, false), .inr ⟨rfl, rfl, fun t ht => hn ⟨t, ht⟩⟩⟩
      obtain ⟨P, hP⟩ : ∃ P, HopeIs s f o js P := ⟨fun i => @decide _ (Classical.propDecidable (onSq s js i = true ∧ ∀ t, ¬ Way (eB s f o js) i t s.toNat)), fun i => by simp⟩
      exact ⟨fitB (toldV s o js R.1 (selL P (s.toNat + 1)).length k a b) d, true, fun A c w hj => specDoesFit_yes s f o A c js k a b d _ w hj hh hc fun w hj => pzFits_any s f o A c js k a b d R P _ w hj hp.1 hp.2.2 hR hP hc rfl,
        fun A c w hj => implDoesFit_yes s f o A c js k a b d _ w hj hh (by rw [hs, hc]; rfl) fun w hj => fits_any s f o A c js k a b d R P _ w hj hp.1 hR hP hc rfl⟩
end Go.Proofs.Ytmhffdgfkgdmlab

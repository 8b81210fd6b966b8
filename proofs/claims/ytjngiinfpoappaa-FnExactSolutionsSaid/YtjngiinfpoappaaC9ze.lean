/-
  Puzzles: the program's solutions, each board's jumps in a row of its own (for the law of Solutions: marks are written into all of them). The laws' helpers on slices of boards: comparisons, marks. The laws' marks on a slice of boards. The laws' marks on a slice of boards, read again. Puzzles: Solutions on both sides.
-/
import Derived.Test.YtjngiinfpoappaaC9u
import Derived.Test.YtjngiinfpoappaaL2
import Derived.StillTailTactics
namespace Go.Proofs.Ytjngiinfpoappaa
open Go.RowKit

/-- The boards' jumps lie in rows of their own, below the heap's end; no jumps: no row. -/
def DIS (N : Nat) (xs : List Bv) : Prop :=
  xs.Pairwise (fun x y => ∀ g, x.2.ownBlock = some g → y.2.ownBlock ≠ some g) ∧ ∀ x ∈ xs, (x.1.2 = [] ∧ x.2 = .slice none 0 0) ∨ (x.1.2 ≠ [] ∧ ∃ g, x.2.ownBlock = some g ∧ g < N)
theorem DIS.snoc {N M : Nat} {xs : List Bv} {x : Bv} (h : DIS N xs) (hx : (x.1.2 = [] ∧ x.2 = .slice none 0 0) ∨ (x.1.2 ≠ [] ∧ ∃ g, x.2.ownBlock = some g ∧ N ≤ g ∧ g < M)) (hN : N ≤ M) : DIS M (xs ++ [x]) := by
  refine ⟨List.pairwise_append.2 ⟨h.1, List.pairwise_singleton _ _, fun y hy z hz g hg hg2 => ?_⟩, fun y hy => ?_⟩
  · obtain rfl := List.mem_singleton.1 hz
    rcases hx with ⟨_, e⟩ | ⟨_, g', e, h1, _⟩
    · rw [e] at hg2; simp [Value.ownBlock] at hg2
    · rw [e] at hg2
      injection hg2 with hg2
      rcases h.2 y hy with ⟨_, e2⟩ | ⟨_, g2, e2, h2⟩
      · rw [e2] at hg; simp [Value.ownBlock] at hg
      · rw [e2] at hg; injection hg with hg; omega
  · rcases List.mem_append.1 hy with hy | hy
    · rcases h.2 y hy with h2 | ⟨h2, g2, e2, h3⟩
      · exact .inl h2
      · exact .inr ⟨h2, g2, e2, by omega⟩
    · obtain rfl := List.mem_singleton.1 hy
      rcases hx with h2 | ⟨h2, g2, e2, _, h3⟩
      · exact .inl h2
      · exact .inr ⟨h2, g2, e2, h3⟩
theorem DIS.mono {N M : Nat} {xs : List Bv} (h : DIS N xs) (hN : N ≤ M) : DIS M xs := ⟨h.1, fun x hx => (h.2 x hx).imp id fun ⟨a, g, e, h3⟩ => ⟨a, g, e, by omega⟩⟩
theorem DIS.filter {N : Nat} {xs : List Bv} (h : DIS N xs) (p : Bv → Bool) : DIS N (xs.filter p) := ⟨h.1.sublist List.filter_sublist, fun x hx => h.2 x (List.mem_filter.1 hx).1⟩
/-- OwnB, the boards' jumps in rows of their own. -/
def OwnD (w : World) (lo lj : Nat) (t tj : TypeId) (v : Value) (L : List Brd) : Prop :=
  ∃ xs : List Bv, xs.map (·.1) = L ∧ w.ownsRow lo t 4 v L.length (flatB xs) ∧ (∀ x ∈ xs, JV w lj tj x.1.2 x.2) ∧ DIS w.heap.size xs
section
variable {w w' : World} {lo lj : Nat} {t tj : TypeId} {v : Value} {L : List Brd}
theorem OwnD.own (h : OwnD w lo lj t tj v L) : OwnB w lo lj t tj v L := by obtain ⟨xs, a, b, c, _⟩ := h; exact ⟨xs, a, b, c⟩
theorem OwnD.nil (w : World) (lo lj : Nat) (t tj : TypeId) : OwnD w lo lj t tj (.slice none 0 0) [] := ⟨[], rfl, World.ownsRow_nil _ _ _ _, (fun x hx => by cases hx), ⟨List.Pairwise.nil, fun x hx => by cases hx⟩⟩
theorem OwnD.go (h : OwnD w lo lj t tj v L) (hb : Below w.heap.size w w') : OwnD w' lo lj t tj v L := by
  obtain ⟨xs, e, ho, hx, hd⟩ := h
  exact ⟨xs, e, own_below ho hb, fun x hm => (hx x hm).go hb, hd.mono hb.size⟩
theorem OwnD.lowerD {lo' lj' : Nat} (h : OwnD w lo lj t tj v L) (hl : lo' ≤ lo) (hl2 : lj' ≤ lj) : OwnD w lo' lj' t tj v L := by
  obtain ⟨xs, e, ho, hx, hd⟩ := h
  refine ⟨xs, e, ?_, fun x hm => ?_, hd⟩
  · obtain ⟨h0, h | ⟨g, cap, cs, e1, hg, r⟩⟩ := ho
    · exact ⟨h0, .inl h⟩
    · exact ⟨h0, .inr ⟨g, cap, cs, e1, Nat.le_trans hl hg, r⟩⟩
  · obtain ⟨A, c, e2, hc, hj⟩ := hx x hm
    exact ⟨A, c, e2, hc, hj.imp id fun ⟨g, e3, h1, h2⟩ => ⟨g, e3, Nat.le_trans hl2 h1, h2⟩⟩
theorem OwnD.snoc {v0 v' : Value} {xs : List Bv} {x : Bv} (e : xs.map (·.1) = L) (ho : w.ownsRow lo t 4 v0 L.length (flatB xs)) (hxs : ∀ y ∈ xs, JV w lj tj y.1.2 y.2) (hx : JV w lj tj x.1.2 x.2) (hg : w.grownBy w' v0.ownBlock) (ht : tj ≠ t)
    (h : w'.ownsRow lo t 4 v' (L.length + 1) (flatB xs ++ cellsB x)) (hd : DIS w'.heap.size (xs ++ [x])) : OwnD w' lo lj t tj v' (L ++ [x.1]) := by
  refine ⟨xs ++ [x], by simp [e], by rw [flatB_snoc, List.length_append]; exact h, fun y hy => ?_, hd⟩
  rcases List.mem_append.1 hy with hy | hy
  · exact (hxs y hy).grown ho hg ht
  · obtain rfl := List.mem_singleton.1 hy
    exact hx.grown ho hg ht
theorem OwnD.rv (h : OwnD w lo lj t tj v L) (hL : 0 < L.length) : ∃ b cap xs, v = .slice (some ⟨b, 0, none⟩) L.length cap ∧ lo ≤ b ∧ cap ≤ maxLen ∧ L.length ≤ cap ∧ xs.map (·.1) = L ∧ RV w b t cap xs ∧ (∀ x ∈ xs, JV w lj tj x.1.2 x.2) ∧ DIS w.heap.size xs := by
  obtain ⟨xs, e, ho, hx, hd⟩ := h
  have hlen : xs.length = L.length := by rw [← e]; simp
  rcases ho.2 with ⟨_, h0⟩ | ⟨g, cap, cs, rfl, hg, hh, hn, hm, hsz, htk⟩
  · omega
  · exact ⟨g, cap, xs, rfl, hg, hm, hn, e, ⟨cs, hh, hsz, by omega, by rw [hlen]; exact htk⟩, hx, hd⟩
theorem RV.ownD {b cap : Nat} {zs : List Bv} (h : RV w b t cap zs) (hlo : lo ≤ b) (hm : cap ≤ maxLen) (hx : ∀ x ∈ zs, JV w lj tj x.1.2 x.2) (hd : DIS w.heap.size zs) : OwnD w lo lj t tj (.slice (some ⟨b, 0, none⟩) (zs.map (·.1)).length cap) (zs.map (·.1)) := by
  obtain ⟨cs, hh, hs, hn, htk⟩ := h
  refine ⟨zs, rfl, ⟨by rw [flatB_len]; simp, .inr ⟨b, cap, cs, rfl, hlo, hh, by simpa using hn, hm, hs, ?_⟩⟩, hx, hd⟩
  simpa using htk
end

set_option maxRecDepth 100000 in
set_option maxHeartbeats 1000000 in
theorem boards_dis (S : Nat) (f : Int) (w : World) (hS : 1 ≤ S ∧ S ≤ 10) :
    Calls Try.prog 90 #[.agg #[.int .i64 (S : Int), .int .i64 f]] w fun e w' => ∃ v, e = .returned v ∧ OwnD w' w.heap.size w.heap.size 44 101 v (oversL S f S 3) ∧ Below w.heap.size w w' := by
  obtain ⟨ti, hi, hz0, hz1, hz2⟩ := info_parts infoBoardW
  go_enter Try.func90, Try.ntmps90
  go_wp2
  go_loopw [3, 4] (fun v q wr => ∃ m : Nat, m ≤ 3 ∧ q = .int .i64 (m : Int) ∧ OwnD wr (w.heap.size + 1) (w.heap.size + 1) 44 101 v (oversL S f S m) ∧ Below (w.heap.size + 1) (w.alloc (.cells #[.int .i64 (S : Int), .int .i64 f] 79)) wr) (fun _ q _ => 3 - (intOf q).toNat)
  case atStart => exact ⟨0, by omega, rfl, OwnD.nil _ _ _ _ _, Below.refl _ _⟩
  case round =>
    obtain ⟨m, hm, rfl, hB, hb⟩ := hrel
    by_cases hlt : m < 3
    · have h1 : (m : Int) ≤ 2 := by omega
      have hlen := oversL_len (S : Int) f S hS.2 m
      obtain ⟨xs, hxe, hown, hxj, hxd⟩ := hB
      have hs : w.heap.size + 1 ≤ wr.heap.size := by have := hb.size; simpa using this
      have qq := boxcells hb
      go_wp2_with (at_builtin; go_loud (refine wpList_append_own_at _ rfl _ _ 29 rfl (w.heap.size + 1) 44 ti (.agg #[.int .i64 0, .int .i64 0, .int .i64 0, .slice none 0 0]) 4 48 Try.underlying29 hi hz0 hz1 hz2 rfl (by decide) _ _ _ rfl ((hown.alloc _).alloc _) ⟨wr.heap.size + 1, 0, none⟩ 1 1 (cellsB ((((S : Int), f, (m : Int)), []), .slice none 0 0)) rfl rfl (cellsB_new _ 44 ((((S : Int), f, (m : Int)), []), .slice none 0 0) _ (by simp)) (cellsB_one _ rfl) (by unfold maxLen; omega) (by omega) (by simp; omega) ?_; intro v1 w4 ho4 hg4 _ hat4))
      have hO4 := OwnD.snoc (x := ((((S : Int), f, (m : Int)), []), .slice none 0 0)) hxe ((hown.alloc _).alloc _) (fun y hy => (hxj y hy).go (below2 _ _ _)) (JV.nil _ _ _) hg4 (show 101 ≠ 44 by decide) ho4 (hxd.snoc (.inl ⟨rfl, rfl⟩) (by have := hg4.size; simp at this; omega))
      have hb4 := ((hb.alloc hs _).alloc (by simp; omega) _).grown hg4 (by simp; omega) (fun g hg => own_from hown g hg)
      have kb4 := (hg4.block wr.heap.size (by simp; omega) (fun e => by have := own_ltB hown _ e.symm; omega)).trans ((Below.heap_alloc _ _ _ (by simp)).trans (heap_alloc_at wr (.cells #[.int .i64 (S : Int), .int .i64 f, .int .i64 (m : Int), .slice none 0 0] 44) _ rfl))
      have hnb4 : ∀ g, v1.ownBlock = some g → g ≠ wr.heap.size := fun g hg => hat4.elim (fun h => by have := own_ltB hown g (h.symm.trans hg); omega) (fun h => by have h' := h.symm.trans hg; simp at h'; omega)
      have hBB : BB w4 wr.heap.size 44 (S : Int) f (m : Int) v1 := ⟨⟨_, kb4⟩, hnb4⟩
      obtain ⟨B0, hB0⟩ : ∃ B0, B0 = wr.heap.size := ⟨_, rfl⟩
      rw [← hB0] at hBB hs ⊢
      obtain ⟨P, hP⟩ : ∃ P, P = oversL (S : Int) f S m ++ [(((S : Int), f, (m : Int)), [])] := ⟨_, rfl⟩
      rw [← hP] at hO4
      have hPl : P.length ≤ m * 100 + 1 := by rw [hP]; simpa using hlen
      have HP := Lib.hid hP
      clear hP hlen hown hxj hxe hxd ho4 hg4 hat4 hb kb4 hnb4 qq hB0
      go_loopw [3, 6] (fun v q wr2 => ∃ k : Nat, k ≤ S - 1 ∧ q = .int .i64 ((k : Int) + 1) ∧ OwnD wr2 (w.heap.size + 1) (w.heap.size + 1) 44 101 v (P ++ fromsL (S : Int) f m S k) ∧ BB wr2 B0 44 (S : Int) f (m : Int) v ∧ Below (w.heap.size + 1) (w.alloc (.cells #[.int .i64 (S : Int), .int .i64 f] 79)) wr2) (fun _ q _ => S - (intOf q).toNat)
      case atStart => exact ⟨0, by omega, rfl, by simpa [fromsL] using hO4, hBB, hb4⟩
      case round =>
        clear hO4 hb4 hBB
        obtain ⟨k, hk, rfl, hB, hBB, hb⟩ := hrel
        have qq := boxcells hb
        by_cases hlk : k < S - 1
        · have h2 : (k : Int) + 1 < (S : Int) := by omega
          have hlf := fromsL_len (S : Int) f m S hS.2 k
          obtain ⟨Q, hQ⟩ : ∃ Q, Q = P ++ fromsL (S : Int) f m S k := ⟨_, rfl⟩
          rw [← hQ] at hB
          have hQl : Q.length ≤ m * 100 + 1 + k * 11 := by rw [hQ]; simp; omega
          have HQ := Lib.hid hQ
          clear hQ hlf
          go_wp2
          clear qq
          go_loopw [3, 7] (fun v q wr3 => ∃ t : Nat, t ≤ S + 1 ∧ q = .int .i64 (t : Int) ∧ OwnD wr3 (w.heap.size + 1) (w.heap.size + 1) 44 101 v (Q ++ tosL (S : Int) f m ((k : Int) + 1) t) ∧ BB wr3 B0 44 (S : Int) f (m : Int) v ∧ Below (w.heap.size + 1) (w.alloc (.cells #[.int .i64 (S : Int), .int .i64 f] 79)) wr3) (fun _ q _ => S + 1 - (intOf q).toNat)
          case atStart => exact ⟨0, by omega, rfl, by simpa [tosL] using hB, hBB, hb⟩
          case round =>
            clear hB hb hBB
            obtain ⟨t, ht, rfl, hB, hBB, hb⟩ := hrel
            have hs3 : w.heap.size + 1 ≤ wr.heap.size := by have := hb.size; simpa using this
            have qq := boxcells hb
            by_cases hlt : t < S + 1
            · have h3 : (t : Int) ≤ (S : Int) := by omega
              by_cases he : (t : Int) = (k : Int) + 1
              · have HE := Lib.hid he
                go_wp2
                go_roundw
                case rel => exact ⟨t + 1, by omega, by go_num, by rw [tosL, if_pos HE.out, List.append_nil]; exact hB, hBB, hb⟩
                case measure => simp [intOf]; omega
              · have hlt' := tosL_len (S : Int) f m ((k : Int) + 1) t
                obtain ⟨ys, hye, hown, hyj, hyd⟩ := hB
                rw [List.length_append] at hown
                have HNE := Lib.hid he
                obtain ⟨⟨vj, kb⟩, hnb⟩ := hBB
                have hB0w := heap_lt kb
                have qb := fun i => cell_of_row wr B0 i _ _ _ kb
                have zb := fun i => frozen_row (i := i) kb
                have HKB := Lib.hid kb; have HNB := Lib.hid hnb
                clear hnb kb
                go_wp2_with (at_builtin; go_loud (refine wpList_append_own_at _ rfl _ _ 29 rfl (w.heap.size + 1) 44 ti (.agg #[.int .i64 0, .int .i64 0, .int .i64 0, .slice none 0 0]) 4 48 Try.underlying29 hi hz0 hz1 hz2 rfl (by decide) _ _ _ rfl (((own_setB hown ⟨B0, 3, none⟩ _ HNB.out).alloc _).alloc _) ⟨wr.heap.size + 1, 0, none⟩ 1 1 (cellsB ((((S : Int), f, (m : Int)), [((k : Int) + 1, (t : Int))]), .slice (some ⟨wr.heap.size, 0, none⟩) 1 1)) rfl rfl (cellsB_new _ 44 ((((S : Int), f, (m : Int)), [((k : Int) + 1, (t : Int))]), .slice (some ⟨wr.heap.size, 0, none⟩) 1 1) _ (by simp)) (cellsB_one _ rfl) (by unfold maxLen; omega) (by omega) (by simp; omega) ?_; intro v1 w4 ho4 hg4 _ hat4))
                have hO4 := OwnD.snoc (L := Q ++ tosL (S : Int) f m ((k : Int) + 1) t) (x := ((((S : Int), f, (m : Int)), [((k : Int) + 1, (t : Int))]), .slice (some ⟨wr.heap.size, 0, none⟩) 1 1)) hye (by rw [List.length_append]; exact ((own_setB hown ⟨B0, 3, none⟩ _ HNB.out).alloc _).alloc _) (fun y hy => ((hyj y hy).set B0 3 _ HKB.out (show 101 ≠ 44 by decide)).go (below2 _ _ _)) ((JV.one_ (wr.setCell ⟨B0, 3, none⟩ (.slice (some ⟨wr.heap.size, 0, none⟩) 1 1)) (w.heap.size + 1) 101 _ _ wr.heap.size (by simp) hs3).go (below1 _ _)) hg4 (show 101 ≠ 44 by decide) (by rw [List.length_append]; exact ho4) (hyd.snoc (.inr ⟨by simp, wr.heap.size, rfl, Nat.le_refl _, by have := hg4.size; simp at this; omega⟩) (by have := hg4.size; simp at this; omega))
                have hb4 := (((hb.setCell (p := ⟨B0, 3, none⟩) (by dsimp only; omega) (.slice (some ⟨wr.heap.size, 0, none⟩) 1 1)).alloc (by simp; omega) _).alloc (by simp; omega) _).grown hg4 (by simp; omega) (fun g hg => own_from hown g hg)
                have kb4 := (hg4.block B0 (by simp; omega) (fun e => HNB.out B0 e.symm rfl)).trans ((Below.heap_alloc _ _ _ (by simp; omega)).trans ((Below.heap_alloc _ _ _ (by simp; omega)).trans (heap_set _ B0 3 _ _ (.slice (some ⟨wr.heap.size, 0, none⟩) 1 1) HKB.out)))
                simp only [List.setIfInBounds_toArray, List.set_cons_zero, List.set_cons_succ] at kb4
                have hnb4 : ∀ g, v1.ownBlock = some g → g ≠ B0 := fun g hg => hat4.elim (fun h => HNB.out g (h.symm.trans hg)) (fun h => by have h' := h.symm.trans hg; simp at h'; omega)
                have hBB4 : BB w4 B0 44 (S : Int) f (m : Int) v1 := ⟨⟨_, kb4⟩, hnb4⟩
                clear hown hyj hye hyd ho4 hg4 hat4 kb4 hnb4
                go_roundw
                case rel => exact ⟨t + 1, by omega, by go_num, by rw [tosL, if_neg HNE.out, ← List.append_assoc]; exact hO4, hBB4, hb4⟩
                case measure => simp [intOf]; omega
            · obtain rfl : t = S + 1 := by omega
              have h3 : ¬ (((S + 1 : Nat) : Int)) ≤ (S : Int) := by omega
              go_wp2
              go_roundw
              case rel => exact ⟨k + 1, by omega, by go_num, by rw [fromsL, ← List.append_assoc, ← HQ.out]; exact hB, hBB, hb⟩
              case measure => simp [intOf]; omega
        · obtain rfl : k = S - 1 := by omega
          have h2 : ¬ ((S - 1 : Nat) : Int) + 1 < (S : Int) := by omega
          go_wp2
          go_roundw
          case rel => exact ⟨m + 1, by omega, by go_num, by rw [oversL, ← HP.out]; exact hB, hb⟩
          case measure => simp [intOf]; omega
    · obtain rfl : m = 3 := by omega
      have h1 : ¬ ((3 : Nat) : Int) ≤ 2 := by omega
      go_wp2
      go_ret
      exact ⟨_, rfl, hB.lowerD (by omega) (by omega), (below1 _ _).trans (hb.mono (by omega))⟩
set_option maxRecDepth 100000 in
set_option maxHeartbeats 1000000 in
theorem thatFit_dis (S : Nat) (f : Int) (A : Option Addr) (cp : Nat) (cs : List Qd) (w : World) (hS : 1 ≤ S ∧ S ≤ 10) (hf : 1 ≤ f ∧ f ≤ 8) (hL : RQ w w.heap.size A cs) (hq : ∀ q ∈ cs, clQ (S : Int) f q = true) :
    Calls Try.prog 65 #[.agg #[.int .i64 (S : Int), .int .i64 f], .slice A cs.length cp] w fun e w' => ∃ v, e = .returned v ∧ OwnD w' w.heap.size w.heap.size 44 101 v (keepL (oversL S f S 3) cs) ∧ Below w.heap.size w w' := by
  have hl := hL.1
  have hLh := oversL_hid hS hf 3 (Nat.le_refl _)
  have hLl := oversL_len (S : Int) f S hS.2 3
  have hLp := oversL_pos (S : Int) f S
  obtain ⟨L, hLL⟩ : ∃ L, L = oversL (S : Int) f S 3 := ⟨_, rfl⟩
  rw [← hLL] at hLh hLl hLp ⊢
  have HLL := Lib.hid hLL; have HLH := Lib.hid hLh; have HQ := Lib.hid hq
  clear hLL hLh hq
  go_enter Try.func65, Try.ntmps65
  go_wp2_with fail
  refine (boards_dis S f _ hS).mono ?_
  rintro e w2 ⟨vb, rfl, hOb, hx⟩
  simp only [World.size_alloc] at hx hOb
  rw [← HLL.out] at hOb
  obtain ⟨b, cap, xs, rfl, hb1, hcm, hcap, hxs, hrv, hjv, hdis⟩ := hOb.rv hLp
  have hxl : xs.length = L.length := by rw [← hxs]; simp
  have hb2 : Below w.heap.size w w2 := (below2 _ _ _).trans (hx.mono (by omega))
  have hs2 : w.heap.size + 1 + 1 ≤ w2.heap.size := by have := hx.size; simpa using this
  have hcl := fun i => cell_of_row w2 (w.heap.size + 1) i _ _ _ ((hx.block (w.heap.size + 1) (by omega)).trans (heap_alloc_at _ (.cells #[.slice A cs.length cp] 32) _ (by simp)))
  have hbl := hrv.lt
  have hB3 : ∀ w3, w2.grownBy w3 (some b) → Below w.heap.size w w3 := fun w3 hg => hb2.grown hg hb2.size (fun g e => by injection e with e; omega)
  have hD : DelIs w2 b (w.heap.size + 1) xs (fun x => cs.all (fitX x.1)) := by
    intro x hx2 w3 hg
    have hj3 := (hjv x hx2).grownT hrv hg (show 101 ≠ 44 by decide)
    have hX : HidX (S : Int) f x.1 := HLH.out _ (by rw [← hxs]; exact List.mem_map_of_mem hx2)
    have hc3 : w3.cell? ⟨w.heap.size + 1, 0, none⟩ = some (.slice A cs.length cp) := by
      have h1 := hg.block (w.heap.size + 1) (by omega) (by intro e; injection e with e; omega)
      have h2 := hcl 0
      unfold World.cell? at h2 ⊢
      simp only at h2 ⊢
      rw [h1]; exact h2
    have hs3 := hg.size
    obtain ⟨⟨⟨s', f', o⟩, js⟩, v⟩ := x
    obtain ⟨A', c', e2, hcj, hOJ⟩ := hj3
    dsimp only at e2 hOJ hX ⊢
    subst e2
    have hgd : good ⟨s', f', o, js⟩ = true := (hidB_parts hX.2.2).1
    have hwf := good_wfJ hgd
    have hjl : js.length ≤ 1048576 := by have := (good_sizes hgd).2.2.2; omega
    exact delFit_any ((s', f', o), js) A' c' cs A cp (w.heap.size + 1) (S : Int) f w3 hX HQ.out (hL.go (hB3 w3 hg)) (hOJ.rj hjl hwf) (by omega) hc3
  have HD := Lib.hid (delB_any b cap (w.heap.size + 1) xs (fun x => cs.all (fitX x.1)) w2 hrv (by omega) (fun x hx2 => by obtain ⟨A', c', e, _⟩ := hjv x hx2; exact ⟨A', c', e⟩) hD)
  rw [hxl] at HD
  have HJ := Lib.hid hjv; have HX := Lib.hid hxs; have HB := Lib.hid hB3; have HRV := Lib.hid hrv
  clear hD hjv hxs hOb hB3 hrv hcl
  go_wp2_with fail
  refine HD.out.mono ?_
  rintro e w3 ⟨rfl, hr3, hg3⟩
  have hown := hr3.ownD (lo := w.heap.size) (lj := w.heap.size) (tj := 101) (by omega) hcm (fun x hm => by
    obtain ⟨A', c', e2, hcj, hOJ⟩ := (HJ.out x (List.mem_filter.1 hm).1).grownT HRV.out hg3 (show 101 ≠ 44 by decide)
    exact ⟨A', c', e2, hcj, hOJ.imp id fun ⟨g, e3, h1, h2⟩ => ⟨g, e3, by omega, h2⟩⟩) ((hdis.filter _).mono hg3.size)
  rw [keepL_map, HX.out] at hown
  have hlen : (List.filter (fun x => cs.all (fitX x.1)) xs).length = (keepL L cs).length := by rw [← HX.out, ← keepL_map, List.length_map]
  rw [hlen]
  have HO := Lib.hid hown
  have hb3 := HB.out w3 hg3
  clear hr3 hg3 hown hlen
  go_wp2
  go_ret
  exact ⟨_, rfl, HO.out, hb3⟩

set_option maxRecDepth 100000 in
set_option maxHeartbeats 1000000 in
theorem implSolutions_dis (S : Nat) (f : Int) (A : Option Addr) (cp : Nat) (L : List Qd) (w : World) (hL : RQ w w.heap.size A L) (h : pzB (S : Int) f L = true) :
    Calls Try.prog 20 #[.agg #[.int .i64 (S : Int), .int .i64 f, .slice A L.length cp]] w fun e w' => ∃ v, e = .returned (.tuple #[v, .bool true]) ∧ OwnD w' w.heap.size w.heap.size 44 101 v (keepL (oversL S f S 3) L) ∧ Below w.heap.size w w' := by
  have hl := hL.1
  obtain ⟨S0, hS0, hS, hf, hq⟩ := pz_yes h
  obtain rfl : S0 = S := by omega
  have HQ := Lib.hid hq
  have H := Lib.hid h
  clear h hS0 hq
  go_enter Try.func20, Try.ntmps20
  go_wp2_with fail
  refine (hiddenOf_yes (S0 : Int) f A cp L _ (hL.go (below1 _ _)) H.out).mono ?_
  rintro e w2 ⟨rfl, hx⟩
  have hb := (below1 w _).trans (hx.mono (by simp))
  have hs := hb.size
  have hs2 : w.heap.size < w2.heap.size := by have := hx.size; simp at this; omega
  have hb1 := box_on (Below.refl _ _) hx (by simp)
  have qq := boxcells hb1
  go_wp2_with fail
  refine (thatFit_dis S0 f A cp L _ hS hf (hL.go (hb.alloc hb.size _)) HQ.out).mono ?_
  rintro e w3 ⟨v, rfl, hO, hx3⟩
  simp only [World.size_alloc] at hO hx3
  have HO := Lib.hid (hO.lowerD (lo' := w.heap.size) (lj' := w.heap.size) (by omega) (by omega))
  have hb3 := (hb.alloc hb.size _).trans (hx3.mono (by omega))
  clear hO hb1 qq
  go_wp2
  go_ret2
  exact ⟨v, rfl, HO.out, hb3⟩

end Go.Proofs.Ytjngiinfpoappaa

namespace Go.Proofs.Ytjngiinfpoappaa
open Go.RowKit

/-- A slice at A reads as the boards K, below block B. -/
def RBd (w : World) (B : Nat) (A : Option Addr) (K : List Brd) : Prop :=
  K.length ≤ 1048576 ∧ ∀ k (h : k < K.length), ∃ b Aj cj, A = some ⟨b, 0, none⟩ ∧ b < B ∧ w.cell? ⟨b, k * 4, none⟩ = some (.int .i64 K[k].1.1) ∧ w.cell? ⟨b, k * 4 + 1, none⟩ = some (.int .i64 K[k].1.2.1) ∧ w.cell? ⟨b, k * 4 + 2, none⟩ = some (.int .i64 K[k].1.2.2) ∧ w.cell? ⟨b, k * 4 + 3, none⟩ = some (.slice Aj K[k].2.length cj) ∧ RJ w B Aj K[k].2
theorem RBd.below {w w' : World} {B : Nat} {A : Option Addr} {K : List Brd} (h : RBd w B A K) (hb : Below B w w') : RBd w' B A K :=
  ⟨h.1, fun k hk => by obtain ⟨b, Aj, cj, e, hB, x0, x1, x2, x3, hj⟩ := h.2 k hk; exact ⟨b, Aj, cj, e, hB, (bcell hb hB).trans x0, (bcell hb hB).trans x1, (bcell hb hB).trans x2, (bcell hb hB).trans x3, hj.below hb⟩⟩
theorem RBd.more {w : World} {B B' : Nat} {A : Option Addr} {K : List Brd} (h : RBd w B A K) (hB : B ≤ B') : RBd w B' A K :=
  ⟨h.1, fun k hk => by obtain ⟨b, Aj, cj, e, hb, x0, x1, x2, x3, hj⟩ := h.2 k hk; exact ⟨b, Aj, cj, e, by omega, x0, x1, x2, x3, hj.more hB⟩⟩
/-- Boards whose jumps are few and small. -/
def FewJ (K : List Brd) : Prop := K.length ≤ 1000 ∧ ∀ x ∈ K, x.2.length ≤ 1 ∧ wfJ x.2
theorem OwnB.rb {w : World} {lo lj : Nat} {t tj : TypeId} {A : Option Addr} {c : Nat} {K : List Brd} (h : OwnB w lo lj t tj (.slice A K.length c) K) (hK : FewJ K) : RBd w w.heap.size A K := by
  refine ⟨by have := hK.1; omega, fun k hk => ?_⟩
  obtain ⟨g, c1, vk, e, _, hg, hJ, x0, x1, x2, x3⟩ := h.at_ hk
  injection e with e _ _
  obtain ⟨Aj, cj, rfl, _, hOJ⟩ := hJ
  have hx := hK.2 _ (List.getElem_mem hk)
  exact ⟨g, Aj, cj, e, hg, x0, x1, x2, x3, hOJ.rj (by omega) hx.2⟩

set_option maxRecDepth 100000 in
set_option maxHeartbeats 1000000 in
theorem eqBoardS_same (A A' : Option Addr) (c c' : Nat) (K : List Brd) (w : World) (h : RBd w w.heap.size A K) (h' : RBd w w.heap.size A' K) :
    Calls Try.prog 21 #[.slice A K.length c, .slice A' K.length c'] w fun e w' => e = .returned (.bool true) ∧ Below w.heap.size w w' := by
  have hl := h.1
  have hq : ((K.length : Int) != (K.length : Int)) = false := by simp
  have HR := Lib.hid h; have HR' := Lib.hid h'
  clear h h'
  go_enter Try.func21, Try.ntmps21
  go_wp2
  go_loopw [5] (fun i wr => ∃ k : Nat, k ≤ K.length ∧ i = .int .i64 k ∧ Below w.heap.size w wr) (fun i _ => K.length - (intOf i).toNat)
  case atStart => exact ⟨0, Nat.zero_le _, rfl, Below.refl _ _⟩
  case round =>
    obtain ⟨k, hk, rfl, hb⟩ := hrel
    have hsz := hb.size
    by_cases hlt : k < K.length
    · have h1 : (k : Int) < (K.length : Int) := by omega
      obtain ⟨b, Aj, cj, rfl, hB, x0, x1, x2, x3, hj⟩ := (HR.out.below hb).2 k hlt
      obtain ⟨b', Aj', cj', rfl, hB', y0, y1, y2, y3, hj'⟩ := (HR'.out.below hb).2 k hlt
      obtain ⟨x, hxe⟩ : ∃ x, x = K[k] := ⟨_, rfl⟩
      rw [← hxe] at x0 x1 x2 x3 hj y0 y1 y2 y3 hj'
      obtain ⟨⟨s, f, o⟩, js⟩ := x
      dsimp only at x0 x1 x2 x3 hj y0 y1 y2 y3 hj'
      have he : (s == s && f == f && o == o && js == js) = true := by simp
      clear hxe
      go_wp2
      go_still_tail 8, (by kernel_rfl)
      change wpList _ _ _ _ _ wr.drew
      go_wp2_with (go_at_call 30; refine (eqBoard_any s f o s f o Aj Aj' cj cj' js js wr.drew ((hj.more hsz)) ((hj'.more hsz))).mono ?_; rintro e w2 ⟨rfl, hb2⟩; rw [he])
      go_roundw
      case rel => exact ⟨k + 1, by omega, by go_num, hb.drew.trans (hb2.mono hsz)⟩
      case measure => simp [intOf]; omega
    · obtain rfl : k = K.length := by omega
      go_wp2
      go_ret
      exact ⟨rfl, hb⟩

/-- How many numbers a board holds. -/
def wt (x : Brd) : Nat := 3 + 2 * x.2.length
def wts : List Brd → Nat
  | [] => 0
  | x :: t => wt x + wts t
/-- A board with marks from k on. -/
def mkB (x : Brd) (k : Int) : Brd := ((k, k + 1, k + 2), (List.range x.2.length).map (marksJ (k + 3)))
def mkL : List Brd → Int → List Brd
  | [], _ => []
  | x :: t, k => mkB x k :: mkL t (k + (wt x : Int))
theorem mkL_len : ∀ (K : List Brd) (k : Int), (mkL K k).length = K.length
  | [], _ => rfl
  | x :: t, k => by simp [mkL, mkL_len t]
theorem wts_take_succ : ∀ (K : List Brd) (k : Nat) (h : k < K.length), wts (K.take (k + 1)) = wts (K.take k) + wt K[k]
  | x :: t, 0, _ => by simp [wts]
  | x :: t, k + 1, h => by
    have := wts_take_succ t k (by simpa using h)
    simp only [List.take_succ_cons, wts, List.getElem_cons_succ]
    omega
theorem wts_take_le : ∀ (K : List Brd) (k : Nat), wts (K.take k) ≤ wts K
  | [], k => by simp [wts]
  | x :: t, 0 => by simp [wts]
  | x :: t, k + 1 => by have := wts_take_le t k; simp only [List.take_succ_cons, wts]; omega
theorem mkL_at : ∀ (K : List Brd) (k0 : Int) (k : Nat) (h : k < K.length), (mkL K k0)[k]'(by rw [mkL_len]; exact h) = mkB K[k] (k0 + (wts (K.take k) : Int))
  | x :: t, k0, 0, _ => by simp [mkL, wts]
  | x :: t, k0, k + 1, h => by
    have := mkL_at t (k0 + (wt x : Int)) k (by simpa using h)
    simp only [mkL, List.getElem_cons_succ, this, List.take_succ_cons, wts]
    congr 1
    simp only [Int.natCast_add]; omega
/-- The list when the first k boards are marked. -/
def midL (K : List Brd) (k0 : Int) (k : Nat) : List Brd := (mkL K k0).take k ++ K.drop k
theorem midL_len (K : List Brd) (k0 : Int) (k : Nat) (h : k ≤ K.length) : (midL K k0 k).length = K.length := by simp [midL, mkL_len]; omega
theorem midL_at (K : List Brd) (k0 : Int) (k : Nat) (h : k < K.length) : (midL K k0 k)[k]'(by rw [midL_len K k0 k (by omega)]; exact h) = K[k] := by
  have hl : ((mkL K k0).take k).length = k := by simp [mkL_len]; omega
  simp only [midL]
  rw [List.getElem_append_right (by omega)]
  simp [hl]
theorem midL_set (K : List Brd) (k0 : Int) (k : Nat) (h : k < K.length) : (midL K k0 k).set k (mkB K[k] (k0 + (wts (K.take k) : Int))) = midL K k0 (k + 1) := by
  have hl : ((mkL K k0).take k).length = k := by simp [mkL_len]; omega
  rw [midL, List.set_append_right _ _ (by omega), hl, Nat.sub_self, List.drop_eq_getElem_cons h, List.set_cons_zero, midL, List.take_succ_eq_append_getElem (by rw [mkL_len]; exact h), mkL_at K k0 k h]
  simp
theorem mkB_len (x : Brd) (k : Int) : (mkB x k).2.length = x.2.length := by simp [mkB]
theorem mkB_at (x : Brd) (k : Int) : ∀ i < x.2.length, (mkB x k).2.getD i (0, 0) = marksJ (k + 3) i := by
  intro i hi
  simp only [mkB]
  rw [List.getD_eq_getElem?_getD, List.getElem?_map, List.getElem?_range hi]
  rfl
theorem flatB_set3 (a b c : Int) (js : List (Int × Int)) : ∀ (zs : List Bv) (k : Nat) (h : k < zs.length), (((flatB zs).set (k * 4) (.int .i64 a)).set (k * 4 + 1) (.int .i64 b)).set (k * 4 + 2) (.int .i64 c) = flatB (zs.set k (((a, b, c), js), zs[k].2))
  | x :: t, 0, _ => by simp [flatB, cellsB]
  | x :: t, k + 1, h => by
    have := flatB_set3 a b c js t k (by simpa using h)
    have e : flatB (x :: t) = .int .i64 x.1.1.1 :: .int .i64 x.1.1.2.1 :: .int .i64 x.1.1.2.2 :: x.2 :: flatB t := rfl
    have e2 : flatB ((x :: t).set (k + 1) (((a, b, c), js), (x :: t)[k + 1].2)) = .int .i64 x.1.1.1 :: .int .i64 x.1.1.2.1 :: .int .i64 x.1.1.2.2 :: x.2 :: flatB (t.set k (((a, b, c), js), (t[k]'(by simpa using h)).2)) := rfl
    rw [e, e2, ← this, show (k + 1) * 4 = k * 4 + 1 + 1 + 1 + 1 from by omega, show k * 4 + 1 + 1 + 1 + 1 + 1 = (k * 4 + 1) + 1 + 1 + 1 + 1 from rfl, show k * 4 + 1 + 1 + 1 + 1 + 2 = (k * 4 + 2) + 1 + 1 + 1 + 1 from by omega]
    simp only [List.set_cons_succ]
theorem RV.set3 {w : World} {b cap : Nat} {t : TypeId} {zs : List Bv} (h : RV w b t cap zs) (k : Nat) (hk : k < zs.length) (x y z : Int) (js : List (Int × Int)) :
    RV (((w.setCell ⟨b, k * 4, none⟩ (.int .i64 x)).setCell ⟨b, k * 4 + 1, none⟩ (.int .i64 y)).setCell ⟨b, k * 4 + 2, none⟩ (.int .i64 z)) b t cap (zs.set k (((x, y, z), js), zs[k].2)) := by
  obtain ⟨cs, h, hs, hn, htk⟩ := h
  refine ⟨_, heap_set _ b _ _ t _ (heap_set _ b _ _ t _ (heap_set _ b _ _ t _ h)), by simpa using hs, by simpa using hn, ?_⟩
  rw [List.length_set, ← flatB_set3 x y z js zs k hk, ← htk]
  simp only [Array.toList_setIfInBounds, List.take_set]
theorem DIS.set {N M : Nat} {xs : List Bv} (h : DIS N xs) (k : Nat) (hk : k < xs.length) (y : Brd) (hy : y.2.length = xs[k].1.2.length) (hN : N ≤ M) : DIS M (xs.set k (y, xs[k].2)) := by
  have hv : ∀ i (hi : i < (xs.set k (y, xs[k].2)).length), ((xs.set k (y, xs[k].2))[i]).2 = (xs[i]'(by simpa using hi)).2 := fun i hi => by
    rw [List.getElem_set]
    split
    · rename_i e; subst e; rfl
    · rfl
  refine ⟨List.pairwise_iff_getElem.2 fun i j hi hj hij g hg => ?_, fun x hx => ?_⟩
  · rw [hv] at hg ⊢
    exact List.pairwise_iff_getElem.1 h.1 i j (by simpa using hi) (by simpa using hj) hij g hg
  · obtain ⟨i, hi, rfl⟩ := List.mem_iff_getElem.1 hx
    have hi2 : i < xs.length := by simpa using hi
    have h2 := h.2 _ (List.getElem_mem hi2)
    rw [hv]
    rw [List.getElem_set]
    split
    · rename_i e
      subst e
      rcases h2 with ⟨a, b⟩ | ⟨a, g, b, c⟩
      · exact .inl ⟨List.length_eq_zero_iff.1 (by rw [hy, a]; rfl), b⟩
      · exact .inr ⟨fun e => a (List.length_eq_zero_iff.1 (by rw [← hy, e]; rfl)), g, b, by omega⟩
    · rcases h2 with h2 | ⟨a, g, b, c⟩
      · exact .inl h2
      · exact .inr ⟨a, g, b, by omega⟩

end Go.Proofs.Ytjngiinfpoappaa

namespace Go.Proofs.Ytjngiinfpoappaa
open Go.RowKit

theorem mkB_eq (x : Brd) (k : Int) : mkB x k = ((k, k + 1, k + 1 + 1), (mkB x k).2) := by
  simp only [mkB]
  rw [show k + 1 + 1 = k + 2 by omega]

set_option maxRecDepth 100000 in
set_option maxHeartbeats 2000000 in
theorem markBoardS_any (A : Option Addr) (c n lo : Nat) (K : List Brd) (k0 : Int) (w : World) (h : OwnD w lo lo 44 101 (.slice A n c) K) (hn : n = K.length) (hl : n ≤ 1000) (hj : ∀ x ∈ K, x.2.length ≤ 1000) (h0 : 0 ≤ k0) (h1 : k0 + (wts K : Int) ≤ 100000000) :
    Calls Try.prog 24 #[.slice A n c, .int .i64 k0] w fun e w' => e = .returned (.int .i64 (k0 + (wts K : Int))) ∧ OwnD w' lo lo 44 101 (.slice A n c) (mkL K k0) ∧ (∀ B, B ≤ lo → Below B w w') ∧ w'.heap.size = w.heap.size := by
  have HJ := Lib.hid hj; have HN := Lib.hid hn
  clear hj hn
  go_enter Try.func24, Try.ntmps24
  go_wp2
  go_loopw [1, 5] (fun v i wr => ∃ k : Nat, k ≤ n ∧ i = .int .i64 k ∧ v = .int .i64 (k0 + (wts (K.take k) : Int)) ∧ OwnD wr lo lo 44 101 (.slice A n c) (midL K k0 k) ∧ Hid (∀ B, B ≤ lo → Below B w wr) ∧ Hid (wr.heap.size = w.heap.size)) (fun _ i _ => n - (intOf i).toNat)
  case atStart => exact ⟨0, Nat.zero_le _, rfl, by simp [wts], by simpa [midL] using h, Lib.hid (fun _ _ => Below.refl _ _), Lib.hid rfl⟩
  case round =>
    clear h
    obtain ⟨k, hk, rfl, rfl, hO, hbl, hsz⟩ := hrel
    have hwt := wts_take_le K k
    by_cases hlt : k < n
    · have hlt2 : (k : Int) < (n : Int) := by omega
      have hkK : k < K.length := by rw [← HN.out]; exact hlt
      have hml := midL_len K k0 k (by omega)
      obtain ⟨b, cap, xs, e1, hlo, hcm, hcap, hxs, hrv, hjv, hdis⟩ := hO.rv (by omega)
      injection e1 with e1 hnl e2
      clear hnl
      subst e1 e2
      have hxl : xs.length = K.length := by rw [← hml, ← hxs]; simp
      have hkx : k < xs.length := by omega
      have hxk : xs[k].1 = K[k] := by
        have := midL_at K k0 k hkK
        rw [← this]
        simp [← hxs]
      obtain ⟨d0, d1, d2, d3⟩ := hrv.at_ hkx
      have f0 := hrv.free (k * 4)
      have f1 := hrv.free (k * 4 + 1)
      have f2 := hrv.free (k * 4 + 2)
      have hwS := wts_take_succ K k hkK
      have hwT := wts_take_le K (k + 1)
      have hjl := HJ.out _ (List.getElem_mem hkK)
      have hset := midL_set K k0 k hkK
      obtain ⟨K1, hK1⟩ : ∃ K1 : Int, K1 = k0 + (wts (K.take k) : Int) := ⟨_, rfl⟩
      have hK1b : 0 ≤ K1 ∧ K1 + (wt K[k] : Int) ≤ 100000000 := ⟨by omega, by omega⟩
      have hwS2 : k0 + (wts (K.take (k + 1)) : Int) = K1 + (wt K[k] : Int) := by omega
      rw [← hK1] at hset ⊢
      have hJk := hjv _ (List.getElem_mem hkx)
      have hDk := hdis.2 _ (List.getElem_mem hkx)
      rw [hxk] at hJk d0 d1 d2 hDk
      obtain ⟨Aj, cj, hvj, hcj, hOJ⟩ := hJk
      rw [hvj] at d3
      obtain ⟨x, hxe⟩ : ∃ x, x = K[k] := ⟨_, rfl⟩
      rw [← hxe] at d0 d1 d2 d3 hjl hK1b hwS2 hset hOJ hDk hcj hvj hxk
      obtain ⟨⟨s, f, o⟩, js⟩ := x
      dsimp only at d0 d1 d2 d3 hjl hOJ hDk hcj hvj
      have hwt3 : (wt ((s, f, o), js) : Int) = 3 + 2 * (js.length : Int) := by simp [wt]
      rw [hwt3] at hK1b hwS2
      obtain ⟨w1, hw1⟩ : ∃ w1, w1 = ((wr.setCell ⟨b, k * 4, none⟩ (.int .i64 K1)).setCell ⟨b, k * 4 + 1, none⟩ (.int .i64 (K1 + 1))).setCell ⟨b, k * 4 + 2, none⟩ (.int .i64 (K1 + 1 + 1)) := ⟨_, rfl⟩
      have hg1 : wr.grownBy w1 (some b) := by rw [hw1]; exact grown_setCell (grown_setCell (grown_setCell (grown_refl wr (some b)) ⟨b, k * 4, none⟩ _ rfl) ⟨b, k * 4 + 1, none⟩ _ rfl) ⟨b, k * 4 + 2, none⟩ _ rfl
      have hs1 : w1.heap.size = wr.heap.size := by rw [hw1]; simp
      have hrv1 : RV w1 b 44 c (xs.set k (((K1, K1 + 1, K1 + 1 + 1), (mkB ((s, f, o), js) K1).2), xs[k].2)) := by rw [hw1]; exact hrv.set3 k hkx K1 (K1 + 1) (K1 + 1 + 1) _
      have hjv1 : ∀ x ∈ xs, JV w1 lo 101 x.1.2 x.2 := fun x hx => (hjv x hx).grownT hrv hg1 (show 101 ≠ 44 by decide)
      have hB1 : ∀ B, B ≤ lo → Below B wr w1 := fun B hB => by rw [hw1]; exact (((Below.refl B wr).setCell (by dsimp only; omega) _).setCell (by dsimp only; omega) _).setCell (by dsimp only; omega) _
      have hOJ1 : OJ w1 lo 101 Aj js.length (fun i => js.getD i (0, 0)) := by
        have hh := hjv1 _ (List.getElem_mem hkx)
        rw [hxk, hvj] at hh
        obtain ⟨A2, c2, e, _, ho⟩ := hh
        injection e with e _ _
        subst e
        exact ho
      have HW1 := Lib.hid hw1; have HRV1 := Lib.hid hrv1; have HJV1 := Lib.hid hjv1; have HB1 := Lib.hid hB1; have HSET := Lib.hid hset; have HDK := Lib.hid hDk; have HDIS := Lib.hid hdis; have HXS := Lib.hid hxs; have HXK := Lib.hid hxk; have HVJ := Lib.hid hvj; have HWS := Lib.hid hwS2; have HS1 := Lib.hid hs1
      have HML := Lib.hid hml; have HXL := Lib.hid hxl
      clear hml hxl hwt hwT
      clear hw1 hrv1 hjv1 hB1 hset hDk hdis hxs hxk hvj hwS2 hwS hjv hrv hO hOJ hg1 hK1 hxe hs1 hwt3
      go_wp2_with fail
      rw [← HW1.out]
      rw [show K1 + 1 + 1 + 1 = K1 + 3 by omega]
      refine (markJumpS_any Aj js.length cj lo _ (K1 + 3) w1 hOJ1 (by omega) (by omega) (by omega)).mono ?_
      rintro e w2 ⟨rfl, hO2, hg2, hs2, hB2⟩
      have hAb : ∀ g, Aj.map (·.block) = some g → Value.ownBlock (.slice Aj js.length cj) = some g := fun g hg => by
        cases Aj with
        | none => cases hg
        | some a => simpa [Value.ownBlock] using hg
      have hrv2 : RV w2 b 44 c (xs.set k (((K1, K1 + 1, K1 + 1 + 1), (mkB ((s, f, o), js) K1).2), xs[k].2)) := HRV1.out.keep (hg2.block b HRV1.out.lt (fun e => by
        rcases HDK.out with ⟨_, h2⟩ | ⟨h2, _⟩
        · rw [HVJ.out] at h2; injection h2 with h2; rw [h2] at e; cases e
        · rcases hOJ1 with h3 | ⟨g, e3, _, hr⟩
          · exact h2 (List.length_eq_zero_iff.1 h3)
          · rw [e3] at e
            injection e with e
            dsimp only at e
            subst e
            obtain ⟨cs, hh, _⟩ := hr
            obtain ⟨cs', hh', _⟩ := HRV1.out
            rw [hh'] at hh
            injection hh with hh
            injection hh with _ hh _
            exact absurd hh (by decide)))
      have hjv2 : ∀ x ∈ xs.set k (((K1, K1 + 1, K1 + 1 + 1), (mkB ((s, f, o), js) K1).2), xs[k].2), JV w2 lo 101 x.1.2 x.2 := fun x hx => by
        obtain ⟨i, hi, rfl⟩ := List.mem_iff_getElem.1 hx
        have hi2 : i < xs.length := by simpa using hi
        rw [List.getElem_set]
        split
        · dsimp only
          rw [HVJ.out]
          have hml := mkB_len ((s, f, o), js) K1
          dsimp only at hml
          refine ⟨Aj, cj, by rw [hml], by rw [hml]; exact hcj, ?_⟩
          rw [hml]
          exact hO2.congr (fun i hi => (mkB_at ((s, f, o), js) K1 i hi).symm)
        · rename_i hne
          obtain ⟨A2, c2, e2, hc2, ho⟩ := HJV1.out _ (List.getElem_mem hi2)
          refine ⟨A2, c2, e2, hc2, ho.imp id fun ⟨g, e3, hg3, hr⟩ => ⟨g, e3, hg3, hr.grown hg2 (fun e4 => ?_)⟩⟩
          have h5 : Value.ownBlock xs[i].2 = some g := by rw [e2, e3]; rfl
          have h6 : Value.ownBlock xs[k].2 = some g := by rw [HVJ.out]; exact hAb g e4.symm
          rcases Nat.lt_or_ge i k with h7 | h7
          · exact List.pairwise_iff_getElem.1 HDIS.out.1 i k hi2 hkx h7 g h5 h6
          · exact List.pairwise_iff_getElem.1 HDIS.out.1 k i hkx hi2 (by omega) g h6 h5
      have hdis2 : DIS w2.heap.size (xs.set k (((K1, K1 + 1, K1 + 1 + 1), (mkB ((s, f, o), js) K1).2), xs[k].2)) := HDIS.out.set k hkx _ (by rw [HXK.out]; exact mkB_len _ _) (by have := HS1.out; omega)
      have hown2 := hrv2.ownD hlo hcm hjv2 hdis2
      have hmap : (xs.set k (((K1, K1 + 1, K1 + 1 + 1), (mkB ((s, f, o), js) K1).2), xs[k].2)).map (·.1) = midL K k0 (k + 1) := by
        rw [← HSET.out, ← HXS.out, List.map_set]
        exact congrArg (fun z => (xs.map (·.1)).set k z) (mkB_eq _ _).symm
      rw [hmap, midL_len K k0 (k + 1) (by omega), ← HN.out] at hown2
      have hs22 : w2.heap.size = w.heap.size := by rw [hs2, HS1.out]; exact hsz.out
      have hb2 : ∀ B, B ≤ lo → Below B w w2 := fun B hB => (hbl.out B hB).trans ((HB1.out B hB).trans (hB2 B hB))
      have HO := Lib.hid hown2; have HB2 := Lib.hid hb2; have HS2 := Lib.hid hs22
      clear hrv2 hjv2 hdis2 hown2 hmap hs22 hb2 hO2 hg2 hs2 hB2 hAb hOJ1
      go_wp2
      go_roundw
      case rel => exact ⟨k + 1, by omega, by go_num, by rw [HWS.out]; congr 1; omega, HO.out, HB2, HS2⟩
      case measure => simp [intOf]; omega
    · obtain rfl : k = n := by omega
      have h2 : ¬ (k : Int) < (k : Int) := by omega
      have ht : K.take k = K := by rw [HN.out]; exact List.take_of_length_le (Nat.le_refl _)
      have hm : midL K k0 k = mkL K k0 := by rw [midL, HN.out, List.drop_eq_nil_of_le (Nat.le_refl _), List.append_nil, List.take_of_length_le (by rw [mkL_len]; exact Nat.le_refl _)]
      rw [ht]
      rw [hm] at hO
      have HO := Lib.hid hO
      clear hO hm ht
      go_wp2
      go_ret
      exact ⟨rfl, HO.out, hbl.out, hsz.out⟩

end Go.Proofs.Ytjngiinfpoappaa

namespace Go.Proofs.Ytjngiinfpoappaa
open Go.RowKit

set_option maxRecDepth 100000 in
set_option maxHeartbeats 2000000 in
theorem heldBoardS_any (A : Option Addr) (c n lo : Nat) (K : List Brd) (k0 : Int) (w : World) (h : OwnD w lo lo 44 101 (.slice A n c) (mkL K k0)) (hn : n = K.length) (hl : n ≤ 1000) (hj : ∀ x ∈ K, x.2.length ≤ 1000) (h0 : 0 ≤ k0) (h1 : k0 + (wts K : Int) ≤ 100000000) :
    Calls Try.prog 25 #[.slice A n c, .int .i64 k0] w fun e w' => e = .returned (.int .i64 (k0 + (wts K : Int))) ∧ w = w' := by
  have HJ := Lib.hid hj; have HN := Lib.hid hn; have HO := Lib.hid h.own
  clear hj hn h
  go_enter Try.func25, Try.ntmps25
  go_wp2
  go_loop [1, 5] (fun v i => ∃ k : Nat, k ≤ n ∧ i = .int .i64 k ∧ v = .int .i64 (k0 + (wts (K.take k) : Int))) (fun _ i => n - (intOf i).toNat)
  case atStart => exact ⟨0, Nat.zero_le _, rfl, by simp [wts]⟩
  case round =>
    obtain ⟨k, hk, rfl, rfl⟩ := hrel
    have hwt := wts_take_le K k
    by_cases hlt : k < n
    · have hlt2 : (k : Int) < (n : Int) := by omega
      have hkK : k < K.length := by rw [← HN.out]; exact hlt
      have hml := mkL_len K k0
      obtain ⟨g, c1, vk, e1, _, _, hJ, x0, x1, x2, x3⟩ := HO.out.at_ (k := k) (by omega)
      injection e1 with e1 hnl e2
      clear hnl
      subst e1 e2
      rw [mkL_at K k0 k hkK] at hJ x0 x1 x2
      have hwS := wts_take_succ K k hkK
      have hwT := wts_take_le K (k + 1)
      have hjl := HJ.out _ (List.getElem_mem hkK)
      obtain ⟨K1, hK1⟩ : ∃ K1 : Int, K1 = k0 + (wts (K.take k) : Int) := ⟨_, rfl⟩
      have hK1b : 0 ≤ K1 ∧ K1 + (wt K[k] : Int) ≤ 100000000 := ⟨by omega, by omega⟩
      have hwS2 : k0 + (wts (K.take (k + 1)) : Int) = K1 + (wt K[k] : Int) := by omega
      rw [← hK1] at hJ x0 x1 x2 ⊢
      obtain ⟨x, hxe⟩ : ∃ x, x = K[k] := ⟨_, rfl⟩
      rw [← hxe] at hJ x0 x1 x2 hjl hK1b hwS2
      have hmb := mkB_len x K1
      have hma := mkB_at x K1
      obtain ⟨Aj, cj, rfl, _, hOJ⟩ := hJ
      rw [hmb] at hOJ x3
      have hOM : OJ w lo 101 Aj x.2.length (marksJ (K1 + 3)) := hOJ.congr hma
      have y0 : w.cell? ⟨g, k * 4, none⟩ = some (.int .i64 K1) := x0
      have y1 : w.cell? ⟨g, k * 4 + 1, none⟩ = some (.int .i64 (K1 + 1)) := x1
      have y2 : w.cell? ⟨g, k * 4 + 2, none⟩ = some (.int .i64 (K1 + 1 + 1)) := by rw [show K1 + 1 + 1 = K1 + 2 by omega]; exact x2
      obtain ⟨m, hm⟩ : ∃ m, m = x.2.length := ⟨_, rfl⟩
      have hwt3 : (wt x : Int) = 3 + 2 * (m : Int) := by rw [hm]; simp [wt]
      rw [hwt3] at hK1b hwS2
      rw [← hm] at hOM x3 hjl
      have hnn : ¬ K1 + 1 + 1 + 1 + 2 * (m : Int) < 0 := by omega
      have HOM := Lib.hid hOM; have HWS := Lib.hid hwS2
      clear hOJ hOM hma hmb x0 x1 x2 hxe hK1 hwS hwS2 hwt3 hm hml hwt hwT
      go_wp2_with (go_at_call 69; go_loud (rw [show K1 + 1 + 1 + 1 = K1 + 3 by omega]; refine (heldJumpS_any Aj m cj lo (K1 + 3) w HOM.out (by omega) (by omega) (by omega)).mono ?_; rintro e w2 ⟨rfl, rfl⟩))
      go_round
      case rel => exact ⟨k + 1, by omega, by go_num, by rw [HWS.out]; congr 1; omega⟩
      case measure => simp [intOf]; omega
    · obtain rfl : k = n := by omega
      have h2 : ¬ (k : Int) < (k : Int) := by omega
      have ht : K.take k = K := by rw [HN.out]; exact List.take_of_length_le (Nat.le_refl _)
      rw [ht]
      clear ht
      go_wp2
      go_ret
      exact ⟨rfl, rfl⟩
end Go.Proofs.Ytjngiinfpoappaa

namespace Go.Proofs.Ytjngiinfpoappaa
open Go.RowKit

theorem wts_le : ∀ (K : List Brd), (∀ x ∈ K, x.2.length ≤ 1) → wts K ≤ 5 * K.length
  | [], _ => Nat.zero_le _
  | x :: t, h => by
    have h1 := wts_le t (fun y hy => h y (List.mem_cons_of_mem _ hy))
    have h2 := h x (List.mem_cons_self)
    simp only [wts, wt, List.length_cons]
    omega
theorem keepL_few {S : Nat} {f : Int} {L : List Qd} (hS : 1 ≤ S ∧ S ≤ 10) (hf : 1 ≤ f ∧ f ≤ 8) : FewJ (keepL (oversL (S : Int) f S 3) L) :=
  ⟨by have := keepL_len S f L hS.2; omega, fun x hx => by
    have hX := oversL_hid hS hf 3 (Nat.le_refl _) x (List.mem_filter.1 hx).1
    have hp := hidB_parts hX.2.2
    exact ⟨hp.2.2, good_wfJ hp.1⟩⟩
theorem OwnD.grown {w w' : World} {lo lj : Nat} {t tj : TypeId} {v : Value} {L : List Brd} {row : Option Nat} (h : OwnD w lo lj t tj v L) (hg : w.grownBy w' row) (hne : ∀ g, row = some g → g < lo ∧ g < lj) : OwnD w' lo lj t tj v L := by
  obtain ⟨xs, e, ⟨h0, ho⟩, hx, hd⟩ := h
  refine ⟨xs, e, ⟨h0, ?_⟩, fun x hm => ?_, hd.mono hg.size⟩
  · rcases ho with ho | ⟨g, cap, cs, e1, hgl, hh, r⟩
    · exact .inl ho
    · exact .inr ⟨g, cap, cs, e1, hgl, (hg.block g (heap_lt hh) (fun e => by have := (hne g e.symm).1; omega)).trans hh, r⟩
  · obtain ⟨A, c, e2, hc, hj⟩ := hx x hm
    exact ⟨A, c, e2, hc, hj.grown hg (fun g e => (hne g e).2)⟩

set_option maxRecDepth 100000 in
set_option maxHeartbeats 1000000 in
theorem specSolutions_no (q f : Int) (A : Option Addr) (cp : Nat) (L : List Qd) (w : World) (hL : RQ w w.heap.size A L) (h : pzB q f L = false) : Calls Try.prog 18 #[.agg #[.int .i64 q, .int .i64 f, .slice A L.length cp]] w fun e w' => e = .returned (.tuple #[.slice none 0 0, .bool false]) ∧ Below w.heap.size w w' := by
  have hl := hL.1
  have H := Lib.hid h
  clear h
  go_enter Try.func18, Try.ntmps18
  go_wp2_with fail
  refine (pzGood_any q f A cp L _ (hL.go (below1 _ _))).mono ?_
  rintro e w2 ⟨rfl, hx⟩
  rw [H.out]
  go_wp2
  go_ret2
  exact ⟨rfl, (below1 w _).trans (hx.mono (by simp))⟩
set_option maxRecDepth 100000 in
set_option maxHeartbeats 1000000 in
theorem specSolutions_yes (S : Nat) (f : Int) (A : Option Addr) (cp : Nat) (L : List Qd) (w : World) (hL : RQ w w.heap.size A L) (h : pzB (S : Int) f L = true) :
    Calls Try.prog 18 #[.agg #[.int .i64 (S : Int), .int .i64 f, .slice A L.length cp]] w fun e w' => ∃ v, e = .returned (.tuple #[v, .bool true]) ∧ OwnB w' w.heap.size w.heap.size 44 101 v (keepL (oversL S f S 3) L) ∧ Below w.heap.size w w' := by
  have hl := hL.1
  obtain ⟨S0, hS0, hS, hf, hq⟩ := pz_yes h
  obtain rfl : S0 = S := by omega
  have HQ := Lib.hid hq
  have H := Lib.hid h
  clear h hS0 hq
  go_enter Try.func18, Try.ntmps18
  go_wp2_with fail
  refine (pzGood_any (S0 : Int) f A cp L _ (hL.go (below1 _ _))).mono ?_
  rintro e w2 ⟨rfl, hx⟩
  rw [H.out]
  have hb := (below1 w _).trans (hx.mono (by simp))
  have hb1 := box_on (Below.refl _ _) hx (by simp)
  have qq := boxcells hb1
  go_wp2_with fail
  refine (pzAll_any S0 f A A L.length cp cp L _ hS hf (hL.go hb) HQ.out).mono ?_
  rintro e w3 ⟨v, rfl, hO, hx3⟩
  have HO := Lib.hid (hO.lower (lo' := w.heap.size) (lj' := w.heap.size) hb.size hb.size)
  have hb3 := hb.trans (hx3.mono hb.size)
  clear hO hb1 qq
  go_wp2
  go_ret2
  exact ⟨v, rfl, HO.out, hb3⟩
theorem solutions_both (q f : Int) (L : List Qd) : ∃ (K : List Brd) (ok : Bool), FewJ K ∧ wts K ≤ 100000 ∧
    (∀ (A : Option Addr) (c : Nat) (w : World), RQ w w.heap.size A L → Calls Try.prog 18 #[.agg #[.int .i64 q, .int .i64 f, .slice A L.length c]] w fun e w' => ∃ A' c', e = .returned (.tuple #[.slice A' K.length c', .bool ok]) ∧ OwnB w' w.heap.size w.heap.size 44 101 (.slice A' K.length c') K ∧ Below w.heap.size w w') ∧
    (∀ (A : Option Addr) (c : Nat) (w : World), RQ w w.heap.size A L → Calls Try.prog 20 #[.agg #[.int .i64 q, .int .i64 f, .slice A L.length c]] w fun e w' => ∃ A' c', e = .returned (.tuple #[.slice A' K.length c', .bool ok]) ∧ OwnD w' w.heap.size w.heap.size 44 101 (.slice A' K.length c') K ∧ Below w.heap.size w w') := by
  cases h : pzB q f L
  · refine ⟨[], false, ⟨Nat.zero_le _, fun x hx => by cases hx⟩, Nat.zero_le _, fun A c w hL => ?_, fun A c w hL => ?_⟩
    · refine (specSolutions_no q f A c L w hL h).mono ?_
      rintro e w' ⟨rfl, hx⟩
      exact ⟨none, 0, rfl, OwnB.nil _ _ _ _ _, hx⟩
    · refine (implSolutions_no q f A c L w hL h).mono ?_
      rintro e w' ⟨rfl, hx⟩
      exact ⟨none, 0, rfl, OwnD.nil _ _ _ _ _, hx⟩
  · obtain ⟨S, rfl, hS, hf, hq⟩ := pz_yes h
    have hK := keepL_few (L := L) hS hf
    refine ⟨keepL (oversL (S : Int) f S 3) L, true, hK, Nat.le_trans (wts_le _ (fun x hx => (hK.2 x hx).1)) (by have := hK.1; omega), fun A c w hL => ?_, fun A c w hL => ?_⟩
    · refine (specSolutions_yes S f A c L w hL h).mono ?_
      rintro e w' ⟨v, rfl, hO, hx⟩
      obtain ⟨A', c', rfl, _⟩ := hO.slice
      exact ⟨A', c', rfl, hO, hx⟩
    · refine (implSolutions_dis S f A c L w hL h).mono ?_
      rintro e w' ⟨v, rfl, hO, hx⟩
      obtain ⟨A', c', rfl, _⟩ := hO.own.slice
      exact ⟨A', c', rfl, hO, hx⟩
end Go.Proofs.Ytjngiinfpoappaa

/-
  Puzzles: all hidden boards in their order; the model's pzBoards. Puzzles: all hidden boards, the program's.
-/
import Derived.Test.YtjngiinfpoappaaC9a
import Derived.Test.YtjngiinfpoappaaWBrd
import Derived.Maps.AppendAt
namespace Go.Proofs.Ytjngiinfpoappaa
open Go.RowKit

/-- The boards with a jump from a to one of the first t squares. -/
def tosL (s f o a : Int) : Nat → List Brd
  | 0 => []
  | t + 1 => tosL s f o a t ++ (if (t : Int) = a then [] else [((s, f, o), [(a, (t : Int))])])
/-- Those with a jump from one of the squares 1 .. k. -/
def fromsL (s f o : Int) (S : Nat) : Nat → List Brd
  | 0 => []
  | k + 1 => fromsL s f o S k ++ tosL s f o ((k : Int) + 1) (S + 1)
/-- Those with one of the first m rules for the end. -/
def oversL (s f : Int) (S : Nat) : Nat → List Brd
  | 0 => []
  | m + 1 => oversL s f S m ++ [((s, f, (m : Int)), [])] ++ fromsL s f m S (S - 1)
theorem tosL_len (s f o a : Int) : ∀ t, (tosL s f o a t).length ≤ t
  | 0 => Nat.le_refl _
  | t + 1 => by
    have := tosL_len s f o a t
    simp only [tosL, List.length_append]
    split <;> simp <;> omega
theorem fromsL_len (s f o : Int) (S : Nat) (hS : S ≤ 10) : ∀ k, (fromsL s f o S k).length ≤ k * 11
  | 0 => Nat.le_refl _
  | k + 1 => by
    have := fromsL_len s f o S hS k
    have := tosL_len s f o ((k : Int) + 1) (S + 1)
    simp only [fromsL, List.length_append]
    omega
theorem oversL_len (s f : Int) (S : Nat) (hS : S ≤ 10) : ∀ m, (oversL s f S m).length ≤ m * 100
  | 0 => Nat.le_refl _
  | m + 1 => by
    have := oversL_len s f S hS m
    have := fromsL_len s f m S hS (S - 1)
    simp only [oversL, List.length_append, List.length_singleton]
    omega
theorem infoBoardW : (Try.prog.info? 44).map (fun i => (i.zero, i.size, i.bytes)) = some (some (.agg #[.int .i64 0, .int .i64 0, .int .i64 0, .slice none 0 0]), 4, 48) := by kernel_rfl

theorem JV.one_ (w : World) (lo : Nat) (tj : TypeId) (a b : Int) (g : Nat) (hg : g = w.heap.size) (hl : lo ≤ g) : JV (w.alloc (.cells #[.int .i64 a, .int .i64 b] tj)) lo tj [(a, b)] (.slice (some ⟨g, 0, none⟩) 1 1) :=
  ⟨_, 1, rfl, Nat.le_refl _, .inr ⟨g, rfl, hl, _, heap_alloc_at w _ g hg, Nat.le_refl _, fun k hk => by
    obtain rfl : k = 0 := by simp at hk; exact hk
    exact ⟨rfl, rfl⟩⟩⟩
set_option maxRecDepth 100000 in
set_option maxHeartbeats 1000000 in
theorem pzBoards_any (S : Nat) (f : Int) (w : World) (hS : 1 ≤ S ∧ S ≤ 10) :
    Calls Try.prog 59 #[.int .i64 (S : Int), .int .i64 f] w fun e w' => ∃ v, e = .returned v ∧ OwnB w' w.heap.size w.heap.size 44 101 v (oversL S f S 3) ∧ Below w.heap.size w w' := by
  obtain ⟨ti, hi, hz0, hz1, hz2⟩ := info_parts infoBoardW
  go_enter Try.func59, Try.ntmps59
  go_wp2
  go_loopw [5, 6] (fun v q wr => ∃ m : Nat, m ≤ 3 ∧ q = .int .i64 (m : Int) ∧ OwnB wr w.heap.size w.heap.size 44 101 v (oversL S f S m) ∧ Below w.heap.size w wr) (fun _ q _ => 3 - (intOf q).toNat)
  case atStart => exact ⟨0, by omega, rfl, OwnB.nil _ _ _ _ _, Below.refl _ _⟩
  case round =>
    obtain ⟨m, hm, rfl, hB, hb⟩ := hrel
    by_cases hlt : m < 3
    · have h1 : (m : Int) < 3 := by omega
      have hlen := oversL_len (S : Int) f S hS.2 m
      obtain ⟨xs, hxe, hown, hxj⟩ := hB
      go_wp2_with (at_builtin; go_loud (refine wpList_append_own _ rfl _ _ 29 rfl w.heap.size 44 ti (.agg #[.int .i64 0, .int .i64 0, .int .i64 0, .slice none 0 0]) 4 48 Try.underlying29 hi hz0 hz1 hz2 rfl (by decide) _ _ _ rfl (hown.alloc _) ⟨wr.heap.size, 0, none⟩ 1 1 (cellsB ((((S : Int), f, (m : Int)), []), .slice none 0 0)) rfl rfl (cellsB_new wr 44 ((((S : Int), f, (m : Int)), []), .slice none 0 0) _ (by simp)) (cellsB_one _ rfl) (by unfold maxLen; omega) (by omega) (by have := hb.size; simp; omega) ?_; intro v1 w4 ho4 hg4 _))
      have hs := hb.size
      have hO4 := OwnB.snoc (x := ((((S : Int), f, (m : Int)), []), .slice none 0 0)) hxe (hown.alloc _) (fun y hy => (hxj y hy).go (below1 _ _)) (JV.nil _ _ _) hg4 (show 101 ≠ 44 by decide) ho4
      have hb4 := (hb.alloc hb.size _).grown hg4 (by simp; omega) (fun g hg => own_from hown g hg)
      obtain ⟨P, hP⟩ : ∃ P, P = oversL (S : Int) f S m ++ [(((S : Int), f, (m : Int)), [])] := ⟨_, rfl⟩
      rw [← hP] at hO4
      have hPl : P.length ≤ m * 100 + 1 := by rw [hP]; simpa using hlen
      have HP := Lib.hid hP
      clear hP hlen hown hxj hxe ho4 hg4 hb hs
      go_loopw [5, 7] (fun v q wr2 => ∃ k : Nat, k ≤ S - 1 ∧ q = .int .i64 ((k : Int) + 1) ∧ OwnB wr2 w.heap.size w.heap.size 44 101 v (P ++ fromsL (S : Int) f m S k) ∧ Below w.heap.size w wr2) (fun _ q _ => S - (intOf q).toNat)
      case atStart => exact ⟨0, by omega, rfl, by simpa [fromsL] using hO4, hb4⟩
      case round =>
        clear hO4 hb4
        obtain ⟨k, hk, rfl, hB, hb⟩ := hrel
        by_cases hlk : k < S - 1
        · have h2 : (k : Int) + 1 < (S : Int) := by omega
          have hlf := fromsL_len (S : Int) f m S hS.2 k
          obtain ⟨Q, hQ⟩ : ∃ Q, Q = P ++ fromsL (S : Int) f m S k := ⟨_, rfl⟩
          rw [← hQ] at hB
          have hQl : Q.length ≤ m * 100 + 1 + k * 11 := by rw [hQ]; simp; omega
          have HQ := Lib.hid hQ
          clear hQ hlf
          go_wp2
          go_loopw [5, 8] (fun v q wr3 => ∃ t : Nat, t ≤ S + 1 ∧ q = .int .i64 (t : Int) ∧ OwnB wr3 w.heap.size w.heap.size 44 101 v (Q ++ tosL (S : Int) f m ((k : Int) + 1) t) ∧ Below w.heap.size w wr3) (fun _ q _ => S + 1 - (intOf q).toNat)
          case atStart => exact ⟨0, by omega, rfl, by simpa [tosL] using hB, hb⟩
          case round =>
            clear hB hb
            obtain ⟨t, ht, rfl, hB, hb⟩ := hrel
            have hs := hb.size
            by_cases hlt : t < S + 1
            · have h3 : (t : Int) ≤ (S : Int) := by omega
              by_cases he : (t : Int) = (k : Int) + 1
              · have h4 : ((t : Int) != (k : Int) + 1) = false := by simp [he]
                have HE := Lib.hid he; clear he
                go_wp2
                go_roundw
                case rel => exact ⟨t + 1, by omega, by go_num, by rw [tosL, if_pos HE.out, List.append_nil]; exact hB, hb⟩
                case measure => simp [intOf]; omega
              · have h4 : ((t : Int) != (k : Int) + 1) = true := by simp [he]
                have hlt' := tosL_len (S : Int) f m ((k : Int) + 1) t
                obtain ⟨ys, hye, hown, hyj⟩ := hB
                rw [List.length_append] at hown
                have HNE := Lib.hid he
                go_wp2_with (at_builtin; go_loud (refine wpList_append_own _ rfl _ _ 29 rfl w.heap.size 44 ti (.agg #[.int .i64 0, .int .i64 0, .int .i64 0, .slice none 0 0]) 4 48 Try.underlying29 hi hz0 hz1 hz2 rfl (by decide) _ _ _ rfl ((hown.alloc _).alloc _) ⟨wr.heap.size + 1, 0, none⟩ 1 1 (cellsB ((((S : Int), f, (m : Int)), [((k : Int) + 1, (t : Int))]), .slice (some ⟨wr.heap.size, 0, none⟩) 1 1)) rfl rfl (cellsB_new _ 44 ((((S : Int), f, (m : Int)), [((k : Int) + 1, (t : Int))]), .slice (some ⟨wr.heap.size, 0, none⟩) 1 1) _ (by simp)) (cellsB_one _ rfl) (by unfold maxLen; omega) (by omega) (by simp; omega) ?_; intro v1 w4 ho4 hg4 _))
                have hO4 := OwnB.snoc (L := Q ++ tosL (S : Int) f m ((k : Int) + 1) t) (x := ((((S : Int), f, (m : Int)), [((k : Int) + 1, (t : Int))]), .slice (some ⟨wr.heap.size, 0, none⟩) 1 1)) hye (by rw [List.length_append]; exact (hown.alloc _).alloc _) (fun y hy => (hyj y hy).go (below2 _ _ _)) ((JV.one_ wr w.heap.size 101 _ _ wr.heap.size rfl hs).go (below1 _ _)) hg4 (show 101 ≠ 44 by decide) (by rw [List.length_append]; exact ho4)
                have hb4 := ((hb.alloc hs _).alloc (by simp; omega) _).grown hg4 (by simp; omega) (fun g hg => own_from hown g hg)
                clear hown hyj hye ho4 hg4
                go_roundw
                case rel => exact ⟨t + 1, by omega, by go_num, by rw [tosL, if_neg HNE.out, ← List.append_assoc]; exact hO4, hb4⟩
                case measure => simp [intOf]; omega
            · obtain rfl : t = S + 1 := by omega
              have h3 : ¬ (((S + 1 : Nat) : Int)) ≤ (S : Int) := by omega
              go_wp2
              go_roundw
              case rel => exact ⟨k + 1, by omega, by go_num, by rw [fromsL, ← List.append_assoc, ← HQ.out]; exact hB, hb⟩
              case measure => simp [intOf]; omega
        · obtain rfl : k = S - 1 := by omega
          have h2 : ¬ ((S - 1 : Nat) : Int) + 1 < (S : Int) := by omega
          go_wp2
          go_roundw
          case rel => exact ⟨m + 1, by omega, by go_num, by rw [oversL, ← HP.out]; exact hB, hb⟩
          case measure => simp [intOf]; omega
    · obtain rfl : m = 3 := by omega
      have h1 : ¬ ((3 : Nat) : Int) < 3 := by omega
      go_wp2
      go_ret
      exact ⟨_, rfl, hB, hb⟩
end Go.Proofs.Ytjngiinfpoappaa

namespace Go.Proofs.Ytjngiinfpoappaa
open Go.RowKit

theorem own_ltB {w : World} {base e size n : Nat} {v : Value} {xs : List Value} (h : w.ownsRow base e size v n xs) : ∀ g, v.ownBlock = some g → g < w.heap.size := by
  intro g hg
  rcases h.2 with ⟨rfl, _⟩ | ⟨g', cap, cs, rfl, _, hh, _⟩
  · simp [Value.ownBlock] at hg
  · simp [Value.ownBlock] at hg
    subst hg
    exact heap_lt hh
/-- A cell of another block is written: the row has stayed. -/
theorem own_setB {w : World} {base e size n : Nat} {v : Value} {xs : List Value} (h : w.ownsRow base e size v n xs) (p : Addr) (u : Value) (hne : ∀ g, v.ownBlock = some g → g ≠ p.block) : (w.setCell p u).ownsRow base e size v n xs := by
  obtain ⟨h0, h | ⟨g, cap, cs, rfl, hg, hh, r⟩⟩ := h
  · exact ⟨h0, .inl h⟩
  · exact ⟨h0, .inr ⟨g, cap, cs, rfl, hg, (Below.heap_setCell _ _ _ _ (hne g rfl)).trans hh, r⟩⟩
/-- A cell of a block of another type is written: the jumps have stayed. -/
theorem JV.set {w : World} {lo : Nat} {t tj : TypeId} {js : List (Int × Int)} {v : Value} {cs : Array Value} (h : JV w lo tj js v) (b i : Nat) (u : Value) (k : w.heap[b]? = some (.cells cs t (0, 0))) (ht : tj ≠ t) : JV (w.setCell ⟨b, i, none⟩ u) lo tj js v := by
  obtain ⟨A, c, e, hc, hj⟩ := h
  refine ⟨A, c, e, hc, ?_⟩
  rcases hj with h0 | ⟨g, eA, hl, hr⟩
  · exact .inl h0
  · refine .inr ⟨g, eA, hl, hr.keep (Below.heap_setCell _ _ _ _ fun hne => ?_)⟩
    obtain ⟨cs', hh, _⟩ := hr
    dsimp only at hne
    subst hne
    rw [k] at hh
    injection hh with hh
    injection hh with _ hh _
    exact ht hh.symm
theorem OwnB.lower {w : World} {lo lo' lj lj' : Nat} {t tj : TypeId} {v : Value} {L : List Brd} (h : OwnB w lo lj t tj v L) (hl : lo' ≤ lo) (hl2 : lj' ≤ lj) : OwnB w lo' lj' t tj v L := by
  obtain ⟨xs, e, ho, hx⟩ := h
  refine ⟨xs, e, ?_, fun x hm => ?_⟩
  · obtain ⟨h0, h | ⟨g, cap, cs, e1, hg, r⟩⟩ := ho
    · exact ⟨h0, .inl h⟩
    · exact ⟨h0, .inr ⟨g, cap, cs, e1, Nat.le_trans hl hg, r⟩⟩
  · obtain ⟨A, c, e2, hc, hj⟩ := hx x hm
    exact ⟨A, c, e2, hc, hj.imp id fun ⟨g, e3, h1, h2⟩ => ⟨g, e3, Nat.le_trans hl2 h1, h2⟩⟩
/-- The box b of the program's loops: block B0, a board, not the own row's block. -/
def BB (w : World) (B0 : Nat) (t : TypeId) (s f o : Int) (v : Value) : Prop := (∃ vj, w.heap[B0]? = some (.cells #[.int .i64 s, .int .i64 f, .int .i64 o, vj] t (0, 0))) ∧ ∀ g, v.ownBlock = some g → g ≠ B0

set_option maxRecDepth 100000 in
set_option maxHeartbeats 1000000 in
theorem boards_any (S : Nat) (f : Int) (w : World) (hS : 1 ≤ S ∧ S ≤ 10) :
    Calls Try.prog 90 #[.agg #[.int .i64 (S : Int), .int .i64 f]] w fun e w' => ∃ v, e = .returned v ∧ OwnB w' w.heap.size w.heap.size 44 101 v (oversL S f S 3) ∧ Below w.heap.size w w' := by
  obtain ⟨ti, hi, hz0, hz1, hz2⟩ := info_parts infoBoardW
  go_enter Try.func90, Try.ntmps90
  go_wp2
  go_loopw [3, 4] (fun v q wr => ∃ m : Nat, m ≤ 3 ∧ q = .int .i64 (m : Int) ∧ OwnB wr (w.heap.size + 1) (w.heap.size + 1) 44 101 v (oversL S f S m) ∧ Below (w.heap.size + 1) (w.alloc (.cells #[.int .i64 (S : Int), .int .i64 f] 79)) wr) (fun _ q _ => 3 - (intOf q).toNat)
  case atStart => exact ⟨0, by omega, rfl, OwnB.nil _ _ _ _ _, Below.refl _ _⟩
  case round =>
    obtain ⟨m, hm, rfl, hB, hb⟩ := hrel
    by_cases hlt : m < 3
    · have h1 : (m : Int) ≤ 2 := by omega
      have hlen := oversL_len (S : Int) f S hS.2 m
      obtain ⟨xs, hxe, hown, hxj⟩ := hB
      have hs : w.heap.size + 1 ≤ wr.heap.size := by have := hb.size; simpa using this
      have qq := boxcells hb
      go_wp2_with (at_builtin; go_loud (refine wpList_append_own_at _ rfl _ _ 29 rfl (w.heap.size + 1) 44 ti (.agg #[.int .i64 0, .int .i64 0, .int .i64 0, .slice none 0 0]) 4 48 Try.underlying29 hi hz0 hz1 hz2 rfl (by decide) _ _ _ rfl ((hown.alloc _).alloc _) ⟨wr.heap.size + 1, 0, none⟩ 1 1 (cellsB ((((S : Int), f, (m : Int)), []), .slice none 0 0)) rfl rfl (cellsB_new _ 44 ((((S : Int), f, (m : Int)), []), .slice none 0 0) _ (by simp)) (cellsB_one _ rfl) (by unfold maxLen; omega) (by omega) (by simp; omega) ?_; intro v1 w4 ho4 hg4 _ hat4))
      have hO4 := OwnB.snoc (x := ((((S : Int), f, (m : Int)), []), .slice none 0 0)) hxe ((hown.alloc _).alloc _) (fun y hy => (hxj y hy).go (below2 _ _ _)) (JV.nil _ _ _) hg4 (show 101 ≠ 44 by decide) ho4
      have hb4 := ((hb.alloc hs _).alloc (by simp; omega) _).grown hg4 (by simp; omega) (fun g hg => own_from hown g hg)
      have kb4 := (hg4.block wr.heap.size (by simp; omega) (fun e => by have := own_ltB hown _ e.symm; omega)).trans ((Below.heap_alloc _ _ _ (by simp)).trans (heap_alloc_at wr (.cells #[.int .i64 (S : Int), .int .i64 f, .int .i64 (m : Int), .slice none 0 0] 44) _ rfl))
      have hnb4 : ∀ g, v1.ownBlock = some g → g ≠ wr.heap.size := fun g hg => hat4.elim (fun h => by have := own_ltB hown g (h.symm.trans hg); omega) (fun h => by have h' := h.symm.trans hg; simp at h'; omega)
      have hBB : BB w4 wr.heap.size 44 (S : Int) f (m : Int) v1 := ⟨⟨_, kb4⟩, hnb4⟩
      obtain ⟨B0, hB0⟩ : ∃ B0, B0 = wr.heap.size := ⟨_, rfl⟩
      rw [← hB0] at hBB hs ⊢
      obtain ⟨P, hP⟩ : ∃ P, P = oversL (S : Int) f S m ++ [(((S : Int), f, (m : Int)), [])] := ⟨_, rfl⟩
      rw [← hP] at hO4
      have hPl : P.length ≤ m * 100 + 1 := by rw [hP]; simpa using hlen
      have HP := Lib.hid hP
      clear hP hlen hown hxj hxe ho4 hg4 hat4 hb kb4 hnb4 qq hB0
      go_loopw [3, 6] (fun v q wr2 => ∃ k : Nat, k ≤ S - 1 ∧ q = .int .i64 ((k : Int) + 1) ∧ OwnB wr2 (w.heap.size + 1) (w.heap.size + 1) 44 101 v (P ++ fromsL (S : Int) f m S k) ∧ BB wr2 B0 44 (S : Int) f (m : Int) v ∧ Below (w.heap.size + 1) (w.alloc (.cells #[.int .i64 (S : Int), .int .i64 f] 79)) wr2) (fun _ q _ => S - (intOf q).toNat)
      case atStart => exact ⟨0, by omega, rfl, by simpa [fromsL] using hO4, hBB, hb4⟩
      case round =>
        clear hO4 hb4 hBB
        obtain ⟨k, hk, rfl, hB, hBB, hb⟩ := hrel
        have qq := boxcells hb
        by_cases hlk : k < S - 1
        · have h2 : (k : Int) + 1 < (S : Int) := by omega
          have hlf := fromsL_len (S : Int) f m S hS.2 k
          obtain ⟨Q, hQ⟩ : ∃ Q, Q = P ++ fromsL (S : Int) f m S k := ⟨_, rfl⟩
          rw [← hQ] at hB
          have hQl : Q.length ≤ m * 100 + 1 + k * 11 := by rw [hQ]; simp; omega
          have HQ := Lib.hid hQ
          clear hQ hlf
          go_wp2
          clear qq
          go_loopw [3, 7] (fun v q wr3 => ∃ t : Nat, t ≤ S + 1 ∧ q = .int .i64 (t : Int) ∧ OwnB wr3 (w.heap.size + 1) (w.heap.size + 1) 44 101 v (Q ++ tosL (S : Int) f m ((k : Int) + 1) t) ∧ BB wr3 B0 44 (S : Int) f (m : Int) v ∧ Below (w.heap.size + 1) (w.alloc (.cells #[.int .i64 (S : Int), .int .i64 f] 79)) wr3) (fun _ q _ => S + 1 - (intOf q).toNat)
          case atStart => exact ⟨0, by omega, rfl, by simpa [tosL] using hB, hBB, hb⟩
          case round =>
            clear hB hb hBB
            obtain ⟨t, ht, rfl, hB, hBB, hb⟩ := hrel
            have hs3 : w.heap.size + 1 ≤ wr.heap.size := by have := hb.size; simpa using this
            have qq := boxcells hb
            by_cases hlt : t < S + 1
            · have h3 : (t : Int) ≤ (S : Int) := by omega
              by_cases he : (t : Int) = (k : Int) + 1
              · have HE := Lib.hid he
                go_wp2
                go_roundw
                case rel => exact ⟨t + 1, by omega, by go_num, by rw [tosL, if_pos HE.out, List.append_nil]; exact hB, hBB, hb⟩
                case measure => simp [intOf]; omega
              · have hlt' := tosL_len (S : Int) f m ((k : Int) + 1) t
                obtain ⟨ys, hye, hown, hyj⟩ := hB
                rw [List.length_append] at hown
                have HNE := Lib.hid he
                obtain ⟨⟨vj, kb⟩, hnb⟩ := hBB
                have hB0w := heap_lt kb
                have qb := fun i => cell_of_row wr B0 i _ _ _ kb
                have zb := fun i => frozen_row (i := i) kb
                have HKB := Lib.hid kb; have HNB := Lib.hid hnb
                clear hnb kb
                go_wp2_with (at_builtin; go_loud (refine wpList_append_own_at _ rfl _ _ 29 rfl (w.heap.size + 1) 44 ti (.agg #[.int .i64 0, .int .i64 0, .int .i64 0, .slice none 0 0]) 4 48 Try.underlying29 hi hz0 hz1 hz2 rfl (by decide) _ _ _ rfl (((own_setB hown ⟨B0, 3, none⟩ _ HNB.out).alloc _).alloc _) ⟨wr.heap.size + 1, 0, none⟩ 1 1 (cellsB ((((S : Int), f, (m : Int)), [((k : Int) + 1, (t : Int))]), .slice (some ⟨wr.heap.size, 0, none⟩) 1 1)) rfl rfl (cellsB_new _ 44 ((((S : Int), f, (m : Int)), [((k : Int) + 1, (t : Int))]), .slice (some ⟨wr.heap.size, 0, none⟩) 1 1) _ (by simp)) (cellsB_one _ rfl) (by unfold maxLen; omega) (by omega) (by simp; omega) ?_; intro v1 w4 ho4 hg4 _ hat4))
                have hO4 := OwnB.snoc (L := Q ++ tosL (S : Int) f m ((k : Int) + 1) t) (x := ((((S : Int), f, (m : Int)), [((k : Int) + 1, (t : Int))]), .slice (some ⟨wr.heap.size, 0, none⟩) 1 1)) hye (by rw [List.length_append]; exact ((own_setB hown ⟨B0, 3, none⟩ _ HNB.out).alloc _).alloc _) (fun y hy => ((hyj y hy).set B0 3 _ HKB.out (show 101 ≠ 44 by decide)).go (below2 _ _ _)) ((JV.one_ (wr.setCell ⟨B0, 3, none⟩ (.slice (some ⟨wr.heap.size, 0, none⟩) 1 1)) (w.heap.size + 1) 101 _ _ wr.heap.size (by simp) hs3).go (below1 _ _)) hg4 (show 101 ≠ 44 by decide) (by rw [List.length_append]; exact ho4)
                have hb4 := (((hb.setCell (p := ⟨B0, 3, none⟩) (by dsimp only; omega) (.slice (some ⟨wr.heap.size, 0, none⟩) 1 1)).alloc (by simp; omega) _).alloc (by simp; omega) _).grown hg4 (by simp; omega) (fun g hg => own_from hown g hg)
                have kb4 := (hg4.block B0 (by simp; omega) (fun e => HNB.out B0 e.symm rfl)).trans ((Below.heap_alloc _ _ _ (by simp; omega)).trans ((Below.heap_alloc _ _ _ (by simp; omega)).trans (heap_set _ B0 3 _ _ (.slice (some ⟨wr.heap.size, 0, none⟩) 1 1) HKB.out)))
                simp only [List.setIfInBounds_toArray, List.set_cons_zero, List.set_cons_succ] at kb4
                have hnb4 : ∀ g, v1.ownBlock = some g → g ≠ B0 := fun g hg => hat4.elim (fun h => HNB.out g (h.symm.trans hg)) (fun h => by have h' := h.symm.trans hg; simp at h'; omega)
                have hBB4 : BB w4 B0 44 (S : Int) f (m : Int) v1 := ⟨⟨_, kb4⟩, hnb4⟩
                clear hown hyj hye ho4 hg4 hat4 kb4 hnb4
                go_roundw
                case rel => exact ⟨t + 1, by omega, by go_num, by rw [tosL, if_neg HNE.out, ← List.append_assoc]; exact hO4, hBB4, hb4⟩
                case measure => simp [intOf]; omega
            · obtain rfl : t = S + 1 := by omega
              have h3 : ¬ (((S + 1 : Nat) : Int)) ≤ (S : Int) := by omega
              go_wp2
              go_roundw
              case rel => exact ⟨k + 1, by omega, by go_num, by rw [fromsL, ← List.append_assoc, ← HQ.out]; exact hB, hBB, hb⟩
              case measure => simp [intOf]; omega
        · obtain rfl : k = S - 1 := by omega
          have h2 : ¬ ((S - 1 : Nat) : Int) + 1 < (S : Int) := by omega
          go_wp2
          go_roundw
          case rel => exact ⟨m + 1, by omega, by go_num, by rw [oversL, ← HP.out]; exact hB, hb⟩
          case measure => simp [intOf]; omega
    · obtain rfl : m = 3 := by omega
      have h1 : ¬ ((3 : Nat) : Int) ≤ 2 := by omega
      go_wp2
      go_ret
      exact ⟨_, rfl, hB.lower (by omega) (by omega), (below1 _ _).trans (hb.mono (by omega))⟩
end Go.Proofs.Ytjngiinfpoappaa

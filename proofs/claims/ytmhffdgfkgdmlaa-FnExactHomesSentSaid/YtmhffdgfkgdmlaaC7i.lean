/-
  Tracks: the program's pawnsOn.
-/
import Derived.Test.YtmhffdgfkgdmlaaC7h
namespace Go.Proofs.Ytmhffdgfkgdmlaa
open Go.RowKit

theorem infoPawn : (Try.prog.info? 163).map (fun i => (i.zero, i.size, i.bytes)) = some (some (.agg #[.int .i64 0, .int .i64 0]), 2, 16) := by kernel_rfl
theorem cells_two (w : World) (u v : Value) (t : TypeId) : ∀ (j : Nat) x, [u, v][j]? = some x → (w.alloc (.cells #[u, v] t)).cell? ((⟨w.heap.size, 0, none⟩ : Addr).add j) = some x := by
  intro j x h
  match j, h with
  | 0, h => simp at h; subst h; simp [Addr.add, World.cell?_alloc_at _ _ _ _ rfl]
  | 1, h => simp at h; subst h; simp [Addr.add, World.cell?_alloc_at _ _ _ _ rfl]
theorem two_ints (x y : Int) : ∀ u ∈ [Value.int .i64 x, .int .i64 y], u.oneCell' = true := by intro u hu; simp at hu; rcases hu with rfl | rfl <;> rfl

set_option maxRecDepth 100000 in
set_option maxHeartbeats 2000000 in
theorem pawnsOn_any (g : Nat) (q f k : Int) (A : Option Addr) (c : Nat) (S : Nat → Bool) (st : List Int) (w : World) (hR : RA w g 75 q f k A st.length c S) (hj : RI w w.heap.size A st) (F : Nat → Nat → Int) (s : Int) (h4 : 4 ≤ q) (h6 : q ≤ 60) (hk : 0 ≤ k) (hk4 : k ≤ 4) (hn : st.length ≤ 4) (h0 : ∀ p (h : p < st.length), 0 ≤ st[p] ∧ st[p] < q) (hs : 0 ≤ s) :
    Calls Try.prog 141 #[.pointer (some ⟨g, 0, none⟩), .agg (standC F), .int .i64 s] w fun e w' =>
      ∃ v, e = .returned v ∧ w'.ownsRow (w.heap.size + 1) 163 2 v (pawnsL q k st F s).length (flatJ (pawnsL q k st F s)) ∧ Below w.heap.size w w' := by
  have hl := hj.1
  have hgw := hR.lt
  obtain ⟨i0, hi, hz0, hz1, hz2⟩ := info_parts infoPawn
  obtain ⟨K, hK⟩ := Int.eq_ofNat_of_zero_le hk
  subst hK
  obtain ⟨P, hP⟩ : ∃ P : Nat → List (Int × Int), P = pawnsTo (onS q st F s) K := ⟨_, rfl⟩
  obtain ⟨R, hR'⟩ : ∃ R : Nat → Nat → List (Int × Int), R = rowTo (onS q st F s) := ⟨_, rfl⟩
  have hP0 : P 0 = [] := by rw [hP]; rfl
  have hPs : ∀ p, P (p + 1) = P p ++ R p K := fun p => by rw [hP, hR']; rfl
  have hR0 : ∀ p, R p 0 = [] := fun p => by rw [hR']; rfl
  have hRy : ∀ p t, onS q st F s p t = true → R p (t + 1) = R p t ++ [((p : Int), (t : Int))] := fun p t h => by rw [hR']; exact rowTo_yes h
  have hRn : ∀ p t, onS q st F s p t = false → R p (t + 1) = R p t := fun p t h => by rw [hR']; exact rowTo_no h
  have hlen : ∀ p t, p < 4 → t ≤ 4 → (P p ++ R p t).length ≤ 100 := fun p t hp ht => by
    have h1 := pawnsTo_len (onS q st F s) K p
    have h2 := rowTo_len (onS q st F s) p t
    have h3 : p * K ≤ 4 * 4 := Nat.mul_le_mul (by omega) (by omega)
    rw [hP, hR', List.length_append]
    omega
  have hfin : pawnsL q (K : Int) st F s = P st.length := by rw [hP]; rfl
  rw [hfin]
  have HP0 := Lib.hid hP0; have HPs := Lib.hid hPs; have HR0 := Lib.hid hR0; have HRy := Lib.hid hRy; have HRn := Lib.hid hRn; have HL := Lib.hid hlen
  clear hP hR' hP0 hPs hR0 hRy hRn hlen hfin
  go_enter Try.func141, Try.ntmps141
  have c3 := hR.c3
  go_wp2
  have hb0 : Below (w.heap.size + 1) (w.alloc (.cells (standC F) 78)) (w.alloc (.cells (standC F) 78)) := Below.refl _ _
  go_loopw [7, 17] (fun v i wr => ∃ p : Nat, p ≤ st.length ∧ i = .int .i64 p ∧ Below (w.heap.size + 1) (w.alloc (.cells (standC F) 78)) wr ∧ wr.ownsRow (w.heap.size + 1) 163 2 v (P p).length (flatJ (P p))) (fun _ i _ => st.length - (intOf i).toNat)
  case atStart => exact ⟨0, Nat.zero_le _, rfl, hb0, by rw [HP0.out]; exact World.ownsRow_nil _ _ _ _⟩
  case round =>
    clear hb0
    obtain ⟨p, hp, rfl, hB, hown⟩ := hrel
    by_cases hlt : p < st.length
    · have hbw := (below1 w (.cells (standC F) 78)).trans (hB.mono (by omega))
      have R1 := hR.below hbw hgw
      have c2 := R1.c2
      go_wp2_with fail
      go_loopw [7, 24] (fun v i wi => ∃ t : Nat, t ≤ K ∧ i = .int .i64 t ∧ Below (w.heap.size + 1) (w.alloc (.cells (standC F) 78)) wi ∧ wi.ownsRow (w.heap.size + 1) 163 2 v (P p ++ R p t).length (flatJ (P p ++ R p t))) (fun _ i _ => K - (intOf i).toNat)
      case atStart => exact ⟨0, Nat.zero_le _, rfl, hB, by rw [HR0.out, List.append_nil]; exact hown⟩
      case round =>
        clear hB hown hbw R1 c2
        obtain ⟨t, ht, rfl, hB, hown⟩ := hrel
        obtain ⟨Q, hQ⟩ : ∃ Q, Q = P p ++ R p t := ⟨_, rfl⟩
        rw [← hQ] at hown
        have hbw := (below1 w (.cells (standC F) 78)).trans (hB.mono (by omega))
        have R1 := hR.below hbw hgw
        have D1 : DA wr w.heap.size 78 F := (hB.block _ (by omega)).trans (heap_alloc_at w _ _ rfl)
        have hsz : w.heap.size + 1 ≤ wr.heap.size := by have := hB.size; simpa using this
        by_cases htl : t < K
        · have hp4 : p < 4 := by omega
          have ht4 : t < 4 := by omega
          have d1 := D1.at_ hp4 ht4
          have q1 : (p : Int) < 4 := by omega
          have q2 : (t : Int) < 4 := by omega
          have hcl := HL.out p t hp4 (by omega)
          rw [← hQ] at hcl
          have HQ := Lib.hid hQ
          clear hQ
          have hon : onS q st F s p t = (sqr q st p (F p t) == s) := rfl
          have HON := Lib.hid hon
          clear hon
          obtain ⟨x, hx⟩ : ∃ x, x = F p t := ⟨_, rfl⟩
          have HX := Lib.hid hx
          rw [← hx] at d1
          clear hx
          cases hin : inB x 0 (q - 1)
          · have hoff : onS q st F s p t = false := by rw [HON.out, ← HX.out, sqr_out hin]; simp; omega
            have HIN := Lib.hid hin; have HOFF := Lib.hid hoff
            clear hin hoff
            go_wp2_with fail
            refine (squareOf_no _ _ _ _ _ _ _ _ _ R1 p x h4 h6 HIN.out).mono ?_
            rintro e w5 ⟨rfl, rfl⟩
            go_wp2_with fail
            go_roundw
            case rel => exact ⟨t + 1, by omega, by go_num, hB, by rw [HRn.out _ _ HOFF.out, ← HQ.out]; exact hown⟩
            case measure => simp [intOf]; omega
          · have HIN := Lib.hid hin
            clear hin
            go_wp2_with fail
            refine (squareOf_yes _ _ _ _ _ _ _ _ _ R1 st p x rfl (hj.go hbw) h4 h6 hlt (h0 p hlt) HIN.out).mono ?_
            rintro e w5 ⟨rfl, hx5⟩
            have hB5 := box_on hB hx5 hsz
            have hown5 := own_below hown hx5
            have hsz5 := Nat.le_trans hsz hx5.size
            have hon2 : onS q st F s p t = (sqr q st p x == s) := by rw [HON.out, HX.out]
            have HON2 := Lib.hid hon2
            clear hon2
            cases hon : (sqr q st p x == s)
            · have HOFF := Lib.hid (HON2.out.trans hon)
              go_wp2_with fail
              go_roundw
              case rel => exact ⟨t + 1, by omega, by go_num, hB5, by rw [HRn.out _ _ HOFF.out, ← HQ.out]; exact hown5⟩
              case measure => simp [intOf]; omega
            · have HOFF := Lib.hid (HON2.out.trans hon)
              go_wp2_with (at_builtin; go_loud (refine wpList_append_own _ rfl _ _ 191 rfl (w.heap.size + 1) 163 i0 (.agg #[.int .i64 0, .int .i64 0]) 2 16 Try.underlying191 hi hz0 hz1 hz2 rfl (by decide) _ _ _ rfl (hown5.alloc _) ⟨w5.heap.size, 0, none⟩ 1 1 [.int .i64 (p : Int), .int .i64 (t : Int)] rfl rfl (cells_two _ _ _ _) (two_ints _ _) (by unfold maxLen; omega) (by omega) (by simp; omega) ?_; intro v1 w6 hown6 hg6 _))
              go_roundw
              case rel =>
                refine ⟨t + 1, by omega, by go_num, (hB5.alloc hsz5 _).grown hg6 (by simp; omega) (fun i h => own_from hown5 i h), ?_⟩
                rw [HRy.out _ _ HOFF.out, ← List.append_assoc, ← HQ.out, flatJ_app, List.length_append]
                exact hown6
              case measure => simp [intOf]; omega
        · obtain rfl : t = K := by omega
          have HQ := Lib.hid hQ
          clear hQ
          go_wp2_with fail
          go_roundw
          case rel => exact ⟨p + 1, by omega, by go_num, hB, by rw [HPs.out, ← HQ.out]; exact hown⟩
          case measure => simp [intOf]; omega
    · obtain rfl : p = st.length := by omega
      go_wp2
      go_ret
      exact ⟨_, rfl, hown, (below1 _ _).trans (hB.mono (by omega))⟩
end Go.Proofs.Ytmhffdgfkgdmlaa

/-
  Tracks: the model's trAt: the tokens on a square, as rows.
-/
import Derived.Test.YtmhffdgfkgdmlaaC7e
import Derived.Test.YtmhffdgfkgdmlaaWGrid
namespace Go.Proofs.Ytmhffdgfkgdmlaa
open Go.RowKit

theorem infoSl1 : (Try.prog.info? 22).map (fun i => (i.zero, i.size, i.bytes)) = some (some (.slice none 0 0), 1, 24) := by kernel_rfl
theorem one_slice (A : Option Addr) (n c : Nat) : ∀ u ∈ [Value.slice A n c], u.oneCell' = true := by intro u hu; simp at hu; subst hu; rfl
theorem cell_new1' (w : World) (v : Value) (t : TypeId) : ∀ (j : Nat) u, [v][j]? = some u → (w.alloc (.cells #[v] t)).cell? ((⟨w.heap.size, 0, none⟩ : Addr).add j) = some u := by
  intro j u h
  match j, h with
  | 0, h => simp at h; subst h; simp [Addr.add, World.cell?_alloc_at _ _ _ _ rfl]
theorem cell_new2 (w : World) (o : Obj) (v : Value) (t : TypeId) : ∀ (j : Nat) u, [v][j]? = some u → ((w.alloc o).alloc (.cells #[v] t)).cell? ((⟨w.heap.size + 1, 0, none⟩ : Addr).add j) = some u := by
  have := cell_new1' (w.alloc o) v t
  rw [World.size_alloc] at this
  exact this
theorem Grid.mono {w : World} {base base' : Nat} {t te : TypeId} {v : Value} {n : Nat} {len : Nat → Nat} {F : Nat → Nat → Int} {Bk C : Nat → Nat} (h : Grid w base t te v n len F Bk C) (hb : base' ≤ base) : Grid w base' t te v n len F Bk C := by
  obtain ⟨⟨h0, h1⟩, h2, h3⟩ := h
  refine ⟨⟨h0, ?_⟩, fun y hy => ⟨Nat.le_trans hb (h2 y hy).1, (h2 y hy).2⟩, h3⟩
  rcases h1 with h1 | ⟨g, cap, cs, e, hg, r⟩
  · exact .inl h1
  · exact .inr ⟨g, cap, cs, e, Nat.le_trans hb hg, r⟩
/-- A slice of slices of numbers and a bool are handed back. -/
def GridBack (w : World) (n : Nat) (len : Nat → Nat) (F : Nat → Nat → Int) (ok : Bool) (e : Ending) (w' : World) : Prop :=
  ∃ A c Bk C, e = .returned (.tuple #[.slice A n c, .bool ok]) ∧ Grid w' w.heap.size 22 3 (.slice A n c) n len F Bk C ∧ Below w.heap.size w w'
/-- The rows of tokens: player and number. -/
def pF (P : List (Int × Int)) (y j : Nat) : Int := if j = 0 then (P.getD y (0, 0)).1 else (P.getD y (0, 0)).2
theorem grid_pawn {w w2 : World} {base : Nat} {v v' : Value} {P : List (Int × Int)} {a b : Int} {Bk C : Nat → Nat} (hbase : base ≤ w.heap.size) (h : Grid w base 22 3 v P.length (fun _ => 2) (pF P) Bk C)
    (hown : w2.ownsRow base 22 1 v' (P.length + 1) (((List.range P.length).map fun y => Value.slice (some ⟨Bk y, 0, none⟩) 2 (C y)) ++ [Value.slice (some ⟨w.heap.size, 0, none⟩) 2 2]))
    (hg : ((w.alloc (.cells #[.int .i64 a, .int .i64 b] 3)).alloc (.cells #[.slice (some ⟨w.heap.size, 0, none⟩) 2 2] 22)).grownBy w2 v.ownBlock)
    (hb : v'.ownBlock = v.ownBlock ∨ v'.ownBlock = some ((w.alloc (.cells #[.int .i64 a, .int .i64 b] 3)).alloc (.cells #[.slice (some ⟨w.heap.size, 0, none⟩) 2 2] 22)).heap.size) :
    ∃ Bk' C', Grid w2 base 22 3 v' (P ++ [(a, b)]).length (fun _ => 2) (pF (P ++ [(a, b)])) Bk' C' := by
  have hp := Grid.push (h.alloc (.cells #[.int .i64 a, .int .i64 b] 3)) (rowTwo w 3 a b) hbase (fun e => by have := h.lt _ e; omega) (fun y hy e => by have := (h.2.1 y hy).2.2.lt; omega) hown hg hb
  rw [List.length_append]
  refine ⟨_, _, hp.congr (fun y _ => by split <;> rfl) (fun y hy i hi => ?_)⟩
  by_cases e : y = P.length
  · subst e
    simp only [if_true, pF, List.getD_eq_getElem?_getD]
    simp
  · have hy2 : y < P.length := by omega
    simp only [e, if_false, pF, List.getD_eq_getElem?_getD]
    rw [List.getElem?_append_left hy2]

set_option maxRecDepth 100000 in
set_option maxHeartbeats 2000000 in
theorem trAt_any (q f k : Int) (A1 A2 A3 : Option Addr) (c1 n2 c2 c3 : Nat) (st : List Int) (L : List (List Int)) (s : Int) (w : World) (hj : RI w w.heap.size A1 st) (hG : RG w w.heap.size A3 L) (h4 : 4 ≤ q) (h6 : q ≤ 60) (hk : 0 ≤ k) (hk4 : k ≤ 4) (hn : st.length ≤ 4) (h0 : ∀ p (h : p < st.length), 0 ≤ st[p] ∧ st[p] < q) (hS : Sta q k st.length L) (hs : 0 ≤ s ∧ s < q) :
    Calls Try.prog 104 #[.agg #[.int .i64 q, .int .i64 f, .int .i64 k, .slice A1 st.length c1, .slice A2 n2 c2], .slice A3 L.length c3, .int .i64 s] w fun e w' =>
      ∃ v Bk C, e = .returned v ∧ Grid w' w.heap.size 22 3 v (pawnsL q k st (stF q L) s).length (fun _ => 2) (pF (pawnsL q k st (stF q L) s)) Bk C ∧ Below w.heap.size w w' := by
  have hl := hj.1
  have hLl := hG.1
  have hLn := hS.len
  obtain ⟨i0, hi, hz0, hz1, hz2⟩ := info_parts infoSl1
  obtain ⟨K, hK⟩ := Int.eq_ofNat_of_zero_le hk
  subst hK
  obtain ⟨P, hP⟩ : ∃ P : Nat → List (Int × Int), P = pawnsTo (onS q st (stF q L) s) K := ⟨_, rfl⟩
  obtain ⟨R, hR⟩ : ∃ R : Nat → Nat → List (Int × Int), R = rowTo (onS q st (stF q L) s) := ⟨_, rfl⟩
  have hP0 : P 0 = [] := by rw [hP]; rfl
  have hPs : ∀ p, P (p + 1) = P p ++ R p K := fun p => by rw [hP, hR]; rfl
  have hR0 : ∀ p, R p 0 = [] := fun p => by rw [hR]; rfl
  have hRy : ∀ p t, onS q st (stF q L) s p t = true → R p (t + 1) = R p t ++ [((p : Int), (t : Int))] := fun p t h => by rw [hR]; exact rowTo_yes h
  have hRn : ∀ p t, onS q st (stF q L) s p t = false → R p (t + 1) = R p t := fun p t h => by rw [hR]; exact rowTo_no h
  have hlen : ∀ p t, p < 4 → t ≤ 4 → (P p ++ R p t).length ≤ 100 := fun p t hp ht => by
    have h1 := pawnsTo_len (onS q st (stF q L) s) K p
    have h2 := rowTo_len (onS q st (stF q L) s) p t
    have h3 : p * K ≤ 4 * 4 := Nat.mul_le_mul (by omega) (by omega)
    rw [hP, hR, List.length_append]
    omega
  have hfin : pawnsL q (K : Int) st (stF q L) s = P st.length := by rw [hP]; rfl
  rw [hfin]
  have HP0 := Lib.hid hP0; have HPs := Lib.hid hPs; have HR0 := Lib.hid hR0; have HRy := Lib.hid hRy; have HRn := Lib.hid hRn; have HL := Lib.hid hlen; have HN := Lib.hid hLn
  clear hP hR hP0 hPs hR0 hRy hRn hlen hfin hLn
  go_enter Try.func104, Try.ntmps104
  go_wp2
  have hb0 : Below (w.heap.size + 1) (w.alloc (.cells #[.int .i64 q, .int .i64 f, .int .i64 (K : Int), .slice A1 st.length c1, .slice A2 n2 c2] 29)) (w.alloc (.cells #[.int .i64 q, .int .i64 f, .int .i64 (K : Int), .slice A1 st.length c1, .slice A2 n2 c2] 29)) := Below.refl _ _
  go_loopw [7, 14] (fun v i wr => ∃ (p : Nat) (Bk C : Nat → Nat), p ≤ L.length ∧ i = .int .i64 p ∧ Below (w.heap.size + 1) (w.alloc (.cells #[.int .i64 q, .int .i64 f, .int .i64 (K : Int), .slice A1 st.length c1, .slice A2 n2 c2] 29)) wr ∧ Grid wr (w.heap.size + 1) 22 3 v (P p).length (fun _ => 2) (pF (P p)) Bk C) (fun _ i _ => L.length - (intOf i).toNat)
  case atStart => exact ⟨0, fun _ => 0, fun _ => 0, Nat.zero_le _, rfl, hb0, by rw [HP0.out]; exact Grid.nil _ _ _ _ _ _ _ _⟩
  case round =>
    clear hb0
    obtain ⟨p, Bk, C, hp, rfl, hB, hGr⟩ := hrel
    by_cases hlt : p < L.length
    · have hbw := (below1 w (.cells #[.int .i64 q, .int .i64 f, .int .i64 (K : Int), .slice A1 st.length c1, .slice A2 n2 c2] 29)).trans (hB.mono (by omega))
      obtain ⟨b, off, A', c', rfl, hb, hc0, hrow⟩ := hG.at_ (Below.refl _ w) hlt
      have hc := (bcell hbw hb).trans hc0
      clear hc0
      have hrl := hS.row p hlt
      have hrv := hS.val p hlt
      obtain ⟨xs, hxs⟩ : ∃ xs, xs = L[p] := ⟨_, rfl⟩
      have hF : ∀ t (h : t < xs.length), stF q L p t = xs[t] := fun t h => by subst hxs; exact stF_at hlt h
      rw [← hxs] at hc hrow hrl
      have hrv' : ∀ t (h : t < xs.length), -1 ≤ xs[t] ∧ xs[t] ≤ q := fun t h => by subst hxs; exact hrv t h
      have hxl : xs.length ≤ 4 := by omega
      have HF := Lib.hid hF; have HRL := Lib.hid hrl
      clear hxs hF hrv hrl
      obtain ⟨Av, cv, rfl⟩ := hGr.slice
      go_wp2_with fail
      go_loopw [7, 21] (fun v i wi => ∃ (t : Nat) (Bk C : Nat → Nat), t ≤ xs.length ∧ i = .int .i64 t ∧ Below (w.heap.size + 1) (w.alloc (.cells #[.int .i64 q, .int .i64 f, .int .i64 (K : Int), .slice A1 st.length c1, .slice A2 n2 c2] 29)) wi ∧ Grid wi (w.heap.size + 1) 22 3 v (P p ++ R p t).length (fun _ => 2) (pF (P p ++ R p t)) Bk C) (fun _ i _ => xs.length - (intOf i).toNat)
      case atStart => exact ⟨0, Bk, C, Nat.zero_le _, rfl, hB, by rw [HR0.out, List.append_nil]; exact hGr⟩
      case round =>
        clear hB hGr hc
        obtain ⟨t, Bk, C, ht, rfl, hB, hGr⟩ := hrel
        obtain ⟨Q, hQ⟩ : ∃ Q, Q = P p ++ R p t := ⟨_, rfl⟩
        rw [← hQ] at hGr
        have hbwi := (below1 w (.cells #[.int .i64 q, .int .i64 f, .int .i64 (K : Int), .slice A1 st.length c1, .slice A2 n2 c2] 29)).trans (hB.mono (by omega))
        have qq := boxcells hB
        have hsz : w.heap.size + 1 ≤ wr.heap.size := by have := hB.size; simpa using this
        obtain ⟨Av, cv, rfl⟩ := hGr.slice
        by_cases htl : t < xs.length
        · obtain ⟨b2, off2, rfl, hb2, h5⟩ := hrow.at_ hbwi htl
          have hon : onS q st (stF q L) s p t = (sqr q st p xs[t] == s) := by rw [onS, HF.out t htl]
          have HON := Lib.hid hon
          clear hon
          have hcl := HL.out p t (by have := HN.out; omega) (by have := HRL.out; omega)
          rw [← hQ] at hcl
          have HQ := Lib.hid hQ
          clear hQ
          have hpn : p < st.length := by have := HN.out; omega
          obtain ⟨x, hx⟩ : ∃ x, x = xs[t] := ⟨_, rfl⟩
          have HX := Lib.hid hx
          rw [← hx] at h5
          clear hx
          cases hin : inB x 0 (q - 1)
          · have hne : ((-1 : Int) == s) = false := by simp; omega
            have hoff : onS q st (stF q L) s p t = false := by rw [HON.out, ← HX.out, sqr_out hin]; exact hne
            have HIN := Lib.hid hin; have HOFF := Lib.hid hoff
            clear hin hoff
            go_wp2_with fail
            refine (trSquare_no _ _ _ _ _ _ _ _ _ _ _ _ h4 h6 HIN.out).mono ?_
            rintro e w5 ⟨rfl, hx5⟩
            have hB5 := box_on hB hx5 hsz
            have hG5 := hGr.below hx5
            go_wp2_with fail
            go_roundw
            case rel => exact ⟨t + 1, Bk, C, by omega, by go_num, hB5, by rw [HRn.out _ _ HOFF.out, ← HQ.out]; exact hG5⟩
            case measure => simp [intOf]; omega
          · have HIN := Lib.hid hin
            clear hin
            go_wp2_with fail
            refine (trSquare_yes _ _ _ _ _ _ _ _ _ _ _ _ (hj.go hbwi) h4 h6 hpn (h0 p hpn) HIN.out).mono ?_
            rintro e w5 ⟨rfl, hx5⟩
            have hB5 := box_on hB hx5 hsz
            have hG5 := hGr.below hx5
            have hsz5 := Nat.le_trans hsz hx5.size
            have hon2 : onS q st (stF q L) s p t = (sqr q st p x == s) := by rw [HON.out, HX.out]
            have HON2 := Lib.hid hon2
            clear hon2
            cases hon : (sqr q st p x == s)
            · have HOFF := Lib.hid (HON2.out.trans hon)
              go_wp2_with fail
              go_roundw
              case rel => exact ⟨t + 1, Bk, C, by omega, by go_num, hB5, by rw [HRn.out _ _ HOFF.out, ← HQ.out]; exact hG5⟩
              case measure => simp [intOf]; omega
            · have HOFF := Lib.hid (HON2.out.trans hon)
              have hGa := (hG5.alloc (.cells #[.int .i64 (p : Int), .int .i64 (t : Int)] 3)).alloc (.cells #[.slice (some ⟨w5.heap.size, 0, none⟩) 2 2] 22)
              go_wp2_with (at_builtin; go_loud (refine wpList_append_own_at _ rfl _ _ 26 rfl (w.heap.size + 1) 22 i0 (.slice none 0 0) 1 24 Try.underlying26 hi hz0 hz1 hz2 rfl (by decide) _ _ _ rfl hGa.1 ⟨w5.heap.size + 1, 0, none⟩ 1 1 [.slice (some ⟨w5.heap.size, 0, none⟩) 2 2] rfl rfl (cell_new2 _ _ _ _) (one_slice _ _ _) (by unfold maxLen; omega) (by omega) (by simp; omega) ?_; intro v1 w6 hown6 hg6 _ hb6))
              go_roundw
              case rel =>
                obtain ⟨Bk', C', hG'⟩ := grid_pawn hsz5 hG5 hown6 hg6 hb6
                exact ⟨t + 1, Bk', C', by omega, by go_num, ((hB5.alloc hsz5 _).alloc (by simp; omega) _).grown hg6 (by simp; omega) (fun i h => hG5.from_ i h), by rw [HRy.out _ _ HOFF.out, ← List.append_assoc, ← HQ.out]; exact hG'⟩
              case measure => simp [intOf]; omega
        · obtain rfl : t = xs.length := by omega
          have hK : xs.length = K := by have := HRL.out; omega
          have HQ := Lib.hid hQ
          clear hQ
          go_wp2_with fail
          go_roundw
          case rel => exact ⟨p + 1, Bk, C, by omega, by go_num, hB, by rw [HPs.out, ← hK, ← HQ.out]; exact hGr⟩
          case measure => simp [intOf]; omega
    · obtain rfl : p = L.length := by omega
      rw [HN.out] at hGr
      obtain ⟨Av, cv, rfl⟩ := hGr.slice
      go_wp2
      go_ret
      exact ⟨_, Bk, C, rfl, hGr.mono (by omega), (below1 _ _).trans (hB.mono (by omega))⟩
end Go.Proofs.Ytmhffdgfkgdmlaa

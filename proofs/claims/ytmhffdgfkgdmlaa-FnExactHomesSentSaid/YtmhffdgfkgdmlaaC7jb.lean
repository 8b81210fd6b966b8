/-
  Tracks: sentBy: the tokens of others on a square that is not safe.
-/
import Derived.Test.YtmhffdgfkgdmlaaC7ja
namespace Go.Proofs.Ytmhffdgfkgdmlaa
open Go.RowKit

theorem delSent_all (b c : Nat) (L : List (Int × Int)) (pl : Int) (cb : Nat) (w : World) (hrow : RowJ w b 163 L.length (fun y => L.getD y (0, 0))) (hl : L.length ≤ 1048576) (hcb : cb < w.heap.size) (hc : w.cell? ⟨cb, 0, none⟩ = some (.int .i64 pl))
    (h0 : ∀ i < L.length, keepP pl (L.getD i (0, 0)) = true) :
    Calls Try.prog 140 #[.slice (some ⟨b, 0, none⟩) L.length c, .func (.func 142) #[] #[.pointer (some ⟨cb, 0, none⟩)]] w fun e w' => e = .returned (.slice (some ⟨b, 0, none⟩) L.length c) ∧ Below w.heap.size w w' := by
  have H0 := Lib.hid h0
  clear h0
  go_enter Try.func140, Try.ntmps140
  go_wp2_with fail
  refine (idxSent_any b c L pl cb (-1) w hrow hl hcb hc (fun j hj h1 _ => by have := H0.out j hj; rw [h1] at this; cases this) (fun _ => rfl)).mono ?_
  rintro e w2 ⟨rfl, hx2⟩
  go_wp2
  go_ret
  exact ⟨rfl, hx2⟩

theorem delSent_nil (cb : Nat) (w : World) :
    Calls Try.prog 140 #[.slice none 0 0, .func (.func 142) #[] #[.pointer (some ⟨cb, 0, none⟩)]] w fun e w' => e = .returned (.slice none 0 0) ∧ Below w.heap.size w w' := by
  have hI : Calls Try.prog 150 #[.slice none 0 0, .func (.func 142) #[] #[.pointer (some ⟨cb, 0, none⟩)]] w fun e w' => e = .returned (.int .i64 (-1)) ∧ Below w.heap.size w w' := by
    go_enter Try.func150, Try.ntmps150
    go_wp2
    go_loopw [8] (fun i wr => i = .int .i64 0 ∧ Below w.heap.size w wr) (fun _ _ => 0)
    case atStart => exact ⟨rfl, Below.refl _ _⟩
    case round =>
      obtain ⟨rfl, hb⟩ := hrel
      go_wp2
      go_ret
      exact ⟨rfl, hb⟩
  go_enter Try.func140, Try.ntmps140
  go_wp2_with fail
  refine hI.mono ?_
  rintro e w2 ⟨rfl, hx2⟩
  go_wp2
  go_ret
  exact ⟨rfl, hx2⟩

theorem sentL_keep (P : List (Int × Int)) (p : Int) : sentL false P p = P.filter (keepP p) := rfl
theorem keep_all {P : List (Int × Int)} {p : Int} (h : ∀ i < P.length, keepP p (P.getD i (0, 0)) = true) : P.filter (keepP p) = P := by
  rw [List.filter_eq_self]
  intro a ha
  obtain ⟨i, hi, rfl⟩ := List.mem_iff_getElem.1 ha
  have := h i hi
  rwa [List.getD_eq_getElem?_getD, List.getElem?_eq_getElem hi] at this
/-- The first that is not kept. -/
theorem keep_first (p : Int) (P : List (Int × Int)) : (∀ i < P.length, keepP p (P.getD i (0, 0)) = true) ∨ ∃ m, m < P.length ∧ keepP p (P.getD m (0, 0)) = false ∧ ∀ i < m, keepP p (P.getD i (0, 0)) = true := by
  have : ∀ n, (∀ i < n, keepP p (P.getD i (0, 0)) = true) ∨ ∃ m, m < n ∧ keepP p (P.getD m (0, 0)) = false ∧ ∀ i < m, keepP p (P.getD i (0, 0)) = true := by
    intro n
    induction n with
    | zero => exact .inl (fun i h => by omega)
    | succ n ih =>
      rcases ih with h | ⟨m, hm, h⟩
      · cases hk : keepP p (P.getD n (0, 0))
        · exact .inr ⟨n, by omega, hk, h⟩
        · exact .inl (fun i hi => by
            rcases Nat.lt_or_ge i n with h2 | h2
            · exact h i h2
            · obtain rfl : i = n := by omega
              exact hk)
      · exact .inr ⟨m, by omega, h⟩
  exact this P.length

theorem own_rowJ {w : World} {t : TypeId} {base n b cap : Nat} {xs : List (Int × Int)} (h : w.ownsRow base t 2 (.slice (some ⟨b, 0, none⟩) n cap) n (flatJ xs)) (hn : xs.length = n) : RowJ w b t xs.length (fun k => xs.getD k (0, 0)) ∧ base ≤ b ∧ xs.length ≤ cap := by
  subst hn
  obtain ⟨h0, ⟨e, hz⟩ | ⟨g, cap', cs, e, hg, hh, hn, _, hsz, htk⟩⟩ := h
  · cases e
  · injection e with e1 _ e3
    injection e1 with e1
    injection e1 with e1 _ _
    subst e1 e3
    refine ⟨⟨cs, hh, by rw [hsz]; exact Nat.mul_le_mul_right 2 hn, fun k hk => ?_⟩, hg, hn⟩
    have hat : ∀ i, i < xs.length * 2 → cs[i]? = (flatJ xs)[i]? := fun i hi => by
      have : (cs.toList.take (xs.length * 2))[i]? = (flatJ xs)[i]? := by rw [htk]
      rw [List.getElem?_take_of_lt hi, Array.getElem?_toList] at this
      exact this
    have hf := flatJ_at xs k hk
    rw [hat _ (by omega), hat _ (by omega), hf.1, hf.2]
    simp [List.getElem?_eq_getElem hk]
/-- A slice of tokens that the call made. -/
def PawnsBack (w : World) (L : List (Int × Int)) (e : Ending) (w' : World) : Prop :=
  ∃ A c, e = .returned (.slice A L.length c) ∧ OJ w' w.heap.size 163 A L.length (fun y => L.getD y (0, 0)) ∧ Below w.heap.size w w'

set_option maxRecDepth 100000 in
set_option maxHeartbeats 1000000 in
theorem sentBy_any (g : Nat) (q f k : Int) (A : Option Addr) (c : Nat) (S : Nat → Bool) (st : List Int) (w : World) (hR : RA w g 75 q f k A st.length c S) (hj : RI w w.heap.size A st) (F : Nat → Nat → Int) (pl : Int) (s : Nat) (h4 : 4 ≤ q) (h6 : q ≤ 60) (hk : 0 ≤ k) (hk4 : k ≤ 4) (hn : st.length ≤ 4) (h0 : ∀ p (h : p < st.length), 0 ≤ st[p] ∧ st[p] < q) (hs : (s : Int) < q) :
    Calls Try.prog 131 #[.pointer (some ⟨g, 0, none⟩), .agg (standC F), .int .i64 pl, .int .i64 s] w (PawnsBack w (sentL (S s) (pawnsL q k st F s) pl)) := by
  have hgw := hR.lt
  have hs60 : s < 60 := by omega
  have hsi : (s : Int) < 60 := by omega
  have cs := hR.at_ hs60
  cases hS : S s
  case true =>
    rw [hS] at cs
    go_enter Try.func131, Try.ntmps131
    go_wp2
    go_ret
    exact ⟨none, 0, rfl, .inl rfl, below2 _ _ _⟩
  rw [hS] at cs
  rw [sentL_keep]
  have hP16 : (pawnsL q k st F s).length ≤ 16 := pawnsL_len hn hk4
  obtain ⟨P, hP⟩ : ∃ P, pawnsL q k st F (s : Int) = P := ⟨_, rfl⟩
  rw [hP] at hP16 ⊢
  have HP := Lib.hid hP
  clear hP
  go_enter Try.func131, Try.ntmps131
  have hb0 := below2 w (.cells (standC F) 78) (.cells #[.int .i64 pl] 3)
  have R1 := hR.below hb0 hgw
  have D1 : DA ((w.alloc (.cells (standC F) 78)).alloc (.cells #[.int .i64 pl] 3)) w.heap.size 78 F := (Below.heap_alloc _ _ _ (by simp)).trans (heap_alloc_at w _ _ rfl)
  go_wp2_with (refine wpList_load_row rfl 78 (.tmp 5) rfl w.heap.size rfl _ _ _ _ D1 Try.underlying78 rfl ?_ ?_; (rw [stand_size]; exact sizeStand))
  refine (pawnsOn_any g q f k A c S st _ R1 (hj.go hb0) F (s : Int) h4 h6 hk hk4 hn h0 (by omega)).mono ?_
  rintro e w3 ⟨v, rfl, hown, hx⟩
  simp only [World.size_alloc] at hown hx
  rw [HP.out] at hown
  have hb3 : Below w.heap.size w w3 := hb0.trans (hx.mono (by omega))
  have cc : w3.cell? ⟨w.heap.size + 1, 0, none⟩ = some (.int .i64 pl) := (bcell hx (by omega)).trans ((World.cell?_alloc_at _ _ _ _ (by simp)).trans rfl)
  have hs3 : w.heap.size + 1 < w3.heap.size := by have := hx.size; simp at this; omega
  rcases hown.2 with ⟨rfl, hz⟩ | ⟨b, cap, cs', rfl, _⟩
  · have hP0 : P = [] := List.length_eq_zero_iff.1 hz
    go_wp2_with fail
    refine (delSent_nil _ _).mono ?_
    rintro e w4 ⟨rfl, hx4⟩
    go_wp2
    go_ret
    rw [hP0]
    exact ⟨none, 0, rfl, .inl rfl, hb3.trans (hx4.mono hb3.size)⟩
  · obtain ⟨hrow, hbb, hcap⟩ := own_rowJ hown rfl
    rcases keep_first pl P with hall | ⟨m0, hm, hm1, hm0⟩
    · go_wp2_with fail
      refine (delSent_all b cap P pl (w.heap.size + 1) w3 hrow (by omega) hs3 cc hall).mono ?_
      rintro e w4 ⟨rfl, hx4⟩
      go_wp2
      go_ret
      rw [keep_all hall]
      exact ⟨_, cap, rfl, .inr ⟨b, rfl, by omega, hrow.below hx4 hrow.lt⟩, hb3.trans (hx4.mono hb3.size)⟩
    · go_wp2_with fail
      refine (delSent_some b cap P pl (w.heap.size + 1) m0 w3 hrow (by omega) hcap hs3 (by omega) cc hm hm1 hm0).mono ?_
      rintro e w4 ⟨rfl, hr4, hg4⟩
      go_wp2
      go_ret
      exact ⟨_, cap, rfl, .inr ⟨b, rfl, by omega, hr4⟩, hb3.grown hg4 hb3.size (fun k h => by injection h with h; omega)⟩
end Go.Proofs.Ytmhffdgfkgdmlaa

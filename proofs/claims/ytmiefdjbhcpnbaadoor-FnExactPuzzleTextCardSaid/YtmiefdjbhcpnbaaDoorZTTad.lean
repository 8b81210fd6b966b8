/- Several texts, one behind the other: C1cf C1cg. -/
import Derived.Laws.AppendOwn
import Derived.Deep.Slices
import Derived.Test.YtmiefdjbhcpnbaaDoorZTTaa
import Derived.Test.YtmiefdjbhcpnbaaDoorZTTab
import Derived.Test.YtmiefdjbhcpnbaaDoorZTTac

namespace Go.Proofs.YtmiefdjbhcpnbaaDoor
open Go.RowKit

/-- A text split at each b; cur: what stands behind the last one. -/
def splitGo (b : UInt8) (cur : List UInt8) : List UInt8 → List (List UInt8)
  | [] => [cur]
  | x :: t => if x = b then cur :: splitGo b [] t else splitGo b (cur ++ [x]) t
def splitL (b : UInt8) (l : List UInt8) : List (List UInt8) := splitGo b [] l

/-- A text's value. -/
abbrev strV (l : List UInt8) : Value := .string ⟨l.toArray⟩

/-- Block g begins with the texts L. -/
def RowS (w : World) (g : Nat) (t : TypeId) (L : List (List UInt8)) : Prop :=
  ∃ cs, w.heap[g]? = some (.cells cs t (0, 0)) ∧ L.length ≤ cs.size ∧ ∀ k (h : k < L.length), cs[k]? = some (strV L[k])
theorem RowS.lt {w : World} {g : Nat} {t : TypeId} {L : List (List UInt8)} (h : RowS w g t L) : g < w.heap.size := by obtain ⟨cs, h, _⟩ := h; exact heap_lt h
theorem RowS.cell {w : World} {g : Nat} {t : TypeId} {L : List (List UInt8)} (h : RowS w g t L) {k : Nat} (hk : k < L.length) : w.cell? ⟨g, k, none⟩ = some (strV L[k]) := by
  obtain ⟨cs, h, _, hc⟩ := h; exact (cell_of_row w g _ cs t (0, 0) h).trans (hc k hk)
theorem RowS.below {w w' : World} {B g : Nat} {t : TypeId} {L : List (List UInt8)} (h : RowS w g t L) (hb : Below B w w') (hg : g < B) : RowS w' g t L := by
  obtain ⟨cs, h, r⟩ := h; exact ⟨cs, (hb.block g hg).trans h, r⟩
theorem own_rows {w : World} {base n : Nat} {t : TypeId} {v : Value} {L : List (List UInt8)} (h : w.ownsRow base t 1 v n (L.map strV)) (hL : L ≠ []) : ∃ g c, v = .slice (some ⟨g, 0, none⟩) L.length c ∧ (base ≤ g ∧ L.length ≤ c) ∧ RowS w g t L := by
  obtain ⟨h0, ⟨rfl, hz⟩ | ⟨g, cap, cs, rfl, hg, hh, hn, _, hsz, htk⟩⟩ := h
  · simp at h0
    have : L = [] := List.length_eq_zero_iff.1 (by omega)
    exact absurd this hL
  · obtain rfl : n = L.length := by simp at h0; omega
    refine ⟨g, cap, rfl, ⟨hg, hn⟩, cs, hh, by omega, fun k hk => ?_⟩
    have : (cs.toList.take (L.length * 1))[k]? = (L.map strV)[k]? := by rw [htk]
    rw [List.getElem?_take_of_lt (by omega), Array.getElem?_toList] at this
    rw [this]
    simp [List.getElem?_eq_getElem hk]
theorem infoStr1 : (Tryd.prog.info? 9).map (fun i => (i.zero, i.size, i.bytes)) = some (some (.string ⟨#[]⟩), 1, 16) := by kernel_rfl
theorem one_str (l : List UInt8) : ∀ u ∈ [strV l], u.oneCell' = true := by intro u hu; simp at hu; subst hu; rfl
theorem splitGo_ne (b : UInt8) : ∀ (l cur : List UInt8), splitGo b cur l ≠ []
  | [], _ => by simp [splitGo]
  | x :: t, cur => by
    rw [splitGo]
    split
    · simp
    · exact splitGo_ne b t _

theorem index_run (s : List UInt8) (k : Nat) (hk : k < s.length) (W : World) : (Instr.index 9 (strV s) (.int .i64 (k : Int))).run Tryd.prog W = .ok (.int .u8 (s[k].toNat : Int)) W := by
  have e : (⟨s.toArray⟩ : ByteArray).size = s.length := by show s.toArray.size = _; simp
  rw [run_index_string W 9 _ .i64 k Tryd.underlying9, dif_pos (by rw [e]; omega)]
  rfl
theorem slice_run (s : List UInt8) (m k : Nat) (hm : m ≤ k) (hk : k ≤ s.length) (W : World) : (Instr.slice 9 (strV s) (some (.int .i64 (m : Int))) (some (.int .i64 (k : Int))) none).run Tryd.prog W = .ok (strV ((s.drop m).take (k - m))) W := by
  have e : (⟨s.toArray⟩ : ByteArray).size = s.length := by show s.toArray.size = _; simp
  rw [run_slice_string W 9 _ .i64 .i64 m k Tryd.underlying9 (by omega) (by omega) (by rw [e]; omega), ByteArray.extract_mk]
  simp
theorem slice_from (s : List UInt8) (m : Nat) (hm : m ≤ s.length) (W : World) : (Instr.slice 9 (strV s) (some (.int .i64 (m : Int))) none none).run Tryd.prog W = .ok (strV (s.drop m)) W := by
  have e : (⟨s.toArray⟩ : ByteArray).size = s.length := by show s.toArray.size = _; simp
  rw [run_slice_string_from_if W 9 _ .i64 m Tryd.underlying9, if_pos (by rw [e]; omega), ByteArray.extract_mk]
  simp only [Int.toNat_natCast, e]
  rw [List.take_of_length_le (by simp)]

set_option maxRecDepth 100000 in
set_option maxHeartbeats 1000000 in
theorem l1Split_any (s : List UInt8) (b : UInt8) (w : World) (hl : s.length ≤ 1048576) :
    Calls Tryd.prog 60 #[strV s, .int .u8 (b.toNat : Int)] w fun e w' => ∃ g c, e = .returned (.slice (some ⟨g, 0, none⟩) (splitL b s).length c) ∧ (w.heap.size ≤ g ∧ (splitL b s).length ≤ c) ∧ RowS w' g 9 (splitL b s) ∧ Below w.heap.size w w' := by
  obtain ⟨i0, hi, hz0, hz1, hz2⟩ := info_parts infoStr1
  go_enter Tryd.func60, Tryd.ntmps60
  go_wp2
  go_loopw [5, 6, 7] (fun v j i wr => ∃ (k m : Nat) (L : List (List UInt8)), k ≤ s.length ∧ m ≤ k ∧ i = .int .i64 k ∧ j = .int .i64 m ∧ Below w.heap.size w wr ∧ wr.ownsRow w.heap.size 9 1 v L.length (L.map strV) ∧ L.length ≤ k ∧ splitL b s = L ++ splitGo b ((s.drop m).take (k - m)) (s.drop k)) (fun _ _ i _ => s.length - (intOf i).toNat)
  case atStart => exact ⟨0, 0, [], Nat.zero_le _, Nat.le_refl _, rfl, rfl, Below.refl _ _, World.ownsRow_nil _ _ _ _, Nat.le_refl _, by simp [splitL]⟩
  case round =>
    obtain ⟨k, m, L, hk, hm, rfl, rfl, hb, hown, hL, hd⟩ := hrel
    have Hd := Lib.hid hd; clear hd
    by_cases hlt : k < s.length
    · have hlt' : (k : Int) < (s.length : Int) := by omega
      have hix := index_run s k hlt
      have hsl := slice_run s m k hm hk
      have hs := hb.size
      go_wp2_with (at_builtin; go_loud (refine wpList_append_own _ rfl _ _ 65 rfl w.heap.size 9 i0 (.string ⟨#[]⟩) 1 16 Tryd.underlying65 hi hz0 hz1 hz2 rfl (by decide) _ _ _ rfl (hown.alloc _) ⟨wr.heap.size, 0, none⟩ 1 1 [strV ((s.drop m).take (k - m))] rfl rfl (cell_new1 _ _ _) (one_str _) (by unfold maxLen; omega) (by omega) (by simp; omega) ?_; intro v1 w4 hown4 hg4 _))
      · have hx : s[k] = b := UInt8.toNat_inj.1 (by have h : ((s[k].toNat : Int) == (b.toNat : Int)) = true := by assumption
                                                    simp at h; omega)
        refine ⟨⟨k + 1, k + 1, L ++ [(s.drop m).take (k - m)], by omega, Nat.le_refl _, rfl, rfl, (hb.alloc (by omega) _).grown hg4 (by simp; omega) ?_, by simpa using hown4, by simp; omega, ?_⟩, by simp [intOf]; omega⟩
        · intro g hg
          have := own_from hown g hg
          omega
        · rw [Hd.out, List.drop_eq_getElem_cons hlt, splitGo, if_pos hx]
          simp
      · have hx : ¬ s[k] = b := fun e => by
          have h : ((s[k].toNat : Int) == (b.toNat : Int)) = false := by assumption
          rw [e] at h
          simp at h
        refine ⟨⟨k + 1, m, L, by omega, by omega, rfl, rfl, hb, hown, by omega, ?_⟩, by simp [intOf]; omega⟩
        rw [Hd.out, List.drop_eq_getElem_cons hlt, splitGo, if_neg hx]
        congr 2
        have e1 : (s.drop m)[k - m]? = some s[k] := by rw [List.getElem?_drop, show m + (k - m) = k by omega, List.getElem?_eq_getElem hlt]
        rw [show k + 1 - m = (k - m) + 1 by omega, List.take_add_one, e1]
        rfl
    · have hlt' : ¬ (k : Int) < (s.length : Int) := by omega
      obtain rfl : k = s.length := by omega
      have hsl := slice_from s m hm
      have hs := hb.size
      go_wp2_with (at_builtin; go_loud (refine wpList_append_own _ rfl _ _ 65 rfl w.heap.size 9 i0 (.string ⟨#[]⟩) 1 16 Tryd.underlying65 hi hz0 hz1 hz2 rfl (by decide) _ _ _ rfl (hown.alloc _) ⟨wr.heap.size, 0, none⟩ 1 1 [strV (s.drop m)] rfl rfl (cell_new1 _ _ _) (one_str _) (by unfold maxLen; omega) (by omega) (by simp; omega) ?_; intro v1 w4 hown4 hg4 _))
      have he : splitL b s = L ++ [s.drop m] := by
        rw [Hd.out, List.drop_of_length_le (Nat.le_refl _), splitGo, List.take_of_length_le (by simp)]
      have hown5 : w4.ownsRow w.heap.size 9 1 v1 (L.length + 1) ((splitL b s).map strV) := by rw [he]; simpa using hown4
      obtain ⟨g, c, rfl, hg, hr⟩ := own_rows hown5 (splitGo_ne _ _ _)
      go_ret
      refine ⟨g, c, rfl, hg, hr, (hb.alloc (by omega) _).grown hg4 (by simp; omega) ?_⟩
      intro g hg
      have := own_from hown g hg
      omega
end Go.Proofs.YtmiefdjbhcpnbaaDoor

namespace Go.Proofs.YtmiefdjbhcpnbaaDoor
open Go.RowKit

/-- Is it a digit? -/
def isDig (x : UInt8) : Bool := decide (48 ≤ x.toNat) && decide (x.toNat ≤ 57)
/-- Digits read behind a number; -1 where one is none. -/
def readGo (a : Int) : List UInt8 → Int
  | [] => a
  | x :: t => if isDig x then readGo (10 * a + (x.toNat - 48)) t else -1
/-- What l1Read gives. -/
def readL (l : List UInt8) : Int := if (1 ≤ l.length ∧ l.length ≤ 6) ∧ ¬ (l.head? = some 48 ∧ 1 < l.length) then readGo 0 l else -1

theorem isDig_iff {x : UInt8} : isDig x = true ↔ 48 ≤ x.toNat ∧ x.toNat ≤ 57 := by simp [isDig]
theorem readGo_lt : ∀ (l : List UInt8) (a : Int), 0 ≤ a → -1 ≤ readGo a l ∧ readGo a l < (a + 1) * 10 ^ l.length
  | [], a, h => by simp [readGo]; omega
  | x :: t, a, h => by
    rw [readGo]
    split
    · rename_i hx
      have hx := isDig_iff.1 hx
      have ih := readGo_lt t (10 * a + (x.toNat - 48)) (by omega)
      refine ⟨ih.1, Int.lt_of_lt_of_le ih.2 ?_⟩
      rw [List.length_cons, Int.pow_succ, Int.mul_comm (10 ^ t.length) 10, ← Int.mul_assoc]
      exact Int.mul_le_mul_of_nonneg_right (by omega) (Int.pow_nonneg (by omega))
    · have : 0 ≤ (a + 1) * 10 ^ (x :: t).length := Int.mul_nonneg (by omega) (Int.pow_nonneg (by omega))
      omega
theorem readL_wf (l : List UInt8) : -1 ≤ readL l ∧ readL l < 1000000 := by
  unfold readL
  split
  · rename_i h
    have := readGo_lt l 0 (by omega)
    refine ⟨this.1, Int.lt_of_lt_of_le this.2 ?_⟩
    have h6 : (10 : Int) ^ l.length ≤ 10 ^ 6 := by
      have : (10 : Nat) ^ l.length ≤ 10 ^ 6 := Nat.pow_le_pow_right (by decide) h.1.2
      exact_mod_cast this
    omega
  · omega

set_option maxRecDepth 100000 in
set_option maxHeartbeats 1000000 in
theorem l1Read_any (s : List UInt8) (w : World) (hl : s.length ≤ 1048576) :
    Calls Tryd.prog 61 #[strV s] w fun e w' => e = .returned (.int .i64 (readL s)) ∧ w = w' := by
  by_cases h6 : 1 ≤ s.length ∧ s.length ≤ 6
  · have hi6 : inB (s.length : Int) 1 6 = true := inB_iff.2 (by omega)
    have h0 : 0 < s.length := h6.1
    obtain ⟨x0, hx0⟩ : ∃ x, s[0]'h0 = x := ⟨_, rfl⟩
    have hix0 : ∀ W, (Instr.index 9 (strV s) (.int .i64 0)).run Tryd.prog W = .ok (.int .u8 ((s[0]'h0).toNat : Int)) W := index_run s 0 h0
    have hz : s.head? = some x0 := by rw [List.head?_eq_getElem?, List.getElem?_eq_getElem h0, hx0]
    rw [hx0] at hix0
    clear hx0
    have hz48 : (x0.toNat : Int) = 48 → x0 = 48 := fun h => UInt8.toNat_inj.1 (by show x0.toNat = 48; omega)
    by_cases hb : (x0.toNat : Int) = 48 ∧ 1 < s.length
    · have hR : readL s = -1 := by unfold readL; rw [if_neg (fun h => h.2 ⟨by rw [hz, hz48 hb.1], hb.2⟩)]
      have h1 : ((x0.toNat : Int) == 48) = true := by simpa using hb.1
      have h2 : (1 : Int) < s.length := by omega
      clear hz hb hz48
      go_enter Tryd.func61, Tryd.ntmps61
      go_wp2_with (go_at_call 52; refine (l1In_any _ _ _ _).mono ?_; rintro e w1 ⟨rfl, rfl⟩; rw [hi6])
      go_ret
      exact ⟨by rw [hR]; rfl, rfl⟩
    · have hR : readL s = readGo 0 s := by unfold readL; rw [if_pos ⟨h6, fun h => hb ⟨by rw [hz] at h; rw [Option.some.inj h.1]; rfl, h.2⟩⟩]
      have HR := Lib.hid hR; clear hR
      have hcase : (((x0.toNat : Int) == 48) = true ∧ ¬ (1 : Int) < s.length) ∨ ((x0.toNat : Int) == 48) = false := by
        cases hc : ((x0.toNat : Int) == 48)
        · exact .inr rfl
        · exact .inl ⟨rfl, fun h2 => hb ⟨by simpa using hc, by omega⟩⟩
      clear hz48 hz hb
      have H6 := Lib.hid h6; clear h6
      rcases hcase with ⟨h1, h2⟩ | h1
      all_goals
        go_enter Tryd.func61, Tryd.ntmps61
        go_wp2_with (go_at_call 52; refine (l1In_any _ _ _ _).mono ?_; rintro e w1 ⟨rfl, rfl⟩; rw [hi6])
        have HH := Lib.hid (And.intro h1 hix0); clear h1 hix0
        try clear h2
        go_loopw [3, 4] (fun n i wr => ∃ (k : Nat) (a : Int), k ≤ s.length ∧ i = .int .i64 k ∧ n = .int .i64 a ∧ wr = w ∧ (0 ≤ a ∧ a < 10 ^ k) ∧ readGo 0 s = readGo a (s.drop k)) (fun _ i _ => s.length - (intOf i).toNat)
        case atStart => exact ⟨0, 0, Nat.zero_le _, rfl, rfl, rfl, by simp, rfl⟩
        case round =>
          obtain ⟨k, a, hk, rfl, rfl, rfl, ha, hd⟩ := hrel
          have Hd := Lib.hid hd; clear hd
          by_cases hlt : k < s.length
          · have hlt' : (k : Int) < (s.length : Int) := by omega
            have hix := index_run s k hlt
            obtain ⟨x, hx⟩ : ∃ x, s[k]'hlt = x := ⟨_, rfl⟩
            have hdr : s.drop k = x :: s.drop (k + 1) := by rw [← hx]; exact List.drop_eq_getElem_cons hlt
            rw [hx] at hix
            have HD := Lib.hid hdr; clear hdr hx
            have hk5 : (10 : Int) ^ k ≤ 10 ^ 5 := by
              have : (10 : Nat) ^ k ≤ 10 ^ 5 := Nat.pow_le_pow_right (by decide) (by have := H6.out; omega)
              exact_mod_cast this
            have hpow : (10 : Int) ^ (k + 1) = 10 ^ k * 10 := Int.pow_succ ..
            have hx255 : x.toNat < 256 := x.toNat_lt
            by_cases hdg : 48 ≤ x.toNat ∧ x.toNat ≤ 57
            · have h1 : ¬ (x.toNat : Int) < 48 := by omega
              have h2 : ¬ (57 : Int) < (x.toNat : Int) := by omega
              have hw1 : IntKind.i64.wrap (10 * a) = 10 * a := IntWalk.i64_in _ (by omega)
              have hw2 : IntKind.u8.wrap ((x.toNat : Int) - 48) = (x.toNat : Int) - 48 := by rw [IntKind.wrap_u8]; omega
              have hw3 : IntKind.i64.wrap ((x.toNat : Int) - 48) = (x.toNat : Int) - 48 := IntWalk.i64_in _ (by omega)
              have hw4 : IntKind.i64.wrap (10 * a + ((x.toNat : Int) - 48)) = 10 * a + ((x.toNat : Int) - 48) := IntWalk.i64_in _ (by omega)
              have HB := Lib.hid (show 0 ≤ 10 * a + ((x.toNat : Int) - 48) ∧ 10 * a + ((x.toNat : Int) - 48) < 10 ^ (k + 1) by omega)
              clear hk5 hpow hx255
              go_wp2_with fail
              exact ⟨⟨k + 1, _, by omega, rfl, rfl, trivial, HB.out, by rw [Hd.out, HD.out, readGo, if_pos (isDig_iff.2 hdg)]⟩, by simp [intOf]; omega⟩
            · have hN : readL s = -1 := by rw [HR.out, Hd.out, HD.out, readGo, if_neg (fun h => hdg (isDig_iff.1 h))]
              clear hk5 hpow
              by_cases h1 : (x.toNat : Int) < 48
              · clear hdg
                go_wp2_with fail
                go_ret
                exact ⟨by first | rfl | (rw [hN]; rfl), rfl⟩
              · have h2 : (57 : Int) < (x.toNat : Int) := by omega
                clear hdg
                go_wp2_with fail
                go_ret
                exact ⟨by first | rfl | (rw [hN]; rfl), rfl⟩
          · have hlt' : ¬ (k : Int) < (s.length : Int) := by omega
            obtain rfl : k = s.length := by omega
            go_wp2_with fail
            go_ret
            exact ⟨by rw [HR.out, Hd.out, List.drop_of_length_le (Nat.le_refl _)]; rfl, rfl⟩
  · have hi6 : inB (s.length : Int) 1 6 = false := by rw [← Bool.not_eq_true, inB_iff]; omega
    have hR : readL s = -1 := by unfold readL; rw [if_neg (fun h => h6 h.1)]
    go_enter Tryd.func61, Tryd.ntmps61
    go_wp2_with (go_at_call 52; refine (l1In_any _ _ _ _).mono ?_; rintro e w1 ⟨rfl, rfl⟩; rw [hi6])
    go_ret
    exact ⟨by rw [hR]; rfl, rfl⟩
end Go.Proofs.YtmiefdjbhcpnbaaDoor

/- Several texts, one behind the other: C5zzb. -/
import Derived.Test.YtmiefdjbhcpnbaaZPPax

namespace Go.Proofs.Ytmiefdjbhcpnbaa
open Go.RowKit

theorem idxP_at {l : List Fr} {q : Fr} {k : Nat} (hk : k < l.length) (hq : l[k] = q) (hn : ∀ j (h : j < k), l[j]'(by omega) ≠ q) : idxP l q = (k : Int) := by
  have e : l.findIdx (· == q) = k := by
    rw [List.findIdx_eq hk]
    exact ⟨by simp [hq], fun j hj => by simpa using hn j hj⟩
  unfold idxP
  rw [e, if_pos hk]
theorem idxP_none {l : List Fr} {q : Fr} (hn : ∀ j (h : j < l.length), l[j] ≠ q) : idxP l q = -1 := by
  unfold idxP
  rw [if_neg]
  rw [List.findIdx_lt_length]
  rintro ⟨x, hx, h⟩
  obtain ⟨j, hj, rfl⟩ := List.mem_iff_getElem.1 hx
  exact hn j hj (by simpa using h)
set_option maxRecDepth 100000 in
set_option maxHeartbeats 1000000 in
theorem specThrowsUsed_no (s f a b : Int) (A : Option Addr) (c : Nat) (xs : List Int) (w : World) (hx : RI w w.heap.size A xs) (hbad : playOk s f a b xs = false) :
    Calls Try.prog 17 #[.int .i64 s, .int .i64 f, .int .i64 a, .int .i64 b, .slice A xs.length c] w fun e w' => e = .returned (.tuple #[.int .i64 0, .bool false]) ∧ Below w.heap.size w w' := by
  have HC := Lib.hid (oiThrows_any s f a b A c xs w hx)
  rw [hbad] at HC
  clear hbad hx
  go_enter Try.func17, Try.ntmps17
  go_wp2_with fail
  refine HC.out.mono ?_
  rintro e w2 ⟨rfl, rfl⟩
  go_wp2
  exact bodyPost_ret (v := .tuple #[.int .i64 0, .bool false]) (by simp [results, Try.results17]) rfl ⟨rfl, Below.refl _ _⟩
set_option maxRecDepth 100000 in
set_option maxHeartbeats 1000000 in
theorem specThrowsUsed_yes (s f a b : Nat) (A : Option Addr) (c : Nat) (fs : List Nat) (xs : List Int) (hxs : xs = fs.map fun n : Nat => (n : Int)) (T : Tab) (hT : T = bT true s f) (w : World) (hx : RI w w.heap.size A xs) (hok : playOk s f a b xs = true) (hs1 : 1 ≤ s) (hs : s ≤ 6) (hf1 : 1 ≤ f) (hf : f ≤ 4) (ha : a ≤ s) (hb : b ≤ s) (hlen : fs.length ≤ 60) (hfs : ∀ n ∈ fs, 1 ≤ n ∧ n ≤ f) (l : List Fr) (hl : l = pathP (allT T s) s (a, b) fs) :
    Calls Try.prog 17 #[.int .i64 s, .int .i64 f, .int .i64 a, .int .i64 b, .slice A xs.length c] w fun e w' => e = .returned (usedP l (s, s)) ∧ Below w.heap.size w w' := by
  have HC := Lib.hid (oiThrows_any s f a b A c xs w hx)
  rw [hok] at HC
  have HO := Lib.hid (fun W h => oiPlay_yes s f a b A c fs xs hxs T hT W h hs1 hs hf1 hf ha hb hlen hfs l hl)
  have HX := Lib.hid hx
  have hle : ∀ k, (l.getD k (0, 0)).1 ≤ s ∧ (l.getD k (0, 0)).2 ≤ s := fun k => by
    by_cases hk : k ≤ fs.length
    · rw [hl, pathP_at _ _ _ _ k hk]; exact endP_le (T := allT T s) (s := s) (fs.take k) (a, b) ha hb
    · have : l.length = fs.length + 1 := by rw [hl]; exact pathP_len _ _ _ _
      rw [List.getD_eq_getElem?_getD, List.getElem?_eq_none (by omega)]
      exact ⟨Nat.zero_le _, Nat.zero_le _⟩
  have hl60 : l.length ≤ 61 := by rw [hl, pathP_len]; omega
  have w2s : IntKind.i64.wrap (2 * (s : Int)) = ((2 * s : Nat) : Int) := by rw [IntWalk.i64_in _ (by omega)]; omega
  obtain ⟨S2, hS2⟩ : ∃ S2, S2 = 2 * s := ⟨_, rfl⟩
  rw [← hS2] at w2s
  have HS2 := Lib.hid hS2
  have HLE := Lib.hid hle
  obtain ⟨V, hV⟩ : ∃ V, V = usedP l (s, s) := ⟨_, rfl⟩
  rw [← hV]
  have HV := Lib.hid hV
  clear hok hx hxs hT hfs hl hle hS2 hV
  go_enter Try.func17, Try.ntmps17
  go_wp2_with fail
  refine HC.out.mono ?_
  rintro e w2 ⟨rfl, rfl⟩
  go_wp2_with fail
  refine (HO.out _ HX.out).mono ?_
  rintro e w3 ⟨A', c', Bk, C, rfl, hG, hx3⟩
  have z3 := hx3.size
  go_wp2_with fail
  have hG3 := hG
  clear hG
  go_loopw [28] (fun v wr => ∃ k : Nat, k ≤ l.length ∧ v = .int .i64 (k : Int) ∧ Below w3.heap.size w3 wr ∧ Hid (∀ j (_ : j < k), l.getD j (0, 0) ≠ (s, s))) (fun v _ => l.length - (intOf v).toNat)
  case atStart => exact ⟨0, Nat.zero_le _, rfl, Below.refl _ _, Lib.hid fun j h => by omega⟩
  case round =>
    obtain ⟨k, hk, rfl, hB, hN⟩ := hrel
    have hsz := hB.size
    by_cases hlt : k < l.length
    · obtain ⟨g, hA, hlo, hgs, c1, hrow⟩ := (hG3.below hB).row hlt
      simp only at hA
      injection hA with hA _ _
      subst hA
      have d0 := hrow.cell (k := 0) (by omega)
      have d1 := hrow.cell (k := 1) (by omega)
      simp only [pathF, if_true, Nat.one_ne_zero, if_false] at d0 d1
      have hle := HLE.out k
      obtain ⟨q, hq⟩ : ∃ q, q = l.getD k (0, 0) := ⟨_, rfl⟩
      rw [← hq] at d0 d1 hle
      have HQ := Lib.hid hq
      clear hq hrow
      obtain ⟨x, y⟩ := q
      have hx0 : x ≤ s := hle.1
      have hy0 : y ≤ s := hle.2
      have wxy : IntKind.i64.wrap ((x : Int) + (y : Int)) = ((x + y : Nat) : Int) := by rw [IntWalk.i64_in _ (by omega)]; omega
      obtain ⟨Z, hZ⟩ : ∃ Z, Z = x + y := ⟨_, rfl⟩
      rw [← hZ] at wxy
      have HZ := Lib.hid hZ
      clear hZ hle
      by_cases e : Z = S2
      · have eb : ((Z : Int) == (S2 : Int)) = true := by simp [e]
        have E := Lib.hid e
        clear e
        go_wp2_with fail
        go_quiet (fail)
        go_wp2
        refine bodyPost_ret (v := .tuple #[.int .i64 (k : Nat), .bool true]) (by simp [results, Try.results17]) rfl ⟨?_, hx3.trans ((below_drewP hB _).mono z3)⟩
        have e1 : idxP l (s, s) = (k : Int) := by
          refine idxP_at hlt ?_ (fun j hj => ?_)
          · have h1 := HQ.out
            rw [List.getD_eq_getElem?_getD, List.getElem?_eq_getElem hlt] at h1
            have h2 := HZ.out; have h3 := HS2.out; have h4 := E.out
            rw [← show (x, y) = l[k] from h1]
            exact Prod.ext (by simp; omega) (by simp; omega)
          · have := hN.out j hj
            rw [List.getD_eq_getElem?_getD, List.getElem?_eq_getElem (by omega)] at this
            exact this
        rw [HV.out, usedP, e1, if_neg (by omega)]
      · have eb : ((Z : Int) == (S2 : Int)) = false := by
          rw [beq_eq_false_iff_ne]; omega
        have E := Lib.hid e
        clear e
        go_wp2_with fail
        go_quiet (fail)
        go_wp2
        go_roundw
        case rel =>
          refine ⟨k + 1, by omega, by go_num, below_drewP hB _, Lib.hid fun j hj => ?_⟩
          by_cases ej : j = k
          · subst ej
            rw [← HQ.out]
            intro e2
            injection e2 with e3 e4
            have h2 := HZ.out; have h3 := HS2.out; have h4 := E.out
            omega
          · exact hN.out j (by omega)
        case measure => simp [intOf]; omega
    · obtain rfl : k = l.length := by omega
      go_wp2
      refine bodyPost_ret (v := .tuple #[.int .i64 0, .bool false]) (by simp [results, Try.results17]) rfl ⟨?_, hx3.trans (hB.mono z3)⟩
      rw [HV.out, usedP, idxP_none (fun j hj => by
        have := hN.out j hj
        rw [List.getD_eq_getElem?_getD, List.getElem?_eq_getElem hj] at this
        exact this), if_pos (by omega)]
/-- A number and a bool, and no old memory is written. -/
def UsedBack (w : World) (u : Int) (ok : Bool) (e : Ending) (w' : World) : Prop := e = .returned (.tuple #[.int .i64 u, .bool ok]) ∧ Below w.heap.size w w'
theorem usedP_parts (l : List Fr) (q : Fr) : ∃ u ok, usedP l q = .tuple #[.int .i64 u, .bool ok] := by
  unfold usedP
  split
  · exact ⟨_, _, rfl⟩
  · exact ⟨_, _, rfl⟩
theorem throwsUsed_both (s f a b : Int) (xs : List Int) : ∃ (u : Int) (ok : Bool),
    (∀ (A : Option Addr) (c : Nat) (w : World), RI w w.heap.size A xs → Calls Try.prog 18 #[.int .i64 s, .int .i64 f, .int .i64 a, .int .i64 b, .slice A xs.length c] w (UsedBack w u ok)) ∧
    (∀ (A : Option Addr) (c : Nat) (w : World), RI w w.heap.size A xs → Calls Try.prog 17 #[.int .i64 s, .int .i64 f, .int .i64 a, .int .i64 b, .slice A xs.length c] w (UsedBack w u ok)) := by
  cases hp : pairOk s f a b with
  | false =>
    have hbad : playOk s f a b xs = false := by unfold playOk; rw [hp]; rfl
    exact ⟨0, false, fun A c w hx => (implThrowsUsed_no s f a b A _ c w hp).mono fun _ _ h => h, fun A c w hx => (specThrowsUsed_no s f a b A c xs w hx hbad).mono fun _ _ h => h⟩
  | true =>
    have hh := pairOk_iff.1 hp
    obtain ⟨S, rfl⟩ : ∃ S : Nat, s = S := ⟨s.toNat, by omega⟩
    obtain ⟨F, rfl⟩ : ∃ F : Nat, f = F := ⟨f.toNat, by omega⟩
    obtain ⟨a, rfl⟩ : ∃ a' : Nat, a = a' := ⟨a.toNat, by omega⟩
    obtain ⟨b, rfl⟩ : ∃ b' : Nat, b = b' := ⟨b.toNat, by omega⟩
    cases hok : playOk S F a b xs with
    | false =>
      exact ⟨0, false, fun A c w hx => (implThrowsUsed_bad S F a b A c xs w hx hp (by omega) (by omega) (by omega) (by omega) hok).mono fun _ _ h => h, fun A c w hx => (specThrowsUsed_no S F a b A c xs w hx hok).mono fun _ _ h => h⟩
    | true =>
      have ho := hok
      unfold playOk at ho
      simp only [Bool.and_eq_true, decide_eq_true_eq, List.all_eq_true] at ho
      obtain ⟨⟨_, h60⟩, hall⟩ := ho
      have hxs : xs = (xs.map Int.toNat).map fun n : Nat => (n : Int) := by
        rw [List.map_map]
        refine (List.map_id xs).symm.trans (List.map_congr_left fun x hx => ?_)
        have := inB_iff.1 (hall x hx)
        simp; omega
      have hfs : ∀ n ∈ xs.map Int.toNat, 1 ≤ n ∧ n ≤ F := fun n hn => by
        rw [List.mem_map] at hn
        obtain ⟨x, hx, rfl⟩ := hn
        have := inB_iff.1 (hall x hx)
        omega
      have hlen : (xs.map Int.toNat).length ≤ 60 := by rw [List.length_map]; exact h60
      obtain ⟨u, ok, hu⟩ := usedP_parts (pathP (allT (bT true S F) S) S (a, b) (xs.map Int.toNat)) (S, S)
      exact ⟨u, ok,
        fun A c w hx => (implThrowsUsed_yes S F a b A c _ xs hxs _ rfl w hx hp (by omega) (by omega) (by omega) (by omega) (by omega) (by omega) hlen hfs).mono fun _ _ h => by rw [hu] at h; exact h,
        fun A c w hx => (specThrowsUsed_yes S F a b A c _ xs hxs _ rfl w hx hok (by omega) (by omega) (by omega) (by omega) (by omega) (by omega) hlen hfs _ rfl).mono fun _ _ h => by rw [hu] at h; exact h⟩
end Go.Proofs.Ytmiefdjbhcpnbaa

/- Several texts, one behind the other: C5zy C5zz C5zza L8. -/
import Derived.Test.YtmiefdjbhcpnbaaChecked
import Derived.BigQuiet
import Derived.Deep.QuietTactic
import Derived.Test.YtmiefdjbhcpnbaaZPPaw
import Derived.Test.YtmiefdjbhcpnbaaZPPad

namespace Go.Proofs.Ytmiefdjbhcpnbaa
open Go.RowKit

theorem cell_new2P (w : World) (o1 : Obj) (v : Value) (t : TypeId) : ∀ (j : Nat) u, [v][j]? = some u → ((w.alloc o1).alloc (.cells #[v] t)).cell? ((⟨w.heap.size + 1, 0, none⟩ : Addr).add j) = some u := by
  intro j u h
  match j, h with
  | 0, h => simp at h; subst h; rw [Addr.add_lit, cell_of_row _ _ _ #[v] t (0, 0) (heap_alloc_at _ _ _ (by simp))]; rfl
set_option maxRecDepth 100000 in
set_option maxHeartbeats 1000000 in
theorem oiPlay_yes (s f a b : Nat) (A : Option Addr) (c : Nat) (fs : List Nat) (xs : List Int) (hxs : xs = fs.map fun n : Nat => (n : Int)) (T : Tab) (hT : T = bT true s f) (w : World) (hx : RI w w.heap.size A xs) (hs1 : 1 ≤ s) (hs : s ≤ 6) (hf1 : 1 ≤ f) (hf : f ≤ 4) (ha : a ≤ s) (hb : b ≤ s) (hlen : fs.length ≤ 60) (hfs : ∀ n ∈ fs, 1 ≤ n ∧ n ≤ f) (l : List Fr) (hl : l = pathP (allT T s) s (a, b) fs) :
    Calls Try.prog 28 #[.int .i64 s, .int .i64 f, .int .i64 a, .int .i64 b, .slice A xs.length c] w fun e w' => ∃ A' c' Bk C, e = .returned (.slice A' l.length c') ∧ Grid w' w.heap.size 25 3 (.slice A' l.length c') l.length (fun _ => 2) (pathF l) Bk C ∧ Below w.heap.size w w' := by
  have ws : IntKind.i64.wrap ((s : Int) + 1) = ((s + 1 : Nat) : Int) := by rw [IntWalk.i64_in _ (by omega)]; omega
  have hxl : xs.length = fs.length := by rw [hxs, List.length_map]
  have hpl : l.length = fs.length + 1 := by rw [hl]; exact pathP_len _ _ _ _
  have hgd : ∀ k, k ≤ fs.length → l.getD k (0, 0) = endP (allT T s) s (a, b) (fs.take k) := fun k hk => by rw [hl]; exact pathP_at _ _ _ _ k hk
  have hl60 : xs.length ≤ 60 := by omega
  obtain ⟨i0, hi, hz0, hz1, hz2⟩ := info_parts infoSlP
  obtain ⟨n, hn⟩ : ∃ n : Nat, n = (s + 1) * (s + 1) := ⟨_, rfl⟩
  have hcall := fun W => oiTable_any 0 (chS true) gS s f (bT true s f) W (best_ruleS s hs) (bT_tabS hs1 hs hf1 hf) (bT_goodS hs1 hs hf1 hf) (bT_small hs1 hs hf1 hf) hs hf1 (by omega)
  rw [← hT] at hcall
  simp only [← hn, show chS true = chShort from rfl] at hcall
  have HC := Lib.hid hcall
  have HXS := Lib.hid hxs
  have HFS := Lib.hid hfs
  have HXL := Lib.hid hxl
  have HPL := Lib.hid hpl
  have HGD := Lib.hid hgd
  have HN := Lib.hid hn
  have HWS := Lib.hid ws
  clear hcall hT hxs hfs hxl hpl hgd hl hn ws
  go_enter Try.func28, Try.ntmps28
  go_wp2_with fail
  refine (HC.out _).mono ?_
  rintro e w1 ⟨gw, rfl, hx1, _, hW1⟩
  have HW := Lib.hid hW1
  clear hW1
  go_wp2_with fail
  go_loopw [2, 3, 13, 29] (fun va vb v i wr => ∃ (k : Nat) (Bk C : Nat → Nat), k ≤ xs.length ∧ i = .int .i64 (k : Int) ∧ va = .int .i64 ((endP (allT T s) s (a, b) (fs.take k)).1 : Nat) ∧ vb = .int .i64 ((endP (allT T s) s (a, b) (fs.take k)).2 : Nat) ∧ Below w1.heap.size w1 wr ∧ Grid wr w1.heap.size 25 3 v (k + 1) (fun _ => 2) (pathF l) Bk C) (fun _ _ _ i _ => xs.length - (intOf i).toNat)
  case atStart =>
    have e0 := HGD.out 0 (Nat.zero_le _)
    exact ⟨0, _, _, Nat.zero_le _, rfl, rfl, rfl, below2 _ _ _, gridOne w1 a b (pathF l) (by unfold pathF; rw [e0]; rfl) (by unfold pathF; rw [e0]; rfl) w1.heap.size (Nat.le_refl _)⟩
  case round =>
    obtain ⟨k, Bk, C, hk, rfl, rfl, rfl, hB, hG⟩ := hrel
    have hsz := hB.size
    obtain ⟨Av, cv, rfl⟩ := hG.slice
    by_cases hlt : k < xs.length
    · obtain ⟨bb, off, rfl, hbw, c1⟩ := (hx.go hx1).at_ hB hlt
      have hkf : k < fs.length := by rw [← HXL.out]; exact hlt
      have hxk : xs[k] = ((fs[k] : Nat) : Int) := by have e := HXS.out; subst e; simp
      rw [hxk] at c1
      have hfk := HFS.out fs[k] (List.getElem_mem hkf)
      have hsucc : endP (allT T s) s (a, b) (fs.take (k + 1)) = nextP (allT T s) s (endP (allT T s) s (a, b) (fs.take k)) fs[k] := by rw [List.take_succ_eq_append_getElem hkf]; exact endP_snoc _ _ _ _ _
      have hle := endP_le (T := allT T s) (s := s) (fs.take k) (a, b) ha hb
      have hgk := HGD.out (k + 1) hkf
      rw [hsucc] at hgk
      obtain ⟨q, hq⟩ : ∃ q, q = endP (allT T s) s (a, b) (fs.take k) := ⟨_, rfl⟩
      obtain ⟨face, hface⟩ : ∃ n, n = fs[k] := ⟨_, rfl⟩
      rw [← hq] at hle
      rw [← hq, ← hface] at hsucc hgk
      rw [← hface] at hfk c1
      simp only [← hq]
      obtain ⟨x, y⟩ := q
      have hx0 : x ≤ s := hle.1
      have hy0 : y ≤ s := hle.2
      have ws := HWS.out
      have hxS : x * (s + 1) ≤ 6 * 7 := Nat.mul_le_mul (by omega) (by omega)
      have wx : IntKind.i64.wrap ((x : Int) * ((s + 1 : Nat) : Int)) = ((x * (s + 1) : Nat) : Int) := by rw [← Int.natCast_mul]; exact IntWalk.i64_in _ (by omega)
      obtain ⟨I1, hI1⟩ : ∃ I1, I1 = x * (s + 1) := ⟨_, rfl⟩
      rw [← hI1] at wx hxS
      obtain ⟨I, hI⟩ : ∃ I, I = I1 + y := ⟨_, rfl⟩
      have wI : IntKind.i64.wrap ((I1 : Int) + (y : Int)) = (I : Int) := by rw [hI, IntWalk.i64_in _ (by omega)]; omega
      obtain ⟨K, hK⟩ : ∃ K : Nat, K = face - 1 := ⟨_, rfl⟩
      have wK : IntKind.i64.wrap ((face : Int) - 1) = (K : Int) := by rw [hK, IntWalk.i64_in _ (by omega)]; omega
      have hIx : I = x * (s + 1) + y := by rw [hI, hI1]
      have hltn : x * (s + 1) + y < (s + 1) * (s + 1) := by
        have : x * (s + 1) ≤ s * (s + 1) := Nat.mul_le_mul_right _ hx0
        rw [Nat.add_mul]; omega
      have hd : (x * (s + 1) + y) / (s + 1) = x := by rw [Nat.mul_comm, Nat.mul_add_div (by omega), Nat.div_eq_of_lt (by omega)]; omega
      have hmo : (x * (s + 1) + y) % (s + 1) = y := by rw [Nat.mul_comm, Nat.mul_add_mod, Nat.mod_eq_of_lt (by omega)]
      have hV : whoF chShort T s I K = whoI (movP chShort (allT T s) s x y face) := by
        unfold whoF
        rw [hIx, hd, hmo, hK, show face - 1 + 1 = face by omega, movP_part hfk.1]
      have bI : (I : Int) < (n : Int) := by rw [HN.out, hIx]; exact Int.ofNat_lt.2 hltn
      have bI' : I < n := by omega
      have bK : (K : Int) < (f : Int) := by omega
      have bK' : K < f := by omega
      obtain ⟨gb, cb, d1, d2⟩ := WhoS.at_ HW.out (i := I) (k := K) bI' rfl bK'
      rw [hV] at d2
      have e1 := keepcell hB d1
      have e2 := keepcell hB d2
      obtain ⟨m, hm⟩ : ∃ m, m = movP chShort (allT T s) s x y face := ⟨_, rfl⟩
      rw [← hm] at e2
      have HM := Lib.hid hm.symm
      have HSU := Lib.hid hsucc
      have HGK := Lib.hid hgk
      obtain ⟨S, hS⟩ : ∃ S : Nat, S = s + 1 := ⟨_, rfl⟩
      rw [← hS] at ws wx
      clear hq hface hxk hsucc hgk hle hV hIx hltn hd hmo d1 d2 hm hI1 hI hK hS
      cases m with
      | none =>
        have er : nextP (allT T s) s (x, y) face = (x, y) := nextP_none HM.out
        rw [er] at HSU HGK
        have e2' : wr.cell? ⟨gb, K, none⟩ = some (.int .i64 (-1)) := e2
        clear e2
        have hGa := (hG.alloc (.cells #[.int .i64 (x : Nat), .int .i64 (y : Nat)] 3)).alloc (.cells #[.slice (some ⟨wr.heap.size, 0, none⟩) 2 2] 25)
        go_wp2_with (at_builtin; go_loud (refine wpList_append_own_at _ rfl _ _ 26 rfl w1.heap.size 25 i0 (.slice none 0 0) 1 24 Try.underlying26 hi hz0 hz1 hz2 rfl (by decide) _ _ _ rfl hGa.1 ⟨wr.heap.size + 1, 0, none⟩ 1 1 [.slice (some ⟨wr.heap.size, 0, none⟩) 2 2] rfl rfl (cell_new2P _ _ _ _) (one_sliceP _ _ _) (by unfold maxLen; omega) (by omega) (by simp; omega) ?_; intro v1 w4 hown4 hg4 _ hb4))
        go_roundw
        case rel =>
          have hp := Grid.push (hG.alloc (.cells #[.int .i64 (x : Nat), .int .i64 (y : Nat)] 3)) (rowTwo wr 3 (x : Nat) (y : Nat)) (by omega) (fun e => by have := hG.lt _ e; omega) (fun y hy e => by have := (hG.2.1 y hy).2.2.lt; omega) hown4 hg4 hb4
          refine ⟨k + 1, _, _, by omega, by go_num, by rw [HSU.out], by rw [HSU.out], ((hB.alloc (by omega) _).alloc (by simp; omega) _).grown hg4 (by simp; omega) (fun i h => hG.from_ i h), hp.congr (fun y _ => by split <;> rfl) (fun y hy i hi => ?_)⟩
          by_cases e : y = k + 1
          · subst e
            simp only [if_true, pathF, HGK.out]
          · simp only [e, if_false]
        case measure => simp [intOf]; omega
      | some tok =>
        obtain ⟨X, hX⟩ : ∃ X : Nat, X = if tok = 0 then x + face else x := ⟨_, rfl⟩
        obtain ⟨Y, hY⟩ : ∃ Y : Nat, Y = if tok = 0 then y else y + face := ⟨_, rfl⟩
        have er : nextP (allT T s) s (x, y) face = (X, Y) := by rw [nextP_some HM.out, hX, hY]
        rw [er] at HSU HGK
        have hnx := fun W => oiNext_any x y tok face W (by omega) (by omega) (by omega)
        rw [← hX, ← hY] at hnx
        have HNX := Lib.hid hnx
        have e2' : wr.cell? ⟨gb, K, none⟩ = some (.int .i64 (tok : Nat)) := e2
        have h0 : (0 : Int) ≤ (tok : Int) := by omega
        clear e2 er hnx hX hY
        go_wp2_with (first | (go_at_call 40; go_loud (refine (HNX.out _).mono ?_; rintro e w5 ⟨rfl, hx5⟩; have hB5 := hB.trans (hx5.mono hsz); have hG5 := hG.below hx5; have hsz5 := hB5.size; have hGa := (hG5.alloc (.cells #[.int .i64 (X : Nat), .int .i64 (Y : Nat)] 3)).alloc (.cells #[.slice (some ⟨w5.heap.size, 0, none⟩) 2 2] 25))) | (at_builtin; go_loud (refine wpList_append_own_at _ rfl _ _ 26 rfl w1.heap.size 25 i0 (.slice none 0 0) 1 24 Try.underlying26 hi hz0 hz1 hz2 rfl (by decide) _ _ _ rfl hGa.1 ⟨w5.heap.size + 1, 0, none⟩ 1 1 [.slice (some ⟨w5.heap.size, 0, none⟩) 2 2] rfl rfl (cell_new2P _ _ _ _) (one_sliceP _ _ _) (by unfold maxLen; omega) (by omega) (by simp; omega) ?_; intro v1 w4 hown4 hg4 _ hb4)))
        go_roundw
        case rel =>
          have hp := Grid.push (hG5.alloc (.cells #[.int .i64 (X : Nat), .int .i64 (Y : Nat)] 3)) (rowTwo w5 3 (X : Nat) (Y : Nat)) (by omega) (fun e => by have := hG5.lt _ e; omega) (fun y hy e => by have := (hG5.2.1 y hy).2.2.lt; omega) hown4 hg4 hb4
          refine ⟨k + 1, _, _, by omega, by go_num, by rw [HSU.out], by rw [HSU.out], ((hB5.alloc (by omega) _).alloc (by simp; omega) _).grown hg4 (by simp; omega) (fun i h => hG5.from_ i h), hp.congr (fun y _ => by split <;> rfl) (fun y hy i hi => ?_)⟩
          by_cases e : y = k + 1
          · subst e
            simp only [if_true, pathF, HGK.out]
          · simp only [e, if_false]
        case measure => simp [intOf]; omega
    · obtain rfl : k = xs.length := by omega
      rw [HXL.out, ← HPL.out] at hG
      have hout := gridP_mono hG hx1.size
      have hbout := hx1.trans (hB.mono hx1.size)
      clear hG hB
      rw [HXL.out, ← HPL.out]
      go_wp2
      go_ret
      exact ⟨Av, cv, Bk, C, rfl, hout, hbout⟩
end Go.Proofs.Ytmiefdjbhcpnbaa

namespace Go.Proofs.Ytmiefdjbhcpnbaa
open Go.RowKit

set_option maxRecDepth 100000 in
set_option maxHeartbeats 1000000 in
theorem specPlayPair_no (s f a b : Int) (A : Option Addr) (c : Nat) (xs : List Int) (w : World) (hx : RI w w.heap.size A xs) (hbad : playOk s f a b xs = false) :
    Calls Try.prog 9 #[.int .i64 s, .int .i64 f, .int .i64 a, .int .i64 b, .slice A xs.length c] w fun e w' => e = .returned (.tuple #[.slice none 0 0, .bool false]) ∧ Below w.heap.size w w' := by
  have HC := Lib.hid (oiThrows_any s f a b A c xs w hx)
  rw [hbad] at HC
  clear hbad hx
  go_enter Try.func9, Try.ntmps9
  go_wp2_with fail
  refine HC.out.mono ?_
  rintro e w2 ⟨rfl, rfl⟩
  go_wp2
  exact bodyPost_ret (v := .tuple #[.slice none 0 0, .bool false]) (by simp [results, Try.results9]) rfl ⟨rfl, Below.refl _ _⟩
set_option maxRecDepth 100000 in
set_option maxHeartbeats 1000000 in
theorem specPlayPair_yes (s f a b : Nat) (A : Option Addr) (c : Nat) (fs : List Nat) (xs : List Int) (hxs : xs = fs.map fun n : Nat => (n : Int)) (T : Tab) (hT : T = bT true s f) (w : World) (hx : RI w w.heap.size A xs) (hok : playOk s f a b xs = true) (hs1 : 1 ≤ s) (hs : s ≤ 6) (hf1 : 1 ≤ f) (hf : f ≤ 4) (ha : a ≤ s) (hb : b ≤ s) (hlen : fs.length ≤ 60) (hfs : ∀ n ∈ fs, 1 ≤ n ∧ n ≤ f) (l : List Fr) (hl : l = pathP (allT T s) s (a, b) fs) :
    Calls Try.prog 9 #[.int .i64 s, .int .i64 f, .int .i64 a, .int .i64 b, .slice A xs.length c] w fun e w' => ∃ A' c' Bk C, e = .returned (.tuple #[.slice A' l.length c', .bool true]) ∧ Grid w' w.heap.size 25 3 (.slice A' l.length c') l.length (fun _ => 2) (pathF l) Bk C ∧ Below w.heap.size w w' := by
  have HC := Lib.hid (oiThrows_any s f a b A c xs w hx)
  rw [hok] at HC
  have HO := Lib.hid (fun W h => oiPlay_yes s f a b A c fs xs hxs T hT W h hs1 hs hf1 hf ha hb hlen hfs l hl)
  have HX := Lib.hid hx
  clear hok hx hxs hT hfs hl
  go_enter Try.func9, Try.ntmps9
  go_wp2_with fail
  refine HC.out.mono ?_
  rintro e w2 ⟨rfl, rfl⟩
  go_wp2_with fail
  refine (HO.out _ HX.out).mono ?_
  rintro e w3 ⟨A', c', Bk, C, rfl, hG, hx3⟩
  go_wp2
  exact bodyPost_ret (v := .tuple #[.slice A' l.length c', .bool true]) (by simp [results, Try.results9]) rfl ⟨A', c', Bk, C, rfl, hG, hx3⟩
end Go.Proofs.Ytmiefdjbhcpnbaa

namespace Go.Proofs.Ytmiefdjbhcpnbaa
open Go.RowKit

/-- A grid of rows of two and a bool are handed back. -/
def PlayBack (w : World) (n : Nat) (F : Nat → Nat → Int) (ok : Bool) (e : Ending) (w' : World) : Prop :=
  ∃ A c Bk C, e = .returned (.tuple #[.slice A n c, .bool ok]) ∧ Grid w' w.heap.size 25 3 (.slice A n c) n (fun _ => 2) F Bk C ∧ Below w.heap.size w w'
theorem playBack_no {w w' : World} {e : Ending} (F : Nat → Nat → Int) (h : e = .returned (.tuple #[.slice none 0 0, .bool false]) ∧ Below w.heap.size w w') : PlayBack w 0 F false e w' :=
  ⟨none, 0, fun _ => 0, fun _ => 0, h.1, Grid.nil _ _ _ _ _ _ _ _, h.2⟩
theorem playPair_both (s f a b : Int) (xs : List Int) : ∃ (n : Nat) (F : Nat → Nat → Int) (ok : Bool), n ≤ 61 ∧
    (∀ (A : Option Addr) (c : Nat) (w : World), RI w w.heap.size A xs → Calls Try.prog 11 #[.int .i64 s, .int .i64 f, .int .i64 a, .int .i64 b, .slice A xs.length c] w (PlayBack w n F ok)) ∧
    (∀ (A : Option Addr) (c : Nat) (w : World), RI w w.heap.size A xs → Calls Try.prog 9 #[.int .i64 s, .int .i64 f, .int .i64 a, .int .i64 b, .slice A xs.length c] w (PlayBack w n F ok)) := by
  cases hp : pairOk s f a b with
  | false =>
    have hbad : playOk s f a b xs = false := by unfold playOk; rw [hp]; rfl
    exact ⟨0, fun _ _ => 0, false, by omega, fun A c w hx => (implPlayPair_no s f a b A _ c w hp).mono fun _ _ h => playBack_no _ h, fun A c w hx => (specPlayPair_no s f a b A c xs w hx hbad).mono fun _ _ h => playBack_no _ h⟩
  | true =>
    have hh := pairOk_iff.1 hp
    obtain ⟨S, rfl⟩ : ∃ S : Nat, s = S := ⟨s.toNat, by omega⟩
    obtain ⟨F, rfl⟩ : ∃ F : Nat, f = F := ⟨f.toNat, by omega⟩
    obtain ⟨a, rfl⟩ : ∃ a' : Nat, a = a' := ⟨a.toNat, by omega⟩
    obtain ⟨b, rfl⟩ : ∃ b' : Nat, b = b' := ⟨b.toNat, by omega⟩
    cases hok : playOk S F a b xs with
    | false =>
      exact ⟨0, fun _ _ => 0, false, by omega, fun A c w hx => (implPlayPair_bad S F a b A c xs w hx hp (by omega) (by omega) (by omega) (by omega) hok).mono fun _ _ h => playBack_no _ h, fun A c w hx => (specPlayPair_no S F a b A c xs w hx hok).mono fun _ _ h => playBack_no _ h⟩
    | true =>
      have ho := hok
      unfold playOk at ho
      simp only [Bool.and_eq_true, decide_eq_true_eq, List.all_eq_true] at ho
      obtain ⟨⟨_, h60⟩, hall⟩ := ho
      have hxs : xs = (xs.map Int.toNat).map fun n : Nat => (n : Int) := by
        rw [List.map_map]
        refine (List.map_id xs).symm.trans (List.map_congr_left fun x hx => ?_)
        have := inB_iff.1 (hall x hx)
        simp; omega
      have hfs : ∀ n ∈ xs.map Int.toNat, 1 ≤ n ∧ n ≤ F := fun n hn => by
        rw [List.mem_map] at hn
        obtain ⟨x, hx, rfl⟩ := hn
        have := inB_iff.1 (hall x hx)
        omega
      have hlen : (xs.map Int.toNat).length ≤ 60 := by rw [List.length_map]; exact h60
      exact ⟨(pathP (allT (bT true S F) S) S (a, b) (xs.map Int.toNat)).length, pathF (pathP (allT (bT true S F) S) S (a, b) (xs.map Int.toNat)), true, by rw [pathP_len]; omega,
        fun A c w hx => (implPlayPair_yes S F a b A c _ xs hxs _ rfl w hx hp (by omega) (by omega) (by omega) (by omega) (by omega) (by omega) hlen hfs).mono fun _ _ h => h,
        fun A c w hx => (specPlayPair_yes S F a b A c _ xs hxs _ rfl w hx hok (by omega) (by omega) (by omega) (by omega) (by omega) (by omega) hlen hfs _ rfl).mono fun _ _ h => h⟩
end Go.Proofs.Ytmiefdjbhcpnbaa

namespace Go.Proofs.Ytmiefdjbhcpnbaa
open Go.RowKit

/-- What marks write, from k on. -/
def marksI (k : Int) (i : Nat) : Int := k + i

theorem infoInt : (Try.prog.info? 3).map (fun i => (i.zero, i.size, i.bytes)) = some (some (.int .i64 0), 1, 8) := by kernel_rfl

set_option maxHeartbeats 400000 in
theorem toIntS_any (A : Option Addr) (c : Nat) (xs : List Int) (w : World) (hj : RI w w.heap.size A xs) :
    Calls Try.prog 10 #[.slice A xs.length c] w fun e w' => e = .returned (.slice (some ⟨w.heap.size, 0, none⟩) xs.length xs.length) ∧ RowI w' w.heap.size 3 xs.length (fun k => xs.getD k 0) ∧ Below w.heap.size w w' := by
  have hl := hj.1
  obtain ⟨i0, hi, hz0, hz1, hz2⟩ := info_parts infoInt
  go_enter Try.func10, Try.ntmps10
  go_wp2_with (at_make; refine wpList_make_full _ rfl _ _ 25 rfl w.heap.size 3 i0 _ 1 Try.underlying25 hi hz0 hz1 _ _ _ _ xs.length rfl rfl rfl rfl (by rw [hz2]; omega) (by unfold maxLen; omega) (Nat.le_refl _) ?_; intro w1 hown hgrow)
  have hrow := madeI hown rfl
  go_loopw [4] (fun i wr => ∃ k : Nat, k ≤ xs.length ∧ i = .int .i64 k ∧ Below w.heap.size w wr ∧ RowI wr w.heap.size 3 xs.length (fun i => if i < k then xs.getD i 0 else 0)) (fun i _ => xs.length - (intOf i).toNat)
  case atStart => exact ⟨0, Nat.zero_le _, rfl, (Below.refl _ _).grown hgrow (Nat.le_refl _) (fun j h => by cases h), hrow.congr (by simp)⟩
  case round =>
    clear hrow hown hgrow
    obtain ⟨k, hk, rfl, hb, hrow⟩ := hrel
    by_cases hlt : k < xs.length
    · obtain ⟨b, off, rfl, hB, h1⟩ := hj.at_ hb hlt
      have d1 := hrow.cell hlt
      have d3 := hrow.free k
      go_wp2
      go_roundw
      case rel => exact ⟨k + 1, by omega, by go_num, hb.setCell (Nat.le_refl _) _, (hrow.set hlt _).congr (fun i hi => by
        by_cases e : i = k
        · subst e; simp [hlt]
        · have e2 : (i < k + 1) = (i < k) := by apply propext; omega
          simp [e, e2])⟩
      case measure => simp [intOf]; omega
    · obtain rfl : k = xs.length := by omega
      go_wp2
      go_ret
      exact ⟨rfl, hrow.congr (fun i hi => by simp [hi]), hb⟩

set_option maxHeartbeats 400000 in
theorem markIntS_any (A : Option Addr) (n c lo : Nat) (F : Nat → Int) (k0 : Int) (w : World) (h : OI w lo 3 A n F) (hn : n ≤ 1048576) (h0 : 0 ≤ k0) (h1 : k0 ≤ 1000000000) :
    Calls Try.prog 14 #[.slice A n c, .int .i64 k0] w fun e w' => e = .returned (.int .i64 (k0 + n)) ∧ OI w' lo 3 A n (marksI k0) ∧ (∀ B, B ≤ lo → Below B w w') ∧ w'.heap.size = w.heap.size := by
  go_enter Try.func14, Try.ntmps14
  go_wp2
  go_loopw [1, 5] (fun v i wr => ∃ k : Nat, k ≤ n ∧ i = .int .i64 k ∧ v = .int .i64 (k0 + k) ∧ OI wr lo 3 A n (fun j => if j < k then marksI k0 j else F j) ∧ Hid (∀ B, B ≤ lo → Below B w wr) ∧ Hid (wr.heap.size = w.heap.size)) (fun _ i _ => n - (intOf i).toNat)
  case atStart => exact ⟨0, Nat.zero_le _, rfl, by simp, h.congr (by simp), Lib.hid (fun _ _ => Below.refl _ _), Lib.hid rfl⟩
  case round =>
    obtain ⟨k, hk, rfl, rfl, ho, hg, hsz⟩ := hrel
    by_cases hlt : k < n
    · obtain ⟨g, rfl, hlo, hr⟩ := ho.get hlt
      have c1 := hr.cell hlt
      have f1 := hr.free k
      go_wp2
      go_roundw
      case rel => exact ⟨k + 1, by omega, by go_num, by go_num, .inr ⟨g, rfl, hlo, (hr.set hlt _).congr (fun j hj => by
        by_cases e : j = k
        · subst e; simp [marksI]
        · have e2 : (j < k + 1) = (j < k) := by apply propext; omega
          simp [e, e2])⟩, Lib.hid (fun B hB => (hg.out B hB).setCell (by dsimp only; omega) _), Lib.hid (by simp; exact hsz.out)⟩
      case measure => simp [intOf]; omega
    · obtain rfl : k = n := by omega
      go_wp2
      go_ret
      exact ⟨rfl, ho.congr (fun j hj => by simp [hj]), hg.out, hsz.out⟩

set_option maxHeartbeats 400000 in
theorem heldIntS_any (A : Option Addr) (n c lo : Nat) (k0 : Int) (w : World) (h : OI w lo 3 A n (marksI k0)) (hn : n ≤ 1048576) (h0 : 0 ≤ k0) (h1 : k0 ≤ 1000000000) :
    Calls Try.prog 21 #[.slice A n c, .int .i64 k0] w fun e w' => e = .returned (.int .i64 (k0 + n)) ∧ w = w' := by
  go_enter Try.func21, Try.ntmps21
  go_wp2
  go_loop [1, 5] (fun v i => ∃ k : Nat, k ≤ n ∧ i = .int .i64 k ∧ v = .int .i64 (k0 + k)) (fun _ i => n - (intOf i).toNat)
  case atStart => exact ⟨0, Nat.zero_le _, rfl, by simp⟩
  case round =>
    obtain ⟨k, hk, rfl, rfl⟩ := hrel
    by_cases hlt : k < n
    · obtain ⟨g, rfl, hlo, hr⟩ := h.get hlt
      have c1 : w.cell? ⟨g, k, none⟩ = some (.int .i64 (k0 + k)) := hr.cell hlt
      go_wp2
      go_round
      case rel => exact ⟨k + 1, by omega, by go_num, by go_num⟩
      case measure => simp [intOf]; omega
    · obtain rfl : k = n := by omega
      go_wp2
      go_ret
      exact ⟨rfl, rfl⟩

set_option maxHeartbeats 400000 in
theorem heldIntS_big (A : Option Addr) (n c lo : Nat) (k0 : Int) (w : World) (h : OI w lo 3 A n (marksI k0)) (hn : n ≤ 1048576) (h0 : 0 ≤ k0) (h1 : k0 ≤ 10000000000000) :
    Calls Try.prog 21 #[.slice A n c, .int .i64 k0] w fun e w' => e = .returned (.int .i64 (k0 + n)) ∧ w = w' := by
  go_enter Try.func21, Try.ntmps21
  go_wp2
  go_loop [1, 5] (fun v i => ∃ k : Nat, k ≤ n ∧ i = .int .i64 k ∧ v = .int .i64 (k0 + k)) (fun _ i => n - (intOf i).toNat)
  case atStart => exact ⟨0, Nat.zero_le _, rfl, by simp⟩
  case round =>
    obtain ⟨k, hk, rfl, rfl⟩ := hrel
    by_cases hlt : k < n
    · obtain ⟨g, rfl, hlo, hr⟩ := h.get hlt
      have c1 : w.cell? ⟨g, k, none⟩ = some (.int .i64 (k0 + k)) := hr.cell hlt
      go_wp2
      go_round
      case rel => exact ⟨k + 1, by omega, by go_num, by go_num⟩
      case measure => simp [intOf]; omega
    · obtain rfl : k = n := by omega
      go_wp2
      go_ret
      exact ⟨rfl, rfl⟩

set_option maxRecDepth 100000 in
set_option maxHeartbeats 400000 in
theorem eqIntS_any (A A' : Option Addr) (c c' : Nat) (xs ys : List Int) (w : World) (hj : RI w w.heap.size A xs) (hj' : RI w w.heap.size A' ys) :
    Calls Try.prog 13 #[.slice A xs.length c, .slice A' ys.length c'] w fun e w' => e = .returned (.bool (xs == ys)) ∧ Below w.heap.size w w' := by
  have hl := hj.1
  have hl' := hj'.1
  by_cases hne : xs.length = ys.length
  · have hq : ((xs.length : Int) != (ys.length : Int)) = false := bne_eq_false_iff_eq.2 (by omega)
    go_enter Try.func13, Try.ntmps13
    go_wp2
    have hne' := Lib.hid hne; clear hne
    go_loopw [5] (fun i wr => ∃ k : Nat, k ≤ xs.length ∧ i = .int .i64 k ∧ Below w.heap.size w wr ∧ (xs == ys) = (xs.drop k == ys.drop k)) (fun i _ => xs.length - (intOf i).toNat)
    case atStart => exact ⟨0, Nat.zero_le _, rfl, Below.refl _ _, rfl⟩
    case round =>
      obtain ⟨k, hk, rfl, hb, hd⟩ := hrel
      have Hd := Lib.hid hd; clear hd
      by_cases hlt : k < xs.length
      · have hlt' : k < ys.length := by have := hne'.out; omega
        obtain ⟨b, off, rfl, hB, h1⟩ := hj.at_ hb hlt
        obtain ⟨b', off', rfl, hB', h3⟩ := hj'.at_ hb hlt'
        go_wp2
        go_quiet (fail)
        go_wp2
        · have hn : (xs[k] == ys[k]) = false := by simpa using (show (xs[k] != ys[k]) = true by assumption)
          go_ret
          exact ⟨ret_bool (by rw [Hd.out, drop_step _ _ hlt, drop_step _ _ hlt', List.cons_beq_cons, hn]; rfl), drewB hb _⟩
        · have hn : (xs[k] == ys[k]) = true := by simpa using (show (xs[k] != ys[k]) = false by assumption)
          go_roundw
          case rel => exact ⟨k + 1, by omega, by go_num, drewB hb _, by rw [Hd.out, drop_step _ _ hlt, drop_step _ _ hlt', List.cons_beq_cons, hn, Bool.true_and]⟩
          case measure => simp [intOf]; omega
      · go_wp2
        go_ret
        exact ⟨ret_bool (by rw [Hd.out, List.drop_eq_nil_of_le (by omega), List.drop_eq_nil_of_le (by have := hne'.out; omega)]; rfl), hb⟩
  · have hq : ((xs.length : Int) != (ys.length : Int)) = true := bne_iff_ne.2 (by omega)
    go_enter Try.func13, Try.ntmps13
    go_wp2
    go_ret
    exact ⟨ret_bool (by have h2 : ¬ xs = ys := fun e => hne (by rw [e]); simpa using h2), Below.refl _ _⟩
end Go.Proofs.Ytmiefdjbhcpnbaa

/-
  Pairs: who moves by best choices, the model's; PairChoice both.
-/
import Derived.Test.YtblpfjjnlfjloaaC5zk
import Derived.Test.YtblpfjjnlfjloaaC1h
import Derived.Test.YtblpfjjnlfjloaaC5a
namespace Go.Proofs.Ytblpfjjnlfjloaa
open Go.RowKit

/-- Who moves, told as the functions do. -/
def moveR (s f a b face : Int) : Int × Bool :=
  if pairOk s f a b && inB face 1 f then
    match movP chShort (allT (bT true s.toNat f.toNat) s.toNat) s.toNat a.toNat b.toNat face.toNat with
    | some tok => ((tok : Int), true)
    | none => (0, false)
  else (0, false)
def PlainBack (w : World) (r : Int × Bool) (e : Ending) (w' : World) : Prop := e = .returned (.tuple #[.int .i64 r.1, .bool r.2]) ∧ Below w.heap.size w w'

set_option maxRecDepth 100000 in
set_option maxHeartbeats 1000000 in
theorem implChoice_no (s f a b face : Int) (w : World) (hp : pairOk s f a b = false) :
    Calls Try.prog 15 #[.int .i64 s, .int .i64 f, .int .i64 a, .int .i64 b, .int .i64 face] w (PlainBack w (0, false)) := by
  have HC := Lib.hid (fun W => bestPlan_no s f a b W hp)
  clear hp
  go_enter Try.func15, Try.ntmps15
  go_wp2_with fail
  refine (HC.out _).mono ?_
  rintro e w2 ⟨rfl, hx⟩
  have kz : (w2.alloc (.cells Try.zeroCells65 65)).heap[w2.heap.size]? = some (.cells Try.zeroCells65 65 (0, 0)) := heap_alloc_at _ _ _ rfl
  go_wp2_with (refine wpList_store_row rfl 65 (.tmp 12) (.tmp 20) rfl w2.heap.size rfl 65 Try.zeroCells65 Try.zeroCells65 rfl kz ?_ ?_ planZero_one ?_; rfl; (rw [planZero_size]; exact sizePlan); intro w3 hC3 hg3 hs3)
  exact bodyPost_ret (v := .tuple #[.int .i64 0, .bool false]) (by simp [results, Try.results15]) rfl ⟨rfl, (hx.alloc hx.size _).grown hg3 (by have := hx.size; simp; omega) (fun i h => by cases h; exact hx.size)⟩
set_option maxRecDepth 100000 in
set_option maxHeartbeats 1000000 in
theorem implChoice_yes (s f a b : Nat) (face : Int) (T : Tab) (hT : T = bT true s f) (w : World) (hp : pairOk s f a b = true) (hs1 : 1 ≤ s) (hs : s ≤ 6) (hf1 : 1 ≤ f) (hf : f ≤ 4) (ha : a ≤ s) (hb : b ≤ s) (r : Int × Bool)
    (hr : r = if inB face 1 f = true then (match movP chShort (allT T s) s a b face.toNat with | some tok => ((tok : Int), true) | none => (0, false)) else (0, false)) :
    Calls Try.prog 15 #[.int .i64 s, .int .i64 f, .int .i64 a, .int .i64 b, .int .i64 face] w (PlainBack w r) := by
  have HC := Lib.hid (fun W => bestPlan_yes s f a b T hT W hp hs1 hs hf1 hf)
  have HSM := Lib.hid (allT_small (s := s) (bT_small (l := true) hs1 hs hf1 hf))
  rw [← hT] at HSM
  have HG := Lib.hid (fun face h1 h2 hx hy => bT_goodA (x := a) (y := b) (face := face) hs1 hs hf1 hf h1 h2 hx hy)
  rw [← hT] at HG
  have HR := Lib.hid hr
  clear hr hp hT
  go_enter Try.func15, Try.ntmps15
  go_wp2_with fail
  refine (HC.out _).mono ?_
  rintro e w2 ⟨rfl, hx⟩
  have kz : (w2.alloc (.cells Try.zeroCells65 65)).heap[w2.heap.size]? = some (.cells Try.zeroCells65 65 (0, 0)) := heap_alloc_at _ _ _ rfl
  cases hq : inB face 1 f
  · have hv : r = (0, false) := by rw [HR.out, hq]; rfl
    subst hv
    have HQ := Lib.hid hq; clear hq HR
    go_wp2_with (first | (refine wpList_store_row rfl 65 (.tmp 12) (.tmp 20) rfl w2.heap.size rfl 65 Try.zeroCells65 (planC s f shortV (allT T s)) rfl kz ?_ ?_ (planC_one _ _ _ _ rfl) ?_; (rw [planZero_size, planC_size]); (rw [planC_size]; exact sizePlan); intro w3 hC3 hg3 hs3; have hP3 : PA w3 w2.heap.size 65 s f shortV (allT T s) := hC3) | (go_at_call 44; refine (hasFace_any _ _ _ _ _ _ _ hP3.cv).mono ?_; rintro e w4 ⟨rfl, rfl⟩; rw [HQ.out]))
    exact bodyPost_ret (v := .tuple #[.int .i64 0, .bool false]) (by simp [results, Try.results15]) rfl ⟨rfl, (hx.alloc hx.size _).grown hg3 (by have := hx.size; simp; omega) (fun i h => by cases h; exact hx.size)⟩
  · have hfa := inB_iff.1 hq
    obtain ⟨k, rfl⟩ : ∃ k : Nat, face = k := ⟨face.toNat, by omega⟩
    obtain ⟨m, hm⟩ : ∃ m, m = movP chShort (allT T s) s a b k := ⟨_, rfl⟩
    have hv : r = (((m.getD 0 : Nat) : Int), m.isSome) := by rw [HR.out, if_pos hq, Int.toNat_natCast, ← hm]; cases m <;> rfl
    have hk1 : 1 ≤ k := by omega
    have hkf : k ≤ f := by omega
    have HMV := Lib.hid (fun W g h => mover_any g s f a b k _ chShort shG (allT T s) W h short_rule short_enters HSM.out hs ha hb hk1 (by omega) (HG.out k hk1 hkf))
    rw [← hm] at HMV
    have HQ := Lib.hid hq
    obtain ⟨u, hu⟩ : ∃ u : Nat, u = m.getD 0 := ⟨_, rfl⟩
    obtain ⟨o, ho⟩ : ∃ o : Bool, o = m.isSome := ⟨_, rfl⟩
    rw [← hu, ← ho] at HMV hv
    subst hv
    clear hq HR hm hfa hu ho HG HSM
    go_wp2_with (first | (refine wpList_store_row rfl 65 (.tmp 12) (.tmp 20) rfl w2.heap.size rfl 65 Try.zeroCells65 (planC s f shortV (allT T s)) rfl kz ?_ ?_ (planC_one _ _ _ _ rfl) ?_; (rw [planZero_size, planC_size]); (rw [planC_size]; exact sizePlan); intro w3 hC3 hg3 hs3; have hP3 : PA w3 w2.heap.size 65 s f shortV (allT T s) := hC3) | (go_at_call 44; refine (hasFace_any _ _ _ _ _ _ _ hP3.cv).mono ?_; rintro e w4 ⟨rfl, rfl⟩; rw [HQ.out]) | (go_at_call 45; refine (HMV.out _ _ hP3).mono ?_; rintro e w5 ⟨rfl, hx5⟩))
    have hB3 : Below w.heap.size w w3 := (hx.alloc hx.size _).grown hg3 (by have := hx.size; simp; omega) (fun i h => by cases h; exact hx.size)
    exact bodyPost_ret (v := .tuple #[.int .i64 u, .bool o]) (by simp [results, Try.results15]) rfl ⟨rfl, hB3.trans (hx5.mono hB3.size)⟩

theorem WhoS.at_ {w : World} {gw n f base : Nat} {D : Nat → Bool} {F : Nat → Nat → Int} (h : WhoS w gw n f base D F) {i k : Nat} (hi : i < n) (hd : D i = true) (hk : k < f) :
    ∃ b c, w.cell? ⟨gw, i, none⟩ = some (.slice (some ⟨b, 0, none⟩) f c) ∧ w.cell? ⟨b, k, none⟩ = some (.int .i64 (F i k)) := by
  obtain ⟨cs, V, h1, h2, h3, h4⟩ := h
  obtain ⟨b, c, e, hb', hr⟩ := h4 i hi hd
  exact ⟨b, c, by rw [← e]; exact (cell_of_row _ _ _ _ _ _ h1).trans (h3 i hi), hr.cell hk⟩
set_option maxRecDepth 100000 in
set_option maxHeartbeats 1000000 in
theorem specChoice_no (s f a b face : Int) (w : World) (hp : (pairOk s f a b && inB face 1 f) = false) :
    Calls Try.prog 14 #[.int .i64 s, .int .i64 f, .int .i64 a, .int .i64 b, .int .i64 face] w (PlainBack w (0, false)) := by
  cases h1 : pairOk s f a b
  · have HP := Lib.hid h1; clear h1 hp
    go_enter Try.func14, Try.ntmps14
    go_wp2_with (go_at_call 37; refine (oiGood_any _ _ _ _ _).mono ?_; rintro e w' ⟨rfl, rfl⟩; rw [HP.out])
    go_ret2
    exact ⟨rfl, Below.refl _ _⟩
  · have h2 : inB face 1 f = false := by rw [h1] at hp; simpa using hp
    have HP := Lib.hid h1; have HQ := Lib.hid h2; clear h1 h2 hp
    go_enter Try.func14, Try.ntmps14
    go_wp2_with (first | (go_at_call 37; refine (oiGood_any _ _ _ _ _).mono ?_; rintro e w' ⟨rfl, rfl⟩; rw [HP.out]) | (go_at_call 41; refine (l1In_p _ _ _ _).mono ?_; rintro e w' ⟨rfl, rfl⟩; rw [HQ.out]))
    go_ret2
    exact ⟨rfl, Below.refl _ _⟩
set_option maxRecDepth 100000 in
set_option maxHeartbeats 2000000 in
theorem specChoice_yes (s f x y k : Nat) (T : Tab) (hT : T = bT true s f) (w : World) (hp : pairOk s f x y = true) (hq : inB k 1 f = true) (hs1 : 1 ≤ s) (hs : s ≤ 6) (hf1 : 1 ≤ f) (hf : f ≤ 4) (hx : x ≤ s) (hy : y ≤ s) (hk1 : 1 ≤ k) (hk : k ≤ f) (r : Int × Bool) (hr : r = match movP chShort (allT T s) s x y k with | some tok => ((tok : Int), true) | none => (0, false)) :
    Calls Try.prog 14 #[.int .i64 s, .int .i64 f, .int .i64 x, .int .i64 y, .int .i64 k] w (PlainBack w r) := by
  have ws : IntKind.i64.wrap ((s : Int) + 1) = ((s + 1 : Nat) : Int) := by rw [IntWalk.i64_in _ (by omega)]; omega
  have hxS : x * (s + 1) ≤ 6 * 7 := Nat.mul_le_mul (by omega) (by omega)
  have wx : IntKind.i64.wrap ((x : Int) * ((s + 1 : Nat) : Int)) = ((x * (s + 1) : Nat) : Int) := by rw [← Int.natCast_mul]; exact IntWalk.i64_in _ (by omega)
  obtain ⟨I1, hI1⟩ : ∃ I1, I1 = x * (s + 1) := ⟨_, rfl⟩
  rw [← hI1] at wx hxS
  obtain ⟨I, hI⟩ : ∃ I, I = I1 + y := ⟨_, rfl⟩
  have wI : IntKind.i64.wrap ((I1 : Int) + (y : Int)) = (I : Int) := by rw [hI, IntWalk.i64_in _ (by omega)]; omega
  obtain ⟨K, hK⟩ : ∃ K : Nat, K = k - 1 := ⟨_, rfl⟩
  have wK : IntKind.i64.wrap ((k : Int) - 1) = (K : Int) := by rw [hK, IntWalk.i64_in _ (by omega)]; omega
  have hIx : I = x * (s + 1) + y := by rw [hI, hI1]
  have hlt : x * (s + 1) + y < (s + 1) * (s + 1) := by
    have : x * (s + 1) ≤ s * (s + 1) := Nat.mul_le_mul_right _ hx
    rw [Nat.add_mul]; omega
  have hd : (x * (s + 1) + y) / (s + 1) = x := by rw [Nat.mul_comm, Nat.mul_add_div (by omega), Nat.div_eq_of_lt (by omega)]; omega
  have hmo : (x * (s + 1) + y) % (s + 1) = y := by rw [Nat.mul_comm, Nat.mul_add_mod, Nat.mod_eq_of_lt (by omega)]
  have hV : whoF chShort T s I K = whoI (movP chShort (allT T s) s x y k) := by
    unfold whoF
    rw [hIx, hd, hmo, hK, show k - 1 + 1 = k by omega, movP_part hk1]
  obtain ⟨n, hn⟩ : ∃ n : Nat, n = (s + 1) * (s + 1) := ⟨_, rfl⟩
  have bI : (I : Int) < (n : Int) := by rw [hn, hIx]; exact Int.ofNat_lt.2 hlt
  have bI' : I < n := by omega
  have bK : (K : Int) < (f : Int) := by omega
  have bK' : K < f := by omega
  have hcall := fun W => oiTable_any 0 (chS true) gS s f (bT true s f) W (best_ruleS s hs) (bT_tabS hs1 hs hf1 hf) (bT_goodS hs1 hs hf1 hf) (bT_small hs1 hs hf1 hf) hs hf1 (by omega)
  rw [← hT] at hcall
  simp only [← hn, show chS true = chShort from rfl] at hcall
  have HC := Lib.hid hcall
  obtain ⟨m, hm⟩ : ∃ m, m = movP chShort (allT T s) s x y k := ⟨_, rfl⟩
  rw [← hm] at hV hr
  have HR := Lib.hid hr
  clear hr
  obtain ⟨S, hS⟩ : ∃ S : Nat, S = s + 1 := ⟨_, rfl⟩
  rw [← hS] at ws wx
  have HV := Lib.hid hV
  have HP := Lib.hid hp; have HQ := Lib.hid hq
  clear hcall hn hT hp hq hm hd hmo hlt hIx hI hI1 hK hS hV hk1 hk
  obtain ⟨V, hVV⟩ : ∃ V : Int, V = whoI m := ⟨_, rfl⟩
  rw [← hVV] at HV
  have HVV := Lib.hid hVV
  clear hVV
  cases m with
  | none =>
    have hv : V = -1 := HVV.out
    have hr : r = (0, false) := HR.out
    subst hv
    subst hr
    clear HVV HR
    go_enter Try.func14, Try.ntmps14
    go_wp2_with (first | (go_at_call 37; refine (oiGood_any _ _ _ _ _).mono ?_; rintro e w' ⟨rfl, rfl⟩; rw [HP.out]) | (go_at_call 41; refine (l1In_p _ _ _ _).mono ?_; rintro e w' ⟨rfl, rfl⟩; rw [HQ.out]) | (go_at_call 42; go_loud (refine (HC.out _).mono ?_; rintro e w1 ⟨gw, rfl, hx1, _, hW1⟩; obtain ⟨gb, cb, c1, c2⟩ := WhoS.at_ hW1 (i := I) (k := K) bI' rfl bK'; rw [HV.out] at c2)))
    go_ret2
    exact ⟨rfl, hx1⟩
  | some tok =>
    have hv : V = (tok : Int) := HVV.out
    have hr : r = ((tok : Int), true) := HR.out
    have h0 : ¬ (tok : Int) < 0 := by omega
    subst hv
    subst hr
    clear HVV HR
    go_enter Try.func14, Try.ntmps14
    go_wp2_with (first | (go_at_call 37; refine (oiGood_any _ _ _ _ _).mono ?_; rintro e w' ⟨rfl, rfl⟩; rw [HP.out]) | (go_at_call 41; refine (l1In_p _ _ _ _).mono ?_; rintro e w' ⟨rfl, rfl⟩; rw [HQ.out]) | (go_at_call 42; go_loud (refine (HC.out _).mono ?_; rintro e w1 ⟨gw, rfl, hx1, _, hW1⟩; obtain ⟨gb, cb, c1, c2⟩ := WhoS.at_ hW1 (i := I) (k := K) bI' rfl bK'; rw [HV.out] at c2)))
    go_ret2
    exact ⟨rfl, hx1⟩
theorem pairChoice_both (s f a b face : Int) : ∃ (x : Int) (ok : Bool),
    (∀ w, Calls Try.prog 14 #[.int .i64 s, .int .i64 f, .int .i64 a, .int .i64 b, .int .i64 face] w fun e w' => e = .returned (.tuple #[.int .i64 x, .bool ok]) ∧ Below w.heap.size w w') ∧
    (∀ w, Calls Try.prog 15 #[.int .i64 s, .int .i64 f, .int .i64 a, .int .i64 b, .int .i64 face] w fun e w' => e = .returned (.tuple #[.int .i64 x, .bool ok]) ∧ Below w.heap.size w w') := by
  cases hp : pairOk s f a b
  · exact ⟨0, false, fun w => specChoice_no s f a b face w (by rw [hp]; rfl), fun w => implChoice_no s f a b face w hp⟩
  · have h := pairOk_iff.1 hp
    obtain ⟨m, rfl⟩ : ∃ m : Nat, s = m := ⟨s.toNat, by omega⟩
    obtain ⟨n, rfl⟩ : ∃ n : Nat, f = n := ⟨f.toNat, by omega⟩
    obtain ⟨x, rfl⟩ : ∃ x : Nat, a = x := ⟨a.toNat, by omega⟩
    obtain ⟨y, rfl⟩ : ∃ y : Nat, b = y := ⟨b.toNat, by omega⟩
    cases hq : inB face 1 n
    · exact ⟨0, false, fun w => specChoice_no m n x y face w (by rw [hp, hq]; rfl), fun w => implChoice_yes m n x y face _ rfl w hp (by omega) (by omega) (by omega) (by omega) (by omega) (by omega) (0, false) (by rw [hq]; rfl)⟩
    · have hfa := inB_iff.1 hq
      obtain ⟨k, rfl⟩ : ∃ k : Nat, face = k := ⟨face.toNat, by omega⟩
      exact ⟨_, _, fun w => specChoice_yes m n x y k _ rfl w hp hq (by omega) (by omega) (by omega) (by omega) (by omega) (by omega) (by omega) (by omega) _ rfl, fun w => implChoice_yes m n x y k _ rfl w hp (by omega) (by omega) (by omega) (by omega) (by omega) (by omega) _ (by rw [if_pos hq]; rfl)⟩
end Go.Proofs.Ytblpfjjnlfjloaa

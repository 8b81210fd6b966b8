/- Several texts, one behind the other: C5w WMap C1b WBig. -/
import Derived.Maps.Own
import Derived.Maps.OwnOps
import Derived.Maps.OwnSet
import Derived.Deep.Draws
import Derived.Test.YtmiefdjbhcpnbaaChecked
import Derived.KernelRfl
import Derived.Laws.CopyRow
import Derived.Deep.WholeRow
import Derived.Test.YtmiefdjbhcpnbaaZPPae
import Derived.Test.YtmiefdjbhcpnbaaZPPaa
import Derived.Test.YtmiefdjbhcpnbaaZPPab
import Derived.Test.YtmiefdjbhcpnbaaZPPad

namespace Go.Proofs.Ytmiefdjbhcpnbaa
open Go.RowKit

set_option maxRecDepth 100000 in
set_option maxHeartbeats 2000000 in
theorem oiAdd_any (p q : Fr) (w : World) (h : okAddS p q = true) :
    Calls Try.prog 52 #[.agg #[.int .i64 (p.1 : Nat), .int .i64 (p.2 : Nat)], .agg #[.int .i64 (q.1 : Nat), .int .i64 (q.2 : Nat)]] w (FrBack w (addS p q)) := by
  obtain ⟨hb1, hd1, hb, hd, hl1, hl, hx, hy⟩ := okAddS_iff.1 h
  have hv : addS p q = redF (p.1 * (lcmS p.2 q.2 / p.2) + q.1 * (lcmS p.2 q.2 / q.2)) (lcmS p.2 q.2) := rfl
  rw [hv]
  obtain ⟨a, b⟩ := p
  obtain ⟨c, d⟩ := q
  simp only at hb1 hd1 hb hd hl1 hl hx hy ⊢
  have hg := Nat.gcd_pos_of_pos_right b (show 0 < d by omega)
  have hqle : b / Nat.gcd b d ≤ b := Nat.div_le_self _ _
  -- the numbers met
  obtain ⟨G, hG⟩ : ∃ G, G = Nat.gcd b d := ⟨_, rfl⟩
  obtain ⟨L, hL⟩ : ∃ L, L = lcmS b d := ⟨_, rfl⟩
  have hLe : L = b / G * d := by rw [hL, hG]; rfl
  obtain ⟨bg, hbg⟩ : ∃ bg, bg = b / G := ⟨_, rfl⟩
  obtain ⟨lb, hlb⟩ : ∃ lb, lb = L / b := ⟨_, rfl⟩
  obtain ⟨ld, hld⟩ : ∃ ld, ld = L / d := ⟨_, rfl⟩
  have hlbl : lb ≤ L := by rw [hlb]; exact Nat.div_le_self _ _
  have hldl : ld ≤ L := by rw [hld]; exact Nat.div_le_self _ _
  rw [← hG] at hg hqle
  rw [← hL] at hl1 hl hx hy ⊢
  rw [← hlb] at hx ⊢
  rw [← hld] at hy ⊢
  rw [← hbg] at hqle
  have t1 : ((b : Int).tdiv (G : Int)) = (bg : Int) := by rw [hbg, Int.ofNat_tdiv]
  have t2 : ((L : Int).tdiv (b : Int)) = (lb : Int) := by rw [hlb, Int.ofNat_tdiv]
  have t3 : ((L : Int).tdiv (d : Int)) = (ld : Int) := by rw [hld, Int.ofNat_tdiv]
  have w1 : IntKind.i64.wrap (bg : Int) = (bg : Int) := IntWalk.i64_in _ (by omega)
  have w2 : IntKind.i64.wrap ((bg : Int) * (d : Int)) = (L : Int) := by rw [← Int.natCast_mul, hbg, ← hLe]; exact IntWalk.i64_in _ (by omega)
  have w3 : IntKind.i64.wrap (lb : Int) = (lb : Int) := IntWalk.i64_in _ (by omega)
  have w4 : IntKind.i64.wrap (ld : Int) = (ld : Int) := IntWalk.i64_in _ (by omega)
  have w5 : IntKind.i64.wrap ((a : Int) * (lb : Int)) = ((a * lb : Nat) : Int) := by rw [← Int.natCast_mul]; exact IntWalk.i64_in _ (by omega)
  have w6 : IntKind.i64.wrap ((c : Int) * (ld : Int)) = ((c * ld : Nat) : Int) := by rw [← Int.natCast_mul]; exact IntWalk.i64_in _ (by omega)
  obtain ⟨x, hx'⟩ : ∃ x, x = a * lb := ⟨_, rfl⟩
  obtain ⟨y, hy'⟩ : ∃ y, y = c * ld := ⟨_, rfl⟩
  rw [← hx'] at w5 hx ⊢
  rw [← hy'] at w6 hy ⊢
  have w7 : IntKind.i64.wrap ((x : Int) + (y : Int)) = ((x + y : Nat) : Int) := by rw [IntWalk.i64_in _ (by omega)]; omega
  obtain ⟨s, hs⟩ : ∃ s, s = x + y := ⟨_, rfl⟩
  have hsl : s ≤ 2000000000000000 := by omega
  rw [← hs] at w7 ⊢
  have hcall := fun w => meLow_quiet s L w (by omega) (by omega) hl1
  rw [lowA_nat (by omega), lowB_nat (by omega)] at hcall
  obtain ⟨u, hu⟩ : ∃ u, u = (redF s L).1 := ⟨_, rfl⟩
  obtain ⟨v, hv2⟩ : ∃ v, v = (redF s L).2 := ⟨_, rfl⟩
  have hR : redF s L = (u, v) := by rw [hu, hv2]
  rw [hR]
  simp only [← hu, ← hv2] at hcall
  have HC := Lib.hid hcall
  have hG0 : (G : Int) ≠ 0 := by omega
  have hb0 : (b : Int) ≠ 0 := by omega
  have hd0 : (d : Int) ≠ 0 := by omega
  have HG := Lib.hid hG; have T1 := Lib.hid t1; have T2 := Lib.hid t2; have T3 := Lib.hid t3; have W1 := Lib.hid w1; have W2 := Lib.hid w2; have W3 := Lib.hid w3; have W4 := Lib.hid w4; have W5 := Lib.hid w5; have W6 := Lib.hid w6; have W7 := Lib.hid w7
  clear hG hL hLe hbg hlb hld hx' hy' hs hu hv2 hR hcall h hv hg hqle hlbl hldl t1 t2 t3 w1 w2 w3 w4 w5 w6 w7
  -- the three blocks
  obtain ⟨W0, hW0⟩ : ∃ W0, W0 = ((w.alloc (.cells #[.int .i64 (a : Int), .int .i64 (b : Int)] 96)).alloc (.cells #[.int .i64 (c : Int), .int .i64 (d : Int)] 96)).alloc (.cells #[.int .i64 0, .int .i64 0] 96) := ⟨_, rfl⟩
  have k0 : W0.heap[w.heap.size]? = some (.cells #[.int .i64 (a : Int), .int .i64 (b : Int)] 96 (0, 0)) := by rw [hW0]; exact (Below.heap_alloc _ _ _ (by simp; omega)).trans ((Below.heap_alloc _ _ _ (by simp)).trans (heap_alloc_at _ _ _ rfl))
  have k1 : W0.heap[w.heap.size + 1]? = some (.cells #[.int .i64 (c : Int), .int .i64 (d : Int)] 96 (0, 0)) := by rw [hW0]; exact (Below.heap_alloc _ _ _ (by simp)).trans (heap_alloc_at _ _ _ (by simp))
  have k2 : W0.heap[w.heap.size + 1 + 1]? = some (.cells #[.int .i64 0, .int .i64 0] 96 (0, 0)) := by rw [hW0]; exact heap_alloc_at _ _ _ (by simp)
  have hB : Below w.heap.size w W0 := by rw [hW0]; exact below3 _ _ _ _
  have HW0 := Lib.hid hW0
  clear hW0
  have q0 := fun i => cell_of_row W0 w.heap.size i _ _ _ k0
  have q1 := fun i => cell_of_row W0 (w.heap.size + 1) i _ _ _ k1
  go_enter Try.func52, Try.ntmps52
  go_wp2_with fail
  rw [← HW0.out]
  go_quiet (fail)
  go_wp2_with fail
  obtain ⟨W1', hW1⟩ : ∃ W1', W1' = W0.drewN nq := ⟨_, rfl⟩
  have hBa : Below w.heap.size w W1' := by rw [hW1]; exact drewB hB nq
  have ka0 : W1'.heap[w.heap.size]? = some (.cells #[.int .i64 (a : Int), .int .i64 (b : Int)] 96 (0, 0)) := by rw [hW1]; exact k0
  have ka1 : W1'.heap[w.heap.size + 1]? = some (.cells #[.int .i64 (c : Int), .int .i64 (d : Int)] 96 (0, 0)) := by rw [hW1]; exact k1
  have ka2 : W1'.heap[w.heap.size + 1 + 1]? = some (.cells #[.int .i64 0, .int .i64 0] 96 (0, 0)) := by rw [hW1]; exact k2
  rw [← hW1]
  clear hW1 hB k0 k1 k2 q0 q1 HW0
  go_loopw [5, 6] (fun X Y wr => ∃ m n : Nat, X = .int .i64 m ∧ Y = .int .i64 n ∧ Nat.gcd m n = G ∧ m ≤ 1000000000000000 ∧ n ≤ 1000000000000000 ∧ Below w.heap.size w wr ∧ wr.heap[w.heap.size]? = some (.cells #[.int .i64 (a : Int), .int .i64 (b : Int)] 96 (0, 0)) ∧ wr.heap[w.heap.size + 1]? = some (.cells #[.int .i64 (c : Int), .int .i64 (d : Int)] 96 (0, 0)) ∧ wr.heap[w.heap.size + 1 + 1]? = some (.cells #[.int .i64 0, .int .i64 0] 96 (0, 0))) (fun _ Y _ => (intOf Y).toNat)
  case atStart => exact ⟨b, d, rfl, rfl, HG.out.symm, hb, hd, hBa, ka0, ka1, ka2⟩
  case round =>
    clear hBa ka0 ka1 ka2
    obtain ⟨m, n, rfl, rfl, hgm, hm, hn, hB, k0, k1, k2⟩ := hrel
    have HGM := Lib.hid hgm; clear hgm
    by_cases h : 0 < n
    · have h1 : (0 : Int) < (n : Int) := by omega
      have h2 : (n : Int) ≠ 0 := by omega
      have hml := Nat.mod_lt m h
      have hmc : (m : Int) % (n : Int) = ((m % n : Nat) : Int) := rfl
      have HM := Lib.hid hmc; clear hmc
      go_wp2
      go_region
      all_goals
        go_wp2
        go_roundw
        case rel => exact ⟨n, m % n, rfl, by rw [HM.out], by rw [gcd_step]; exact HGM.out, hn, by omega, hB.drew, k0, k1, k2⟩
        case measure => rw [HM.out]; simp [intOf]; omega
    · obtain rfl : n = 0 := by omega
      have hmg : m = G := by rw [← HGM.out, Nat.gcd_zero_right]
      subst hmg
      have q0 := fun i => cell_of_row wr w.heap.size i _ _ _ k0
      have q1 := fun i => cell_of_row wr (w.heap.size + 1) i _ _ _ k1
      have t1 := T1.out; have w1 := W1.out; have w2 := W2.out
      go_wp2_with fail
      go_quiet (fail)
      go_wp2_with fail
      clear t1 w1 w2
      have t2 := T2.out; have t3 := T3.out; have w3 := W3.out; have w4 := W4.out; have w5 := W5.out; have w6 := W6.out; have w7 := W7.out
      obtain ⟨W2', hW2⟩ : ∃ W2', W2' = wr.drewN nq := ⟨_, rfl⟩
      have hB2 : Below w.heap.size w W2' := by rw [hW2]; exact drewB hB nq
      have kb0 : W2'.heap[w.heap.size]? = some (.cells #[.int .i64 (a : Int), .int .i64 (b : Int)] 96 (0, 0)) := by rw [hW2]; exact k0
      have kb1 : W2'.heap[w.heap.size + 1]? = some (.cells #[.int .i64 (c : Int), .int .i64 (d : Int)] 96 (0, 0)) := by rw [hW2]; exact k1
      have kb2 : W2'.heap[w.heap.size + 1 + 1]? = some (.cells #[.int .i64 0, .int .i64 0] 96 (0, 0)) := by rw [hW2]; exact k2
      rw [← hW2]
      clear hW2 hB k0 k1 k2 q0 q1
      have q0 := fun i => cell_of_row W2' w.heap.size i _ _ _ kb0
      have q1 := fun i => cell_of_row W2' (w.heap.size + 1) i _ _ _ kb1
      go_quiet (first | (go_at_call 61; with_reducible refine Calls.quiet_of (HC.out _)))
      clear t2 t3 w3 w4 w5 w6 w7
      obtain ⟨W3', hW3⟩ : ∃ W3', W3' = W2'.drewN nq := ⟨_, rfl⟩
      have hB3 : Below w.heap.size w W3' := by rw [hW3]; exact drewB hB2 nq
      have kc2 : W3'.heap[w.heap.size + 1 + 1]? = some (.cells #[.int .i64 0, .int .i64 0] 96 (0, 0)) := by rw [hW3]; exact kb2
      rw [← hW3]
      clear hW3 hB2 kb0 kb1 kb2 q0 q1
      have q2 := fun i => cell_of_row W3' (w.heap.size + 1 + 1) i _ _ _ kc2
      have f2 := fun i => frozen_row (i := i) kc2
      go_wp2
      exact bodyPost_ret (v := .agg #[.int .i64 (u : Nat), .int .i64 (v : Nat)]) (by simp [results, Try.results52, go_sem, q2]) rfl ⟨rfl, (hB3.setCell (by simp; omega) _).setCell (by simp; omega) _⟩
end Go.Proofs.Ytmiefdjbhcpnbaa

namespace Go.Proofs.Ytmiefdjbhcpnbaa
open Go.RowKit Go.Maps



/-- Block b is a map of at most n entries that reads as f. -/
def IM (P : Program) (K E : TypeId) (w : World) (b n : Nat) (f : Int → Option Int) : Prop :=
  ∃ D : DataW Unit, w.ownsMap P K (plainElem P E) b n D ∧ IsMap D ∧ ∀ x, wfi x = true → Maps.has D (.int .i64 x) = (f x).isSome ∧ ∀ y, f x = some y → D.atKey (.int .i64 x) (.lit (.int .i64 0)) = .lit (.int .i64 y)

section
variable {P : Program} {K E : TypeId} {w w' : World} {b n : Nat} {f : Int → Option Int}
theorem IM.made (P : Program) (K E : TypeId) (w : World) : IM P K E (w.alloc (.map #[] 0)) w.heap.size 0 (fun _ => none) :=
  ⟨.map [], World.ownsMap_made _ _ _ _, isMap_empty, fun x _ => ⟨rfl, fun y h => by cases h⟩⟩
theorem IM.lt (h : IM P K E w b n f) : b < w.heap.size := by obtain ⟨D, h, _⟩ := h; exact h.lt
theorem IM.kept {row : Option Nat} (h : IM P K E w b n f) (hg : w.grownBy w' row) (hne : some b ≠ row) : IM P K E w' b n f := by
  obtain ⟨D, h, r⟩ := h; exact ⟨D, h.kept hg hne, r⟩
theorem IM.alloc (h : IM P K E w b n f) (o : Obj) : IM P K E (w.alloc o) b n f := by
  obtain ⟨D, h, r⟩ := h; exact ⟨D, h.alloc o, r⟩
theorem IM.drew (h : IM P K E w b n f) : IM P K E w.drew b n f := h
theorem IM.drewN (h : IM P K E w b n f) (m : Nat) : IM P K E (w.drewN m) b n f := h
theorem IM.below {B : Nat} (h : IM P K E w b n f) (hb : Below B w w') (hB : b < B) : IM P K E w' b n f := by
  obtain ⟨D, ⟨es, clock, hh, r⟩, r'⟩ := h
  exact ⟨D, ⟨es, clock, (hb.block b hB).trans hh, r⟩, r'⟩
theorem IM.setCell (h : IM P K E w b n f) (p : Addr) (u : Value) (hp : b ≠ p.block) : IM P K E (w.setCell p u) b n f := by
  obtain ⟨D, ⟨es, clock, hh, r⟩, r'⟩ := h
  exact ⟨D, ⟨es, clock, (Below.heap_setCell w p u b hp).trans hh, r⟩, r'⟩

variable {ops : Array Oper} {rest : List Oper} {o : Oper} {a : Act} {Q : Exit → Act → World → Prop}
/-- v, ok := m[k] -/
theorem IM.look (hg : o.guard = none) (m x : Operand) (t : TypeId) (hop : o.op = Op.lookup t m x true)
    (ht : P.underlying t = some (.map K E)) (hK : P.underlying K = some (.int .i64)) (hE : P.underlying E = some (.int .i64)) (hz : (zeroValue E).run P w = .ok (.int .i64 0) w)
    (h : IM P K E w b n f) (v : Int) (hm : a.eval m = .map (some b)) (hx : a.eval x = .int .i64 v) (hv : wfi v = true)
    (hk : wpList P ops Q rest (a.put o.dst (.tuple #[.int .i64 ((f v).getD 0), .bool (f v).isSome])) w) : wpList P ops Q (o :: rest) a w := by
  obtain ⟨D, hown, hD, hf⟩ := h
  refine wpList_lookup_own_ok_int _ hg m x t hop K E .i64 (int_keyed hK) ht hE hz b n D hm hown _ _ hx (keyOf_int_mk hK hv) ?_
  intro c hat hwc
  obtain ⟨h1, h2⟩ := hf v hv
  rw [h1]
  have hc : c = (f v).getD 0 := by
    cases hfv : f v with
    | none =>
      rw [hfv] at h1
      rw [atKey_of_not_has h1] at hat
      injection hat with hat; injection hat with _ hat; exact hat.symm
    | some y =>
      rw [h2 y hfv] at hat
      injection hat with hat; injection hat with _ hat; exact hat.symm
  rw [hc]
  exact hk
/-- m[k] = v -/
theorem IM.store (hg : o.guard = none) (m x v : Operand) (t : TypeId) (hop : o.op = Op.mapUpdate t m x v)
    (ht : P.underlying t = some (.map K E)) (hK : P.underlying K = some (.int .i64)) (hE : P.underlying E = some (.int .i64))
    (h : IM P K E w b n f) (hn : n < maxLen) (kx vx : Int) (hm : a.eval m = .map (some b)) (hx : a.eval x = .int .i64 kx) (hv : a.eval v = .int .i64 vx) (hwk : wfi kx = true) (hwv : wfi vx = true)
    (hk : ∀ w', IM P K E w' b (n + 1) (updF f kx vx) → w.grownBy w' (some b) → wpList P ops Q rest (a.put o.dst undef) w') : wpList P ops Q (o :: rest) a w := by
  obtain ⟨D, hown, hD, hf⟩ := h
  refine wpList_mapUpdate_own _ hg m x v t hop K E (int_keyed hK) ht _ b n D hm hown hn _ _ _ hx hv (keyOf_int_mk hK hwk) _ [] (plainElem_int hE hwv) ?_
  intro w1 hown1 hgrow1
  refine hk w1 ⟨_, hown1, hD.put _ _, fun z hz => ?_⟩ hgrow1
  by_cases he : z = kx
  · subst he
    refine ⟨by rw [has_put_same hD (show WideAt.IsKeyLit (Lit.int .i64 z) from trivial)]; simp [updF], fun y hy => ?_⟩
    simp [updF] at hy
    subst hy
    exact atKey_put_same hD (show WideAt.IsKeyLit (Lit.int .i64 z) from trivial) _ _
  · have hne : Lit.int .i64 z ≠ .int .i64 kx := fun h => he (by injection h)
    rw [has_put_other hne]
    simp only [updF, he, if_false]
    refine ⟨(hf z hz).1, fun y hy => ?_⟩
    rw [atKey_put_other hne]
    exact (hf z hz).2 y hy
end
end Go.Proofs.Ytmiefdjbhcpnbaa

namespace Go.Proofs.Ytmiefdjbhcpnbaa
open Go.RowKit

theorem zeroInt (w : World) : (zeroValue 3).run Try.prog w = .ok (.int .i64 0) w := by kernel_rfl
theorem run_makeMapII (w : World) (n : Int) : (Instr.makeMap 93 (some (.int .i64 n))).run Try.prog w = .ok (.map (some w.heap.size)) (w.alloc (.map #[] 0)) := by kernel_rfl

set_option maxHeartbeats 400000 in
theorem jumpsByFrom_any (A : Option Addr) (c : Nat) (js : List (Int × Int)) (w : World) (hj : RJ w w.heap.size A js) :
    Calls Try.prog 50 #[.slice A js.length c] w fun e w' => e = .returned (.map (some w.heap.size)) ∧ IM Try.prog 3 3 w' w.heap.size js.length (jfrom js) ∧ Below w.heap.size w w' := by
  have hl := hj.1
  have hmm := run_makeMapII
  go_enter Try.func50, Try.ntmps50
  go_wp2
  go_loopw [11] (fun i wr => ∃ k : Nat, k ≤ js.length ∧ i = .int .i64 k ∧ Below w.heap.size w wr ∧ IM Try.prog 3 3 wr w.heap.size k (jfrom (js.take k))) (fun i _ => js.length - (intOf i).toNat)
  case atStart => exact ⟨0, Nat.zero_le _, rfl, (Below.refl _ _).alloc (Nat.le_refl _) _, IM.made _ _ _ _⟩
  case round =>
    obtain ⟨k, hk, rfl, hb, hm⟩ := hrel
    have hs := hb.size
    by_cases hlt : k < js.length
    · obtain ⟨b, off, rfl, hB, h1, h2⟩ := hj.at_ hb hlt
      have hwf := hj.2.1.at_ hlt
      go_wp2_with (at_mapUpdate; refine IM.store rfl _ _ _ 93 rfl Try.underlying93 Try.underlying3 Try.underlying3 (hm.alloc _) (by unfold maxLen; omega) _ _ rfl rfl rfl hwf.1 hwf.2 ?_; intro w1 hm1 hg1)
      go_roundw
      case rel => exact ⟨k + 1, by omega, by go_num, (hb.alloc (by omega) _).grown hg1 (by simp; omega) (fun j h => by cases h; omega), by rw [jfrom_snoc _ _ hlt]; exact hm1⟩
      case measure => simp [intOf]; omega
    · obtain rfl : k = js.length := by omega
      go_wp2
      go_ret
      exact ⟨rfl, by simpa using hm, hb⟩

set_option maxHeartbeats 400000 in
theorem implIsBoard_any (s f o : Int) (A : Option Addr) (c : Nat) (js : List (Int × Int)) (w : World) (hj : RJ w w.heap.size A js) :
    Calls Try.prog 49 #[.agg #[.int .i64 s, .int .i64 f, .int .i64 o, .slice A js.length c]] w fun e w' => e = .returned (.bool (good ⟨s, f, o, js⟩)) ∧ Below w.heap.size w w' := by
  have hl := hj.1
  have hw0 : Below w.heap.size w (w.alloc (.cells #[.int .i64 s, .int .i64 f, .int .i64 o, .slice A js.length c] 67)) := (Below.refl _ _).alloc (Nat.le_refl _) _
  go_enter Try.func49, Try.ntmps49
  go_wp2_with fail
  all_goals try (go_ret; exact ⟨ret_bool (good_bad (by omega)).symm, hw0⟩)
  have hz : sizes ⟨s, f, o, js⟩ = true := sizes_iff.2 (by omega)
  have HZ := Lib.hid hz; clear hz
  refine (jumpsByFrom_any _ _ _ _ ((hj.below hw0).more (by simp))).mono ?_
  rintro e w1 ⟨rfl, hm1, hb1⟩
  simp only [World.size_alloc] at hm1 hb1
  have c3 : w1.cell? ⟨w.heap.size, 3, none⟩ = some (.slice A js.length c) := boxcell hb1 3 _ rfl
  go_wp2_with fail
  go_loopw [4, 47] (fun p i wr => ∃ k : Nat, k ≤ js.length ∧ i = .int .i64 k ∧ p = .int .i64 (prevFrom js k) ∧ Below (w.heap.size + 1) (w.alloc (.cells #[.int .i64 s, .int .i64 f, .int .i64 o, .slice A js.length c] 67)) wr ∧ IM Try.prog 3 3 wr (w.heap.size + 1) js.length (jfrom js) ∧ implOk s (jfrom js) 0 js = implOk s (jfrom js) (prevFrom js k) (js.drop k)) (fun _ i _ => js.length - (intOf i).toNat)
  case atStart => exact ⟨0, Nat.zero_le _, rfl, rfl, hb1, hm1, rfl⟩
  case round =>
    clear hm1 c3
    obtain ⟨k, hk, rfl, rfl, hb, hm, hd⟩ := hrel
    have Hd := Lib.hid hd; clear hd
    have hb' := hw0.trans (hb.mono (by omega))
    have hs : w.heap.size < wr.heap.size := by have := hb.size; simp at this; omega
    have c0 : wr.cell? ⟨w.heap.size, 0, none⟩ = some (.int .i64 s) := boxcell hb 0 _ rfl
    by_cases hlt : k < js.length
    · obtain ⟨b, off, rfl, hB, h1, h2⟩ := hj.at_ hb' hlt
      have hwf := hj.2.1.at_ hlt
      have hBr : b < wr.heap.size := by omega
      go_wp2_with (at_lookup; refine IM.look rfl _ _ 93 rfl Try.underlying93 Try.underlying3 Try.underlying3 (zeroInt _) (hm.alloc _) _ rfl rfl hwf.2 ?_)
      all_goals first
        | (go_ret; exact ⟨ret_bool (by rw [← good_impl, HZ.out, Hd.out, implOk_bad hlt (by first | (right; assumption) | (left; omega))]; rfl), by first | exact hb'.alloc (by omega) _ | exact (hb'.alloc (by omega) _).drew⟩)
        | (go_roundw; (case rel => exact ⟨k + 1, by omega, by go_num, by rw [prevFrom_succ _ _ hlt], hb.alloc (by omega) _, hm.alloc _, by rw [Hd.out, implOk_drop _ _ _ _ _ hlt, prevFrom_succ _ _ hlt, show (jfrom js js[k].2).isSome = false by assumption, inB_iff.2 (by omega)]; simp; omega⟩); (case measure => simp [intOf]; omega))
    · go_wp2
      go_ret
      exact ⟨ret_bool (by rw [← good_impl, HZ.out, Hd.out, List.drop_eq_nil_of_le (by omega)]; rfl), hb'⟩
end Go.Proofs.Ytmiefdjbhcpnbaa

namespace Go.Proofs.Ytmiefdjbhcpnbaa
open Go.RowKit

theorem grownBy_setRow (w : World) (g : Nat) (cs : Array Value) : w.grownBy (w.setRow g cs) (some g) :=
  ⟨rfl, rfl, rfl, by simp, fun k _ hne => by
    have hk : ¬ k = g := fun e => hne (by rw [e])
    simp [World.setRow, Array.getElem?_modify, Ne.symm hk]⟩

section
variable {P : Program} {ops : Array Oper} {rest : List Oper} {o : Oper} {a : Act} {w : World} {Q : Exit → Act → World → Prop}
/-- A whole struct is stored into a block of its own. -/
theorem wpList_store_row (hgd : o.guard = none) (ty : TypeId) (x v : Operand) (ho : o.op = .store ty x v) (g : Nat) (hx : a.eval x = .pointer (some ⟨g, 0, none⟩)) (t : TypeId) (cur vs : Array Value)
    (hv : a.eval v = .agg vs) (hg : w.heap[g]? = some (.cells cur t (0, 0))) (hs : vs.size = cur.size) (hi : (P.info? ty).map (·.size) = some vs.size) (h1 : ∀ u ∈ vs.toList, u.oneCell' = true)
    (h : ∀ w', w'.heap[g]? = some (.cells vs t (0, 0)) → w.grownBy w' (some g) → w'.heap.size = w.heap.size → wpList P ops Q rest (a.put o.dst undef) w') : wpList P ops Q (o :: rest) a w := by
  refine wpList_plain hgd fun K hK => ?_
  have hst := run_storeCells_at (P := P) g 0 t vs.toList 0 cur w hg (by simp [hs]) h1
  have hst' : (storeCells ⟨g, 0, none⟩ vs.toList 0).run P w = .ok () (w.setRow g vs) := by
    rw [hst]
    congr 2
    apply Array.ext'
    simp [hs]
  cases hq : P.info? ty with
  | none => simp [hq] at hi
  | some i =>
    have hsz : i.size = vs.size := by simpa [hq] using hi
    unfold Oper.wp execOp
    simp only [ho, hx, hv, Instr.storeAt, Instr.sureAddr, storeVar, Value.cells, Sem.run_bind, Sem.run_pure, Result.andThen_ok]
    simp [sizeOf, typeInfo, hq, hsz, hst', Sem.run_bind, Result.andThen]
    exact hK _ _ (h _ (setRow_heap w g cur vs t (0, 0) hg) (grownBy_setRow w g vs) (by simp))
end

/-- Two results: a struct in a block of its own, and a slot. -/
theorem results_cell_slot {P : Program} {fn : Func} {p q : Tmp} {ty : TypeId} (h : fn.results = #[.cell p ty, .tmp q]) (tmps : Array Value) (w : World) (g : Nat) (t : TypeId) (cs : Array Value) (fr : Nat × Nat) (d : TypeDesc) (v : Value)
    (hp : tmps.getD p undef = .pointer (some ⟨g, 0, none⟩)) (hv : tmps.getD q undef = v) (hg : w.heap[g]? = some (.cells cs t fr))
    (hu : P.underlying ty = some d) (hd : (match d with | .struct _ | .array _ _ => true | _ => false) = true) (hi : (P.info? ty).map (·.size) = some cs.size) :
    (results fn tmps).run P w = .ok (.tuple #[.agg cs, v]) w := by
  have hp' : tmps[p]?.getD undef = .pointer (some ⟨g, 0, none⟩) := by simpa using hp
  have hv' : tmps[q]?.getD undef = v := by simpa using hv
  simp [results, h, hp', hv', asAddr, run_loadVar_row w g t ty cs fr d hg hu hd hi]

/-- The cells of a course: its squares, faces and Over, and where a token goes from each of 101 squares. -/
def crsCells (s f o : Int) (G : Nat → Int) : Array Value := ([Value.int .i64 s, .int .i64 f, .int .i64 o] ++ (List.range 101).map (fun i => Value.int .i64 (G i))).toArray
theorem crs_size (s f o : Int) (G : Nat → Int) : (crsCells s f o G).size = 104 := by simp [crsCells]
theorem crs_0 (s f o : Int) (G : Nat → Int) : (crsCells s f o G)[0]? = some (.int .i64 s) := rfl
theorem crs_1 (s f o : Int) (G : Nat → Int) : (crsCells s f o G)[1]? = some (.int .i64 f) := rfl
theorem crs_2 (s f o : Int) (G : Nat → Int) : (crsCells s f o G)[2]? = some (.int .i64 o) := rfl
theorem crs_at (s f o : Int) (G : Nat → Int) (i : Nat) (hi : i < 101) : (crsCells s f o G)[3 + i]? = some (.int .i64 (G i)) := by
  simp only [crsCells, List.getElem?_toArray]
  rw [List.getElem?_append_right (by simp)]
  simp [hi]
theorem crs_one (s f o : Int) (G : Nat → Int) : ∀ u ∈ (crsCells s f o G).toList, u.oneCell' = true := by
  intro u hu
  simp only [crsCells, List.mem_append, List.mem_map] at hu
  rcases hu with hu | ⟨i, _, rfl⟩
  · simp at hu
    rcases hu with rfl | rfl | rfl <;> rfl
  · rfl
theorem crs_set (s f o : Int) (G : Nat → Int) (i : Nat) (hi : i < 101) (v : Int) : (crsCells s f o G).setIfInBounds (3 + i) (.int .i64 v) = crsCells s f o (fun j => if j = i then v else G j) := by
  apply Array.ext_getElem?
  intro k
  rw [Array.getElem?_setIfInBounds, crs_size]
  by_cases hk : 3 + i = k
  · subst hk
    rw [if_pos rfl, if_pos (by omega), crs_at _ _ _ _ _ hi, if_pos rfl]
  · rw [if_neg hk]
    rcases Nat.lt_or_ge k 3 with h3 | h3
    · match k, h3 with
      | 0, _ => rfl
      | 1, _ => rfl
      | 2, _ => rfl
    · obtain ⟨j, rfl⟩ : ∃ j, k = 3 + j := ⟨k - 3, by omega⟩
      by_cases hj : j < 101
      · rw [crs_at _ _ _ _ _ hj, crs_at _ _ _ _ _ hj, if_neg (by omega)]
      · rw [Array.getElem?_eq_none (by rw [crs_size]; omega), Array.getElem?_eq_none (by rw [crs_size]; omega)]
theorem crs_congr (s f o : Int) {G G' : Nat → Int} (h : ∀ i < 101, G i = G' i) : crsCells s f o G = crsCells s f o G' := by
  unfold crsCells
  rw [List.map_congr_left (fun i hi => by rw [h i (by simpa using hi)])]
end Go.Proofs.Ytmiefdjbhcpnbaa

/- Several texts, one behind the other: WMap C1b. -/
import Derived.Maps.Own
import Derived.Maps.OwnOps
import Derived.Maps.OwnSet
import Derived.Deep.Draws
import Derived.Test.YtmiefdjbhcpnbaaChecked
import Derived.KernelRfl
import Derived.Test.YtmiefdjbhcpnbaaZPCaa
import Derived.Test.YtmiefdjbhcpnbaaZPCab

namespace Go.Proofs.Ytmiefdjbhcpnbaa
open Go.RowKit Go.Maps



/-- Block b is a map of at most n entries that reads as f. -/
def IM (P : Program) (K E : TypeId) (w : World) (b n : Nat) (f : Int → Option Int) : Prop :=
  ∃ D : DataW Unit, w.ownsMap P K (plainElem P E) b n D ∧ IsMap D ∧ ∀ x, wfi x = true → Maps.has D (.int .i64 x) = (f x).isSome ∧ ∀ y, f x = some y → D.atKey (.int .i64 x) (.lit (.int .i64 0)) = .lit (.int .i64 y)

section
variable {P : Program} {K E : TypeId} {w w' : World} {b n : Nat} {f : Int → Option Int}
theorem IM.made (P : Program) (K E : TypeId) (w : World) : IM P K E (w.alloc (.map #[] 0)) w.heap.size 0 (fun _ => none) :=
  ⟨.map [], World.ownsMap_made _ _ _ _, isMap_empty, fun x _ => ⟨rfl, fun y h => by cases h⟩⟩
theorem IM.lt (h : IM P K E w b n f) : b < w.heap.size := by obtain ⟨D, h, _⟩ := h; exact h.lt
theorem IM.kept {row : Option Nat} (h : IM P K E w b n f) (hg : w.grownBy w' row) (hne : some b ≠ row) : IM P K E w' b n f := by
  obtain ⟨D, h, r⟩ := h; exact ⟨D, h.kept hg hne, r⟩
theorem IM.alloc (h : IM P K E w b n f) (o : Obj) : IM P K E (w.alloc o) b n f := by
  obtain ⟨D, h, r⟩ := h; exact ⟨D, h.alloc o, r⟩
theorem IM.drew (h : IM P K E w b n f) : IM P K E w.drew b n f := h
theorem IM.drewN (h : IM P K E w b n f) (m : Nat) : IM P K E (w.drewN m) b n f := h
theorem IM.below {B : Nat} (h : IM P K E w b n f) (hb : Below B w w') (hB : b < B) : IM P K E w' b n f := by
  obtain ⟨D, ⟨es, clock, hh, r⟩, r'⟩ := h
  exact ⟨D, ⟨es, clock, (hb.block b hB).trans hh, r⟩, r'⟩
theorem IM.setCell (h : IM P K E w b n f) (p : Addr) (u : Value) (hp : b ≠ p.block) : IM P K E (w.setCell p u) b n f := by
  obtain ⟨D, ⟨es, clock, hh, r⟩, r'⟩ := h
  exact ⟨D, ⟨es, clock, (Below.heap_setCell w p u b hp).trans hh, r⟩, r'⟩

variable {ops : Array Oper} {rest : List Oper} {o : Oper} {a : Act} {Q : Exit → Act → World → Prop}
/-- v, ok := m[k] -/
theorem IM.look (hg : o.guard = none) (m x : Operand) (t : TypeId) (hop : o.op = Op.lookup t m x true)
    (ht : P.underlying t = some (.map K E)) (hK : P.underlying K = some (.int .i64)) (hE : P.underlying E = some (.int .i64)) (hz : (zeroValue E).run P w = .ok (.int .i64 0) w)
    (h : IM P K E w b n f) (v : Int) (hm : a.eval m = .map (some b)) (hx : a.eval x = .int .i64 v) (hv : wfi v = true)
    (hk : wpList P ops Q rest (a.put o.dst (.tuple #[.int .i64 ((f v).getD 0), .bool (f v).isSome])) w) : wpList P ops Q (o :: rest) a w := by
  obtain ⟨D, hown, hD, hf⟩ := h
  refine wpList_lookup_own_ok_int _ hg m x t hop K E .i64 (int_keyed hK) ht hE hz b n D hm hown _ _ hx (keyOf_int_mk hK hv) ?_
  intro c hat hwc
  obtain ⟨h1, h2⟩ := hf v hv
  rw [h1]
  have hc : c = (f v).getD 0 := by
    cases hfv : f v with
    | none =>
      rw [hfv] at h1
      rw [atKey_of_not_has h1] at hat
      injection hat with hat; injection hat with _ hat; exact hat.symm
    | some y =>
      rw [h2 y hfv] at hat
      injection hat with hat; injection hat with _ hat; exact hat.symm
  rw [hc]
  exact hk
/-- m[k] = v -/
theorem IM.store (hg : o.guard = none) (m x v : Operand) (t : TypeId) (hop : o.op = Op.mapUpdate t m x v)
    (ht : P.underlying t = some (.map K E)) (hK : P.underlying K = some (.int .i64)) (hE : P.underlying E = some (.int .i64))
    (h : IM P K E w b n f) (hn : n < maxLen) (kx vx : Int) (hm : a.eval m = .map (some b)) (hx : a.eval x = .int .i64 kx) (hv : a.eval v = .int .i64 vx) (hwk : wfi kx = true) (hwv : wfi vx = true)
    (hk : ∀ w', IM P K E w' b (n + 1) (updF f kx vx) → w.grownBy w' (some b) → wpList P ops Q rest (a.put o.dst undef) w') : wpList P ops Q (o :: rest) a w := by
  obtain ⟨D, hown, hD, hf⟩ := h
  refine wpList_mapUpdate_own _ hg m x v t hop K E (int_keyed hK) ht _ b n D hm hown hn _ _ _ hx hv (keyOf_int_mk hK hwk) _ [] (plainElem_int hE hwv) ?_
  intro w1 hown1 hgrow1
  refine hk w1 ⟨_, hown1, hD.put _ _, fun z hz => ?_⟩ hgrow1
  by_cases he : z = kx
  · subst he
    refine ⟨by rw [has_put_same hD (show WideAt.IsKeyLit (Lit.int .i64 z) from trivial)]; simp [updF], fun y hy => ?_⟩
    simp [updF] at hy
    subst hy
    exact atKey_put_same hD (show WideAt.IsKeyLit (Lit.int .i64 z) from trivial) _ _
  · have hne : Lit.int .i64 z ≠ .int .i64 kx := fun h => he (by injection h)
    rw [has_put_other hne]
    simp only [updF, he, if_false]
    refine ⟨(hf z hz).1, fun y hy => ?_⟩
    rw [atKey_put_other hne]
    exact (hf z hz).2 y hy
end
end Go.Proofs.Ytmiefdjbhcpnbaa

namespace Go.Proofs.Ytmiefdjbhcpnbaa
open Go.RowKit

theorem zeroInt (w : World) : (zeroValue 3).run Try.prog w = .ok (.int .i64 0) w := by kernel_rfl
theorem run_makeMapII (w : World) (n : Int) : (Instr.makeMap 93 (some (.int .i64 n))).run Try.prog w = .ok (.map (some w.heap.size)) (w.alloc (.map #[] 0)) := by kernel_rfl

set_option maxHeartbeats 400000 in
theorem jumpsByFrom_any (A : Option Addr) (c : Nat) (js : List (Int × Int)) (w : World) (hj : RJ w w.heap.size A js) :
    Calls Try.prog 50 #[.slice A js.length c] w fun e w' => e = .returned (.map (some w.heap.size)) ∧ IM Try.prog 3 3 w' w.heap.size js.length (jfrom js) ∧ Below w.heap.size w w' := by
  have hl := hj.1
  have hmm := run_makeMapII
  go_enter Try.func50, Try.ntmps50
  go_wp2
  go_loopw [11] (fun i wr => ∃ k : Nat, k ≤ js.length ∧ i = .int .i64 k ∧ Below w.heap.size w wr ∧ IM Try.prog 3 3 wr w.heap.size k (jfrom (js.take k))) (fun i _ => js.length - (intOf i).toNat)
  case atStart => exact ⟨0, Nat.zero_le _, rfl, (Below.refl _ _).alloc (Nat.le_refl _) _, IM.made _ _ _ _⟩
  case round =>
    obtain ⟨k, hk, rfl, hb, hm⟩ := hrel
    have hs := hb.size
    by_cases hlt : k < js.length
    · obtain ⟨b, off, rfl, hB, h1, h2⟩ := hj.at_ hb hlt
      have hwf := hj.2.1.at_ hlt
      go_wp2_with (at_mapUpdate; refine IM.store rfl _ _ _ 93 rfl Try.underlying93 Try.underlying3 Try.underlying3 (hm.alloc _) (by unfold maxLen; omega) _ _ rfl rfl rfl hwf.1 hwf.2 ?_; intro w1 hm1 hg1)
      go_roundw
      case rel => exact ⟨k + 1, by omega, by go_num, (hb.alloc (by omega) _).grown hg1 (by simp; omega) (fun j h => by cases h; omega), by rw [jfrom_snoc _ _ hlt]; exact hm1⟩
      case measure => simp [intOf]; omega
    · obtain rfl : k = js.length := by omega
      go_wp2
      go_ret
      exact ⟨rfl, by simpa using hm, hb⟩

set_option maxHeartbeats 400000 in
theorem implIsBoard_any (s f o : Int) (A : Option Addr) (c : Nat) (js : List (Int × Int)) (w : World) (hj : RJ w w.heap.size A js) :
    Calls Try.prog 49 #[.agg #[.int .i64 s, .int .i64 f, .int .i64 o, .slice A js.length c]] w fun e w' => e = .returned (.bool (good ⟨s, f, o, js⟩)) ∧ Below w.heap.size w w' := by
  have hl := hj.1
  have hw0 : Below w.heap.size w (w.alloc (.cells #[.int .i64 s, .int .i64 f, .int .i64 o, .slice A js.length c] 67)) := (Below.refl _ _).alloc (Nat.le_refl _) _
  go_enter Try.func49, Try.ntmps49
  go_wp2_with fail
  all_goals try (go_ret; exact ⟨ret_bool (good_bad (by omega)).symm, hw0⟩)
  have hz : sizes ⟨s, f, o, js⟩ = true := sizes_iff.2 (by omega)
  have HZ := Lib.hid hz; clear hz
  refine (jumpsByFrom_any _ _ _ _ ((hj.below hw0).more (by simp))).mono ?_
  rintro e w1 ⟨rfl, hm1, hb1⟩
  simp only [World.size_alloc] at hm1 hb1
  have c3 : w1.cell? ⟨w.heap.size, 3, none⟩ = some (.slice A js.length c) := boxcell hb1 3 _ rfl
  go_wp2_with fail
  go_loopw [4, 47] (fun p i wr => ∃ k : Nat, k ≤ js.length ∧ i = .int .i64 k ∧ p = .int .i64 (prevFrom js k) ∧ Below (w.heap.size + 1) (w.alloc (.cells #[.int .i64 s, .int .i64 f, .int .i64 o, .slice A js.length c] 67)) wr ∧ IM Try.prog 3 3 wr (w.heap.size + 1) js.length (jfrom js) ∧ implOk s (jfrom js) 0 js = implOk s (jfrom js) (prevFrom js k) (js.drop k)) (fun _ i _ => js.length - (intOf i).toNat)
  case atStart => exact ⟨0, Nat.zero_le _, rfl, rfl, hb1, hm1, rfl⟩
  case round =>
    clear hm1 c3
    obtain ⟨k, hk, rfl, rfl, hb, hm, hd⟩ := hrel
    have Hd := Lib.hid hd; clear hd
    have hb' := hw0.trans (hb.mono (by omega))
    have hs : w.heap.size < wr.heap.size := by have := hb.size; simp at this; omega
    have c0 : wr.cell? ⟨w.heap.size, 0, none⟩ = some (.int .i64 s) := boxcell hb 0 _ rfl
    by_cases hlt : k < js.length
    · obtain ⟨b, off, rfl, hB, h1, h2⟩ := hj.at_ hb' hlt
      have hwf := hj.2.1.at_ hlt
      have hBr : b < wr.heap.size := by omega
      go_wp2_with (at_lookup; refine IM.look rfl _ _ 93 rfl Try.underlying93 Try.underlying3 Try.underlying3 (zeroInt _) (hm.alloc _) _ rfl rfl hwf.2 ?_)
      all_goals first
        | (go_ret; exact ⟨ret_bool (by rw [← good_impl, HZ.out, Hd.out, implOk_bad hlt (by first | (right; assumption) | (left; omega))]; rfl), by first | exact hb'.alloc (by omega) _ | exact (hb'.alloc (by omega) _).drew⟩)
        | (go_roundw; (case rel => exact ⟨k + 1, by omega, by go_num, by rw [prevFrom_succ _ _ hlt], hb.alloc (by omega) _, hm.alloc _, by rw [Hd.out, implOk_drop _ _ _ _ _ hlt, prevFrom_succ _ _ hlt, show (jfrom js js[k].2).isSome = false by assumption, inB_iff.2 (by omega)]; simp; omega⟩); (case measure => simp [intOf]; omega))
    · go_wp2
      go_ret
      exact ⟨ret_bool (by rw [← good_impl, HZ.out, Hd.out, List.drop_eq_nil_of_le (by omega)]; rfl), hb'⟩
end Go.Proofs.Ytmiefdjbhcpnbaa

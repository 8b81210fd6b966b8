/- Several texts, one behind the other: C5za C5zb C5r C5u C5s WBuild. -/
import Derived.Test.YtmiefdjbhcpnbaaChecked
import Derived.ChangeKeysEq
import Derived.WalkKit
import Derived.Test.YtmiefdjbhcpnbaaZPPal
import Derived.Test.YtmiefdjbhcpnbaaZPPah
import Derived.Test.YtmiefdjbhcpnbaaZPPaj
import Derived.Test.YtmiefdjbhcpnbaaZPPaf

namespace Go.Proofs.Ytmiefdjbhcpnbaa
open Go.RowKit

end Go.Proofs.Ytmiefdjbhcpnbaa

namespace Go.Proofs.Ytmiefdjbhcpnbaa
open Go.RowKit

/-- The rule that a bool names. -/
def chBool (l : Bool) : Tab → Nat → Nat → Nat → Nat := if l then chLead else chFoll
end Go.Proofs.Ytmiefdjbhcpnbaa

namespace Go.Proofs.Ytmiefdjbhcpnbaa
open Go.RowKit

theorem movK_nat (s x y face : Nat) : movK (s : Int) (x : Int) (y : Int) (face : Int) 2 = (if x + face ≤ s then [0] else []) ++ (if y + face ≤ s then [1] else []) := by
  have e1 : ((x : Int) + (face : Int) ≤ (s : Int)) ↔ x + face ≤ s := by omega
  have e2 : ((y : Int) + (face : Int) ≤ (s : Int)) ↔ y + face ≤ s := by omega
  simp [movK, e1, e2]
theorem PA.cv {w : World} {g : Nat} {t : TypeId} {s f : Nat} {R : Value} {T : Tab} (h : PA w g t s f R T) : CV w g s f 0 (fun i => jumpOf [] i) :=
  ⟨(cell_of_row _ _ _ _ _ _ h).trans ((planC_lt _ _ _ _ (by omega)).trans (crs_0 _ _ _ _)), (cell_of_row _ _ _ _ _ _ h).trans ((planC_lt _ _ _ _ (by omega)).trans (crs_1 _ _ _ _)), (cell_of_row _ _ _ _ _ _ h).trans ((planC_lt _ _ _ _ (by omega)).trans (crs_2 _ _ _ _)), fun hi => (cell_of_row _ _ _ _ _ _ h).trans ((planC_lt _ _ _ _ (by omega)).trans (crs_at _ _ _ _ _ hi))⟩
/-- A rule's function is entered by its value. -/
def EntersF (F : FuncId) : Prop := ∀ args w, (callFunc F args).run Try.prog w = .ok (.enter F args) w

set_option maxRecDepth 100000 in
set_option maxHeartbeats 2000000 in
theorem mover_any (g s f x y face : Nat) (F : FuncId) (ch : Tab → Nat → Nat → Nat → Nat) (G : Tab → Nat → Nat → Nat → Prop) (T : Tab) (w : World) (hP : PA w g 82 s f (.func (.func F) #[] #[]) T) (hR : RuleIs F ch G) (hE : EntersF F) (hT : ∀ u v, (T u v).1 ≤ 10000000 ∧ (T u v).2 ≤ 10000000) (hs : s ≤ 6) (hx : x ≤ s) (hy : y ≤ s) (hf1 : 1 ≤ face) (hf : face ≤ 8) (hG : x + face ≤ s → y + face ≤ s → G T x y face) :
    Calls Try.prog 57 #[.pointer (some ⟨g, 0, none⟩), .agg #[.int .i64 x, .int .i64 y], .int .i64 face] w fun e w' => e = .returned (.tuple #[.int .i64 ((movP ch T s x y face).getD 0 : Nat), .bool (movP ch T s x y face).isSome]) ∧ Below w.heap.size w w' := by
  have hgl := hP.lt
  have hB1 := below1 w (.cells #[.int .i64 (x : Int), .int .i64 (y : Int)] 56)
  have kb1 : (w.alloc (.cells #[.int .i64 (x : Int), .int .i64 (y : Int)] 56)).heap[w.heap.size]? = some (.cells #[.int .i64 (x : Int), .int .i64 (y : Int)] 56 (0, 0)) := heap_alloc_at _ _ _ rfl
  have P1 := hP.alloc (.cells #[.int .i64 (x : Int), .int .i64 (y : Int)] 56)
  have HE := hE
  unfold EntersF at HE
  have HR := Lib.hid hR
  obtain ⟨L, hL⟩ : ∃ L, L = movK (s : Int) (x : Int) (y : Int) (face : Int) 2 := ⟨_, rfl⟩
  have hLn := movK_nat s x y face
  rw [← hL] at hLn
  have HLN := Lib.hid hLn
  have HL := Lib.hid hL
  have hlen2 : L.length ≤ 2 := by rw [hL]; exact movK_len _ _ _ _ _
  obtain ⟨m, hm0⟩ : ∃ m, m = movP ch T s x y face := ⟨_, rfl⟩
  rw [← hm0]
  have HM0 := Lib.hid hm0
  have HG := Lib.hid hG
  clear hE hR hL hLn hm0 hG
  go_enter Try.func57, Try.ntmps57
  go_wp2_with fail
  obtain ⟨W1, hW1⟩ : ∃ W1, W1 = w.alloc (.cells #[.int .i64 (x : Int), .int .i64 (y : Int)] 56) := ⟨_, rfl⟩
  rw [← hW1] at hB1 kb1 P1 ⊢
  have q1 := fun i => cell_of_row W1 w.heap.size i _ _ _ kb1
  clear hW1
  go_still_tail 5, (by kernel_rfl)
  change wpList _ _ _ _ _ W1.drew
  obtain ⟨W2, hW2⟩ : ∃ W2, W2 = W1.drew := ⟨_, rfl⟩
  have hB2 : Below w.heap.size w W2 := by rw [hW2]; exact hB1.drew
  have kb2 : W2.heap[w.heap.size]? = some (.cells #[.int .i64 (x : Int), .int .i64 (y : Int)] 56 (0, 0)) := by rw [hW2]; exact kb1
  have P2 : PA W2 g 82 s f (.func (.func F) #[] #[]) T := by rw [hW2]; exact P1
  rw [← hW2]
  clear hW2 q1 kb1 P1 hB1
  go_wp2_with fail
  refine (movers_any g s f 0 _ x y face _ P2.cv (by omega) (by omega) (by omega) (by omega) (by omega) (by omega)).mono ?_
  rintro e w3 ⟨A, c, rfl, ho, hx3⟩
  rw [← HL.out] at ho ⊢
  have hB3 := hB2.trans (hx3.mono hB2.size)
  have kb3 := (hx3.block _ (heap_lt kb2)).trans kb2
  have P3 := P2.below hx3 P2.lt
  have q3 := fun i => cell_of_row w3 w.heap.size i _ _ _ kb3
  clear hx3 kb2 P2 hB2
  by_cases h1 : x + face ≤ s
  · by_cases h2 : y + face ≤ s
    · have hm : movP ch T s x y face = some (ch T x y face) := by unfold movP; rw [if_pos h1, if_pos h2]
      have HM := Lib.hid hm
      have hLe : L = [0, 1] := by rw [HLN.out, if_pos h1, if_pos h2]; rfl
      clear hm
      subst hLe
      have cr := P3.rule
      have hrun := fun W hW => HR.out g s f x y face T W hW hs h1 h2 hf1 hT (HG.out h1 h2)
      have HRUN := Lib.hid hrun
      clear hrun h1 h2
      go_wp2_with fail
      go_still_tail 7, (by kernel_rfl)
      change wpList _ _ _ _ _ w3.drew
      obtain ⟨W4, hW4⟩ : ∃ W4, W4 = w3.drew := ⟨_, rfl⟩
      have hB4 : Below w.heap.size w W4 := by rw [hW4]; exact hB3.drew
      have P4 : PA W4 g 82 s f (.func (.func F) #[] #[]) T := by rw [hW4]; exact P3
      rw [← hW4]
      clear hW4 q3 kb3 P3 hB3 cr
      go_wp2_with fail
      refine (HRUN.out _ P4).mono ?_
      rintro e w5 ⟨rfl, hx5⟩
      go_wp2
      go_ret2
      exact ⟨by rw [HM0.out, HM.out]; rfl, hB4.trans (hx5.mono hB4.size)⟩
    · have hm : movP ch T s x y face = some 0 := by unfold movP; rw [if_pos h1, if_neg h2]
      have HM := Lib.hid hm
      have hLe : L = [0] := by rw [HLN.out, if_pos h1, if_neg h2]; rfl
      clear hm
      subst hLe
      obtain ⟨gt, rfl, hlo, hr⟩ := ho.get (show 0 < ([0] : List Int).length by simp)
      have ct : w3.cell? ⟨gt, 0, none⟩ = some (.int .i64 0) := hr.cell (by simp)
      clear h1 h2
      go_wp2
      go_ret2
      exact ⟨by rw [HM0.out, HM.out]; rfl, hB3⟩
  · by_cases h2 : y + face ≤ s
    · have hm : movP ch T s x y face = some 1 := by unfold movP; rw [if_neg h1, if_pos h2]
      have HM := Lib.hid hm
      have hLe : L = [1] := by rw [HLN.out, if_neg h1, if_pos h2]; rfl
      clear hm
      subst hLe
      obtain ⟨gt, rfl, hlo, hr⟩ := ho.get (show 0 < ([1] : List Int).length by simp)
      have ct : w3.cell? ⟨gt, 0, none⟩ = some (.int .i64 1) := hr.cell (by simp)
      clear h1 h2
      go_wp2
      go_ret2
      exact ⟨by rw [HM0.out, HM.out]; rfl, hB3⟩
    · have hm : movP ch T s x y face = none := by unfold movP; rw [if_neg h1, if_neg h2]
      have HM := Lib.hid hm
      have hLe : L = [] := by rw [HLN.out, if_neg h1, if_neg h2]; rfl
      clear hm
      subst hLe
      clear h1 h2
      go_wp2
      go_ret2
      exact ⟨by rw [HM0.out, HM.out]; rfl, hB3⟩
end Go.Proofs.Ytmiefdjbhcpnbaa

namespace Go.Proofs.Ytmiefdjbhcpnbaa
open Go.RowKit

theorem cells_int : Try.prog.cellsOf 3 = 1 := by kernel_rfl
theorem eq_both (x y a b : Int) (w : World) : (Op.equalIn 10000 56 (.agg #[.int .i64 x, .int .i64 y]) (.agg #[.int .i64 a, .int .i64 b])).run Try.prog w = .ok (x == a && y == b) w := by
  obtain ⟨i0, hi, _, _, _⟩ := info_parts infoInt1
  have e : (Op.equalIn 10000 56 (.agg #[.int .i64 x, .int .i64 y]) (.agg #[.int .i64 a, .int .i64 b])).run Try.prog w = (Op.eqItems 9999 3 1 #[.int .i64 x, .int .i64 y] #[.int .i64 a, .int .i64 b] (List.range 2)).run Try.prog w := by
    rw [← cells_int]
    exact run_equalIn_array w 9999 _ _ Try.underlying56 hi
  rw [e, show List.range 2 = [0, 1] from rfl]
  cases h1 : (x == a) <;> cases h2 : (y == b)
  all_goals simp [go_sem, h1, h2, part, Op.eqItems]
end Go.Proofs.Ytmiefdjbhcpnbaa

namespace Go.Proofs.Ytmiefdjbhcpnbaa
open Go.RowKit

theorem movP_cases {ch : Tab → Nat → Nat → Nat → Nat} {T : Tab} {s x y face tok : Nat} (hch : ∀ x y face, ch T x y face ≤ 1) (h : movP ch T s x y face = some tok) : (tok = 0 ∧ x + face ≤ s) ∨ (tok = 1 ∧ y + face ≤ s) := by
  unfold movP at h
  split at h
  · split at h
    · have := hch x y face
      injection h with h
      rcases (show tok = 0 ∨ tok = 1 by omega) with e | e
      · exact .inl ⟨e, by assumption⟩
      · exact .inr ⟨e, by assumption⟩
    · injection h with h; exact .inl ⟨h.symm, by assumption⟩
  · split at h
    · injection h with h; exact .inr ⟨h.symm, by assumption⟩
    · cases h
theorem behL_small {ch : Tab → Nat → Nat → Nat → Nat} {T : Tab} {s x y : Nat} (hT : ∀ u v, (T u v).1 ≤ 10000000 ∧ (T u v).2 ≤ 10000000) : ∀ k, ∀ p ∈ behL ch T s x y k, p.1 ≤ 10000000 ∧ p.2 ≤ 10000000
  | 0 => by simp [behL]
  | k + 1 => by
    intro p hp
    unfold behL at hp
    cases hm : movP ch T s x y (k + 1) with
    | none => rw [hm] at hp; exact behL_small hT k p hp
    | some tok =>
      rw [hm] at hp
      rcases List.mem_append.1 hp with hp | hp
      · exact behL_small hT k p hp
      · rw [List.mem_singleton] at hp
        subst hp
        unfold behP
        split <;> exact hT _ _
theorem frJ_wf {l : List Fr} (h : ∀ p ∈ l, p.1 ≤ 10000000 ∧ p.2 ≤ 10000000) : wfJ (frJ l) := by
  intro j hj
  simp only [frJ, List.mem_map] at hj
  obtain ⟨p, hp, rfl⟩ := hj
  have := h p hp
  exact ⟨wfi_of (by omega) (by simp only; omega), wfi_of (by omega) (by simp only; omega)⟩
theorem frJ_snoc (l : List Fr) (p : Fr) : flatJ (frJ (l ++ [p])) = flatJ (frJ l) ++ [.int .i64 (p.1 : Nat), .int .i64 (p.2 : Nat)] := by
  simp [frJ, flatJ]
theorem cell_newF (w : World) (u v : Value) (t : TypeId) : ∀ (j : Nat) x, [u, v][j]? = some x → (w.alloc (.cells #[u, v] t)).cell? ((⟨w.heap.size, 0, none⟩ : Addr).add j) = some x := by
  intro j x h
  match j, h with
  | 0, h => simp at h; subst h; simp [Addr.add, World.cell?_alloc_at _ _ _ _ rfl]
  | 1, h => simp at h; subst h; simp [Addr.add, World.cell?_alloc_at _ _ _ _ rfl]
theorem two_intF (x y : Int) : ∀ u ∈ [Value.int .i64 x, .int .i64 y], u.oneCell' = true := by intro u hu; simp at hu; rcases hu with rfl | rfl <;> rfl
theorem infoFr1 : (Try.prog.info? 78).map (fun i => (i.zero, i.size, i.bytes)) = some (some (.agg #[.int .i64 0, .int .i64 0]), 2, 16) := by kernel_rfl

set_option maxRecDepth 100000 in
set_option maxHeartbeats 4000000 in
theorem meanFrom_any (g s f x y : Nat) (F : FuncId) (ch : Tab → Nat → Nat → Nat → Nat) (G : Tab → Nat → Nat → Nat → Prop) (T : Tab) (w : World) (hP : PA w g 82 s f (.func (.func F) #[] #[]) T) (hR : RuleIs F ch G) (hE : EntersF F) (hT : ∀ u v, (T u v).1 ≤ 10000000 ∧ (T u v).2 ≤ 10000000) (hch : ∀ x y face, ch T x y face ≤ 1)
    (hs : s ≤ 6) (hf1 : 1 ≤ f) (hf : f ≤ 4) (hx : x ≤ s) (hy : y ≤ s) (hok : okMean ch T s f x y = true) (hG : ∀ face, 1 ≤ face → face ≤ f → x + face ≤ s → y + face ≤ s → G T x y face) :
    Calls Try.prog 62 #[.pointer (some ⟨g, 0, none⟩), .agg #[.int .i64 x, .int .i64 y]] w (FrBack w (meanP ch T s f x y)) := by
  have hgl := hP.lt
  have HGG := Lib.hid hG
  clear hG
  obtain ⟨i0, hi, hz0, hz1, hz2⟩ := info_parts infoFr1
  have hB1 := below2 w (.cells #[.int .i64 (x : Int), .int .i64 (y : Int)] 56) (.cells #[.int .i64 0, .int .i64 0] 78)
  have kb1 : ((w.alloc (.cells #[.int .i64 (x : Int), .int .i64 (y : Int)] 56)).alloc (.cells #[.int .i64 0, .int .i64 0] 78)).heap[w.heap.size]? = some (.cells #[.int .i64 (x : Int), .int .i64 (y : Int)] 56 (0, 0)) := (Below.heap_alloc _ _ _ (by simp)).trans (heap_alloc_at _ _ _ rfl)
  have kr1 : ((w.alloc (.cells #[.int .i64 (x : Int), .int .i64 (y : Int)] 56)).alloc (.cells #[.int .i64 0, .int .i64 0] 78)).heap[w.heap.size + 1]? = some (.cells #[.int .i64 0, .int .i64 0] 78 (0, 0)) := heap_alloc_at _ _ _ (by simp)
  have P1 := (hP.alloc (.cells #[.int .i64 (x : Int), .int .i64 (y : Int)] 56)).alloc (.cells #[.int .i64 0, .int .i64 0] 78)
  obtain ⟨W1, hW1⟩ : ∃ W1, W1 = (w.alloc (.cells #[.int .i64 (x : Int), .int .i64 (y : Int)] 56)).alloc (.cells #[.int .i64 0, .int .i64 0] 78) := ⟨_, rfl⟩
  rw [← hW1] at hB1 kb1 kr1 P1
  have HW1 := Lib.hid hW1
  obtain ⟨M, hM⟩ : ∃ M, M = meanP ch T s f x y := ⟨_, rfl⟩
  rw [← hM]
  have HM := Lib.hid hM; have HOK := Lib.hid hok
  clear hM hok hW1
  have q1 := fun i => cell_of_row W1 w.heap.size i _ _ _ kb1
  have c1 := P1.sq
  by_cases he : x = s ∧ y = s
  · obtain ⟨rfl, rfl⟩ := he
    have hM' : M = redF 0 1 := by rw [HM.out]; unfold meanP; rw [if_pos ⟨rfl, rfl⟩]
    subst hM'
    have heq := eq_both (y : Int) (y : Int) (y : Int) (y : Int)
    rw [show (((y : Int) == (y : Int)) && ((y : Int) == (y : Int))) = true by simp] at heq
    clear HM HOK
    go_enter Try.func62, Try.ntmps62
    go_wp2_with fail
    rw [← HW1.out]
    go_quiet (fail)
    go_wp2_with fail
    refine (ratioOf_any 0 1 _ (by omega) (by omega) (by omega)).mono ?_
    rintro e w3 ⟨rfl, hx3⟩
    have hB2 := drewB hB1 nq
    have kr3 := (hx3.block (w.heap.size + 1) (heap_lt kr1)).trans kr1
    have hB3 := hB2.trans (hx3.mono hB2.size)
    have q3 := fun i => cell_of_row w3 (w.heap.size + 1) i _ _ _ kr3
    have f3 := fun i => frozen_row (i := i) kr3
    clear hx3 kr3
    go_wp2
    exact bodyPost_ret (v := .agg #[.int .i64 ((redF 0 1).1 : Nat), .int .i64 ((redF 0 1).2 : Nat)]) (by simp [results, Try.results62, go_sem, q3]) rfl ⟨rfl, (hB3.setCell (by simp) _).setCell (by simp) _⟩
  · have hM' : M = redF (totP ch T s f x y).1 ((totP ch T s f x y).2 * (behL ch T s x y f).length) := by rw [HM.out]; unfold meanP; rw [if_neg he]
    have hok' := HOK.out
    unfold okMean at hok'
    rw [if_neg he] at hok'
    simp only [Bool.and_eq_true, decide_eq_true_eq] at hok'
    obtain ⟨⟨⟨ok1, ok2⟩, ok3⟩, ok4⟩ := hok'
    have heq := eq_both (x : Int) (y : Int) (s : Int) (s : Int)
    rw [show (((x : Int) == (s : Int)) && ((y : Int) == (s : Int))) = false by
      rw [Bool.and_eq_false_iff]
      by_cases h : x = s
      · exact .inr (beq_eq_false_iff_ne.2 (by omega))
      · exact .inl (beq_eq_false_iff_ne.2 (by omega))] at heq
    have HM2 := Lib.hid hM'; have OK1 := Lib.hid ok1; have OK2 := Lib.hid ok2; have OK3 := Lib.hid ok3; have OK4 := Lib.hid ok4
    clear HM HOK hM' he ok1 ok2 ok3 ok4
    go_enter Try.func62, Try.ntmps62
    go_wp2_with fail
    rw [← HW1.out]
    go_quiet (fail)
    go_wp2_with fail
    obtain ⟨W2, hW2⟩ : ∃ W2, W2 = W1.drewN nq := ⟨_, rfl⟩
    have hB2 : Below w.heap.size w W2 := by rw [hW2]; exact drewB hB1 nq
    have kb2 : W2.heap[w.heap.size]? = some (.cells #[.int .i64 (x : Int), .int .i64 (y : Int)] 56 (0, 0)) := by rw [hW2]; exact kb1
    have kr2 : W2.heap[w.heap.size + 1]? = some (.cells #[.int .i64 0, .int .i64 0] 78 (0, 0)) := by rw [hW2]; exact kr1
    have P2 : PA W2 g 82 s f (.func (.func F) #[] #[]) T := by rw [hW2]; exact P1
    rw [← hW2]
    clear hW2 hB1 kb1 kr1 P1 HW1 q1 c1 heq
    go_loopw [5, 6, 7, 8] (fun v fc _ _ wr => ∃ k : Nat, k ≤ f ∧ fc = .int .i64 ((k : Int) + 1) ∧ Below w.heap.size w wr ∧ wr.heap[w.heap.size]? = some (.cells #[.int .i64 (x : Int), .int .i64 (y : Int)] 56 (0, 0)) ∧ wr.heap[w.heap.size + 1]? = some (.cells #[.int .i64 0, .int .i64 0] 78 (0, 0)) ∧ PA wr g 82 s f (.func (.func F) #[] #[]) T ∧ wr.ownsRow (w.heap.size + 1 + 1) 78 2 v (behL ch T s x y k).length (flatJ (frJ (behL ch T s x y k)))) (fun _ fc _ _ _ => f + 1 - (intOf fc).toNat)
    case atStart => exact ⟨0, Nat.zero_le _, rfl, hB2, kb2, kr2, P2, World.ownsRow_nil _ _ _ _⟩
    case round =>
      clear hB2 kb2 kr2 P2
      obtain ⟨k, hk, rfl, hB, kb, kr, P, hown⟩ := hrel
      have cf := P.fa
      have qb := fun i => cell_of_row wr w.heap.size i _ _ _ kb
      have hsz := heap_lt kr
      have hlen := behL_len ch T s x y k
      by_cases hlt : k < f
      · have h3 : (k : Int) + 1 ≤ (f : Int) := by omega
        have hwk : IntKind.i64.wrap ((k : Int) + 1) = (k : Int) + 1 := IntWalk.i64_in _ (by omega)
        obtain ⟨Av, cv, rfl⟩ := own_sliceS hown
        have hst : ∀ m, movP ch T s x y (k + 1) = m → behL ch T s x y (k + 1) = match m with | some tok => behL ch T s x y k ++ [behP T x y tok (k + 1)] | none => behL ch T s x y k := fun m e => by subst e; rfl
        cases hm : movP ch T s x y (k + 1) with
        | none =>
          have hst' := hst _ hm
          simp only at hst'
          have HST := Lib.hid hst'; have HMV := Lib.hid hm
          clear hst hst' hm
          go_wp2_with fail
          refine (mover_any g s f x y (k + 1) F ch G T _ P hR hE hT hs hx hy (by omega) (by omega) (HGG.out (k + 1) (by omega) (by omega))).mono ?_
          rintro e w3 ⟨rfl, hx3⟩
          rw [HMV.out]
          have hB3 := hB.trans (hx3.mono hB.size)
          have kb3 := (hx3.block _ (heap_lt kb)).trans kb
          have kr3 := (hx3.block _ (heap_lt kr)).trans kr
          have P3 := P.below hx3 P.lt
          have own3 := own_below hown hx3
          go_wp2_with fail
          go_roundw
          case rel => exact ⟨k + 1, by omega, by go_num, hB3, kb3, kr3, P3, by rw [HST.out]; exact own3⟩
          case measure => simp [intOf]; omega
        | some tok =>
          have hst' := hst _ hm
          simp only at hst'
          have hcs := movP_cases hch hm
          have HST := Lib.hid hst'; have HMV := Lib.hid hm; have HCS := Lib.hid hcs
          clear hst hst' hm hcs
          go_wp2_with fail
          refine (mover_any g s f x y (k + 1) F ch G T _ P hR hE hT hs hx hy (by omega) (by omega) (HGG.out (k + 1) (by omega) (by omega))).mono ?_
          rintro e w3 ⟨rfl, hx3⟩
          rw [HMV.out]
          have hB3 := hB.trans (hx3.mono hB.size)
          have kb3 := (hx3.block _ (heap_lt kb)).trans kb
          have kr3 := (hx3.block _ (heap_lt kr)).trans kr
          have P3 := P.below hx3 P.lt
          have own3 := own_below hown hx3
          have qb3 := fun i => cell_of_row w3 w.heap.size i _ _ _ kb3
          clear hx3 qb kb kr P hown hB cf
          go_wp2_with fail
          refine (meanBehind_any g s f x y tok (k + 1) _ T _ P3 hs (by omega) (by rcases HCS.out with h | h <;> omega)).mono ?_
          rintro e w4 ⟨rfl, hx4⟩
          have hB4 := hB3.trans (hx4.mono hB3.size)
          have kb4 := (hx4.block _ (heap_lt kb3)).trans kb3
          have kr4 := (hx4.block _ (heap_lt kr3)).trans kr3
          have P4 := P3.below hx4 P3.lt
          have own4 := own_below own3 hx4
          have hf4 := own_from own4
          have hz4 := heap_lt kr4
          obtain ⟨q, hq⟩ : ∃ q, q = behP T x y tok (k + 1) := ⟨_, rfl⟩
          rw [← hq]
          have HQ := Lib.hid hq
          clear hx4 qb3 kb3 kr3 P3 own3 hB3 hq
          go_wp2_with (at_builtin; go_loud (refine wpList_append_own _ rfl _ _ 114 rfl (w.heap.size + 1 + 1) 78 i0 (.agg #[.int .i64 0, .int .i64 0]) 2 16 Try.underlying114 hi hz0 hz1 hz2 rfl (by decide) _ _ _ rfl (own4.alloc _) ⟨w4.heap.size, 0, none⟩ 1 1 [.int .i64 (q.1 : Nat), .int .i64 (q.2 : Nat)] rfl rfl (cell_newF _ _ _ _) (two_intF _ _) (by unfold maxLen; omega) (by omega) (by simp; omega) ?_; intro v1 w5 hown5 hg5 _))
          go_roundw
          case rel =>
            have gP := P4.lt
            refine ⟨k + 1, by omega, by go_num, (hB4.alloc hB4.size _).grown hg5 (by simp; omega) (fun j h => by have := hf4 j h; omega), (hg5.block _ (by simp; omega) (fun e => by have := hf4 _ e.symm; omega)).trans ((Below.heap_alloc _ _ _ (heap_lt kb4)).trans kb4), (hg5.block _ (by simp; omega) (fun e => by have := hf4 _ e.symm; omega)).trans ((Below.heap_alloc _ _ _ (heap_lt kr4)).trans kr4), (P4.alloc _).grown hg5 (fun e => by have := hf4 _ e.symm; omega), ?_⟩
            rw [HST.out, frJ_snoc, List.length_append, List.length_singleton, ← HQ.out]
            exact hown5
          case measure => simp [intOf]; omega
      · have h3 : ¬ (k : Int) + 1 ≤ (f : Int) := by omega
        obtain rfl : k = f := by omega
        have hsm := behL_small (ch := ch) (s := s) (x := x) (y := y) hT k
        have hwf := frJ_wf hsm
        obtain ⟨l, hl⟩ : ∃ l, l = behL ch T s x y k := ⟨_, rfl⟩
        have HT0 := Lib.hid (show totP ch T s k x y = sumF (redF k 1) l by rw [hl]; rfl)
        have OKS := Lib.hid (show okSum (redF k 1) l = true by rw [hl]; exact OK1.out)
        have HM3 := Lib.hid (show M = redF (totP ch T s k x y).1 ((totP ch T s k x y).2 * l.length) by rw [hl]; exact HM2.out)
        have OK3' := Lib.hid (show 1 ≤ (totP ch T s k x y).2 * l.length by rw [hl]; exact OK3.out)
        have OK4' := Lib.hid (show (totP ch T s k x y).2 * l.length ≤ 1000000000000000 by rw [hl]; exact OK4.out)
        rw [← hl] at hown hwf hlen
        have hlen4 : l.length ≤ 4 := by omega
        obtain ⟨A', c', rfl, ho⟩ := own_oj hown (frJ_len l)
        rw [frJ_len] at ho
        have hrj : RJ wr wr.heap.size A' (frJ l) := OJ.rj (by rw [frJ_len]; exact ho) (by rw [frJ_len]; omega) hwf
        rw [frJ_len]
        clear hown hl hsm OK1 HM2 OK3 OK4 ho
        go_wp2_with fail
        refine (ratioOf_any k 1 _ (by omega) (by omega) (by omega)).mono ?_
        rintro e w3 ⟨rfl, hx3⟩
        have hB3 := hB.trans (hx3.mono hB.size)
        have kr3 := (hx3.block _ (heap_lt kr)).trans kr
        have hrj3 := hrj.go hx3
        clear hx3 qb kb kr P hB cf hrj
        go_wp2_with fail
        refine (sumFr_any A' c' (redF k 1) l _ hrj3 OKS.out).mono ?_
        rintro e w4 ⟨rfl, hx4⟩
        rw [← HT0.out]
        have hB4 := hB3.trans (hx4.mono hB3.size)
        have kr4 := (hx4.block _ (heap_lt kr3)).trans kr3
        obtain ⟨q, hq⟩ : ∃ q, q = totP ch T s k x y := ⟨_, rfl⟩
        have hq2 := OK2.out; have hq3 := OK3'.out; have hq4 := OK4'.out
        have hqm : IntKind.i64.wrap (((q.2 : Nat) : Int) * ((l.length : Nat) : Int)) = ((q.2 * l.length : Nat) : Int) := by
          rw [← hq] at hq4
          rw [← Int.natCast_mul]
          exact IntWalk.i64_in _ (by omega)
        rw [← hq] at hq2 hq3 hq4 ⊢
        have HM4 := Lib.hid (show M = redF q.1 (q.2 * l.length) by rw [hq]; exact HM3.out)
        obtain ⟨d, hd⟩ : ∃ d, d = q.2 * l.length := ⟨_, rfl⟩
        rw [← hd] at hqm hq3 hq4
        have HM5 := Lib.hid (show M = redF q.1 d by rw [hd]; exact HM4.out)
        have kn : (w4.alloc (.cells #[.int .i64 (q.1 : Nat), .int .i64 (q.2 : Nat)] 78)).heap[w4.heap.size]? = some (.cells #[.int .i64 (q.1 : Nat), .int .i64 (q.2 : Nat)] 78 (0, 0)) := heap_alloc_at _ _ _ rfl
        have kr5 := (Below.heap_alloc w4 (.cells #[.int .i64 (q.1 : Nat), .int .i64 (q.2 : Nat)] 78) _ (heap_lt kr4)).trans kr4
        have hB5 := hB4.alloc hB4.size (.cells #[.int .i64 (q.1 : Nat), .int .i64 (q.2 : Nat)] 78)
        clear hx4 kr3 hB3 hq hd HM3 HM4 hrj3
        go_wp2_with fail
        refine (ratioOf_any q.1 d _ (by omega) (by omega) hq3).mono ?_
        rintro e w6 ⟨rfl, hx6⟩
        have kr6 := (hx6.block _ (heap_lt kr5)).trans kr5
        have hB6 := hB5.trans (hx6.mono hB5.size)
        have q6 := fun i => cell_of_row w6 (w.heap.size + 1) i _ _ _ kr6
        have f6 := fun i => frozen_row (i := i) kr6
        clear hx6 kr5 kr4 kn
        go_wp2
        exact bodyPost_ret (v := .agg #[.int .i64 ((redF q.1 d).1 : Nat), .int .i64 ((redF q.1 d).2 : Nat)]) (by simp [results, Try.results62, go_sem, q6]) rfl ⟨by rw [HM5.out], (hB6.setCell (by simp) _).setCell (by simp) _⟩
end Go.Proofs.Ytmiefdjbhcpnbaa

namespace Go.Proofs.Ytmiefdjbhcpnbaa
open Go.RowKit

section
variable {P : Program} {ops : Array Oper} {rest : List Oper} {o : Oper} {a : Act} {w : World} {Q : Exit → Act → World → Prop}
theorem wpList_build (hgd : o.guard = none) (ty : TypeId) (parts : Array (Nat × Operand)) (ho : o.op = .build ty parts) (vs : Array (Nat × Value)) (hv : parts.map (fun p => (p.1, a.eval p.2)) = vs) (v : Value) (hrun : (Instr.build ty vs).run P w = .ok v w)
    (h : wpList P ops Q rest (a.put o.dst v) w) : wpList P ops Q (o :: rest) a w := by
  refine wpList_plain hgd fun K hK => ?_
  unfold Oper.wp execOp
  subst hv
  simp only [ho]
  simp [hrun, Result.andThen]
  exact hK _ _ h
end
end Go.Proofs.Ytmiefdjbhcpnbaa

/-
  AddJump, the model's.
-/
import Derived.Test.YtndodohngeaklaaC1af
import Derived.Test.YtndodohngeaklaaC1ae
namespace Go.Proofs.Ytndodohngeaklaa
open Go.RowKit

theorem cell_at {W0 w : World} {B b : Nat} {cs : Array Value} {t : TypeId} (hb : Below B W0 w) (hB : b < B) (k : W0.heap[b]? = some (.cells cs t (0, 0))) : ∀ i, w.cell? ⟨b, i, none⟩ = cs[i]? := fun i => (bcell hb hB).trans (cell_of_row W0 b i _ _ _ k)
theorem free_at {W0 w : World} {B b : Nat} {cs : Array Value} {t : TypeId} (hb : Below B W0 w) (hB : b < B) (k : W0.heap[b]? = some (.cells cs t (0, 0))) : ∀ i, w.frozen? ⟨b, i, none⟩ = false := fun i => frozen_row (i := i) ((hb.block _ hB).trans k)
theorem own_row {w : World} {base n : Nat} {t : TypeId} {A : Option Addr} {c : Nat} {L : List (Int × Int)} (h : w.ownsRow base t 2 (.slice A n c) n (flatJ L)) (hn : L.length = n) : OJ w base t A n (fun k => L.getD k (0, 0)) := by
  obtain ⟨A', c', e, ho⟩ := own_oj h hn
  injection e with e1 e2 e3
  subst e1; rw [hn] at ho; exact ho
theorem wfJ_put {js : List (Int × Int)} {a b : Int} (h : wfJ js) (ha : wfi a = true) (hb : wfi b = true) : wfJ (put js (a, b)) := fun j hj => by
  rcases put_mem hj with rfl | hj
  · exact ⟨ha, hb⟩
  · exact h j hj
theorem addR_wf {s f o a b : Int} {js : List (Int × Int)} (h : wfJ js) (ha : wfi a = true) (hb : wfi b = true) : wfJ (addR s f o js (a, b)).1.2.2.2 := by
  unfold addR
  split
  · exact wfJ_put h ha hb
  · exact fun j hj => by simp [noBd] at hj

set_option maxRecDepth 100000 in
set_option maxHeartbeats 1000000 in
theorem specAddJump_some (s f o a b : Int) (bb off c : Nat) (js : List (Int × Int)) (w : World) (hj : RJ w w.heap.size (some ⟨bb, off, none⟩) js) (hc : js.length ≤ c) (ha : wfi a = true) (hb : wfi b = true) :
    Calls Try.prog 14 #[.agg #[.int .i64 s, .int .i64 f, .int .i64 o, .slice (some ⟨bb, off, none⟩) js.length c], .agg #[.int .i64 a, .int .i64 b]] w (BdBack w.heap.size w (addR s f o js (a, b))) := by
  have hl := hj.1
  obtain ⟨W0, hW0⟩ : ∃ W0, W0 = ((w.alloc (.cells #[.int .i64 s, .int .i64 f, .int .i64 o, .slice (some ⟨bb, off, none⟩) js.length c] 30)).alloc (.cells #[.int .i64 a, .int .i64 b] 38)).alloc (.cells #[.int .i64 0, .int .i64 0, .int .i64 0, .slice none 0 0] 30) := ⟨_, rfl⟩
  have z0 : W0.heap.size = w.heap.size + 3 := by rw [hW0]; simp
  have h0 : Below w.heap.size w W0 := by rw [hW0]; exact below3 _ _ _ _
  have k1 : W0.heap[w.heap.size]? = some (.cells #[.int .i64 s, .int .i64 f, .int .i64 o, .slice (some ⟨bb, off, none⟩) js.length c] 30 (0, 0)) := by rw [hW0]; exact (Below.heap_alloc _ _ _ (by simp; omega)).trans ((Below.heap_alloc _ _ _ (by simp)).trans (heap_alloc_at _ _ _ rfl))
  have k2 : W0.heap[w.heap.size + 1]? = some (.cells #[.int .i64 a, .int .i64 b] 38 (0, 0)) := by rw [hW0]; exact (Below.heap_alloc _ _ _ (by simp)).trans (heap_alloc_at _ _ _ (by simp))
  have k3 : W0.heap[w.heap.size + 1 + 1]? = some (.cells #[.int .i64 0, .int .i64 0, .int .i64 0, .slice none 0 0] 30 (0, 0)) := by rw [hW0]; exact heap_alloc_at _ _ _ (by simp)
  cases hg : good ⟨s, f, o, js⟩
  · have ht : addR s f o js (a, b) = noBd := by rw [addR, hg, Bool.false_and]; rfl
    rw [ht]
    have HG := Lib.hid hg; clear hg ht
    go_enter Try.func14, Try.ntmps14
    go_wp2_with fail
    rw [← hW0]
    refine (sqGood_any _ _ _ _ _ _ _ (hj.later h0 h0.size)).mono ?_
    rintro e w1 ⟨rfl, hx⟩
    rw [HG.out]
    rw [z0] at hx
    have q3 := cell_at hx (by omega) k3
    have f3 := free_at hx (by omega) k3
    have hb1 := h0.trans (hx.mono (by omega))
    clear hW0
    go_wp2
    exact bodyPost_ret (v := .tuple #[.agg #[.int .i64 0, .int .i64 0, .int .i64 0, .slice none 0 0], .bool false]) (by simp [results, Try.results14, go_sem, q3]) rfl
      ⟨none, 0, rfl, .inl rfl, (((hb1.setCell (by dsimp only; omega) _).setCell (by dsimp only; omega) _).setCell (by dsimp only; omega) _).setCell (by dsimp only; omega) _⟩
  · have hz := good_sizes hg
    have hw1 := wfJ_put hj.2.1 ha hb
    have hlen := put_len js (a, b)
    have HG := Lib.hid hg; have HL := Lib.hid hlen; clear hg hlen
    go_enter Try.func14, Try.ntmps14
    go_wp2_with fail
    rw [← hW0]
    refine (sqGood_any _ _ _ _ _ _ _ (hj.later h0 h0.size)).mono ?_
    rintro e w1 ⟨rfl, hx⟩
    rw [HG.out]
    rw [z0] at hx
    have q1 := cell_at hx (by omega) k1
    have q2 := cell_at hx (by omega) k2
    have hb1 := h0.trans (hx.mono (by omega))
    have hs1 := hx.size
    have HW := Lib.hid hW0
    clear hW0
    go_wp2_with fail
    refine (sqWith_some s f o a b bb off c js w1 (hj.later hb1 hb1.size) hc (by omega)).mono ?_
    rintro e w2 ⟨v, rfl, ho, hx2⟩
    obtain ⟨A2, c2, rfl⟩ := own_sl ho
    have hs2 := hx2.size
    have hb2 := hb1.trans (hx2.mono hb1.size)
    have hx02 : Below (w.heap.size + 3) W0 w2 := hx.trans (hx2.mono (by omega))
    clear q1 q2
    go_wp2_with fail
    have ho3 := ho.alloc (.cells #[.int .i64 s, .int .i64 f, .int .i64 o, .slice A2 (js.length + 1) c2] 30)
    have hR := (own_row ho3 HL.out).rjl HL.out (by have := HL.out; omega) hw1
    have hcon := sqGood_any s f o A2 c2 (put js (a, b)) _ hR
    rw [HL.out] at hcon
    refine hcon.mono ?_
    rintro e w3 ⟨rfl, hx3⟩
    have hx3b : Below (w2.heap.size + 1) (w2.alloc (.cells #[.int .i64 s, .int .i64 f, .int .i64 o, .slice A2 (js.length + 1) c2] 30)) w3 := box_on (Below.refl _ _) hx3 (by simp)
    have hs3 := hx3b.size
    simp only [World.size_alloc] at hs3
    have q4 := boxcells hx3b
    have hx03 : Below (w.heap.size + 3) W0 w3 := (hx02.alloc (by omega) _).trans (hx3b.mono (by omega))
    have hb3 := h0.trans (hx03.mono (by omega))
    have q3 := cell_at hx03 (by omega) k3
    have f3 := free_at hx03 (by omega) k3
    have ho4 := own_below ho3 hx3
    clear hcon hR
    cases hg2 : good ⟨s, f, o, put js (a, b)⟩
    · have ht : addR s f o js (a, b) = noBd := by rw [addR, hg2, Bool.and_false]; rfl
      have HT := Lib.hid ht
      clear hg2 ht
      go_wp2
      exact bodyPost_ret (v := .tuple #[.agg #[.int .i64 0, .int .i64 0, .int .i64 0, .slice none 0 0], .bool false]) (by simp [results, Try.results14, go_sem, q3]) rfl
        (by rw [HT.out]; exact ⟨none, 0, rfl, .inl rfl, (((hb3.setCell (by dsimp only; omega) _).setCell (by dsimp only; omega) _).setCell (by dsimp only; omega) _).setCell (by dsimp only; omega) _⟩)
    · have ht : addR s f o js (a, b) = ((s, f, o, put js (a, b)), true) := by rw [addR, hg2, HG.out]; rfl
      have HT := Lib.hid ht
      clear hg2 ht
      go_wp2
      exact bodyPost_ret (v := .tuple #[.agg #[.int .i64 s, .int .i64 f, .int .i64 o, .slice A2 (js.length + 1) c2], .bool true]) (by simp [results, Try.results14, go_sem, q3]) rfl
        (by rw [HT.out]; exact ⟨A2, c2, by rw [← HL.out], by
          have h4 := own_row (ownsRow_setCell_below (a := ⟨w.heap.size + 1 + 1, 3, none⟩) (ownsRow_setCell_below (a := ⟨w.heap.size + 1 + 1, 2, none⟩) (ownsRow_setCell_below (a := ⟨w.heap.size + 1 + 1, 1, none⟩) (ownsRow_setCell_below (a := ⟨w.heap.size + 1 + 1, 0, none⟩) ho4 (by dsimp only; omega) (.int .i64 s)) (by dsimp only; omega) (.int .i64 f)) (by dsimp only; omega) (.int .i64 o)) (by dsimp only; omega) (.slice A2 (js.length + 1) c2)) HL.out
          simp only [HL.out]
          rcases h4 with h4 | ⟨g, e, hg, hr⟩
          · exact .inl h4
          · exact .inr ⟨g, e, by omega, hr⟩, (((hb3.setCell (by dsimp only; omega) _).setCell (by dsimp only; omega) _).setCell (by dsimp only; omega) _).setCell (by dsimp only; omega) _⟩)
end Go.Proofs.Ytndodohngeaklaa

/- Several texts, one behind the other: C5k. -/
import Derived.Maps.AppendAt
import Derived.Deep.AppendSrc
import Derived.Test.YtmiefdjbhcpnbaaZPCan
import Derived.Test.YtmiefdjbhcpnbaaZPCai

namespace Go.Proofs.Ytmiefdjbhcpnbaa
open Go.RowKit

theorem infoIntK : (Try.prog.info? 3).map (fun i => (i.zero, i.size, i.bytes)) = some (some (.int .i64 0), 1, 8) := by kernel_rfl
theorem infoSlK : (Try.prog.info? 25).map (fun i => (i.zero, i.size, i.bytes)) = some (some (.slice none 0 0), 1, 24) := by kernel_rfl
theorem own_madeK {N : Nat} {w : World} (hN : N ≤ w.heap.size) (t : TypeId) (g : Nat) (hg : g = w.heap.size) : (w.alloc (.cells #[] t)).ownsRow N t 1 (.slice (some ⟨g, 0, none⟩) 0 0) 0 [] :=
  ⟨rfl, .inr ⟨g, 0, #[], rfl, by omega, heap_alloc_at _ _ _ hg, Nat.le_refl _, by decide, rfl, rfl⟩⟩
section
variable {P : Program} {ops : Array Oper} {rest : List Oper} {o : Oper} {a : Act} {w : World} {Q : Exit → Act → World → Prop}
/-- Nothing is laid behind an empty slice of the call's own. -/
theorem run_append_noneK (t ty e : TypeId) (i : TypeInfo) (ht : P.underlying t = some (.slice e)) (hi : P.info? e = some i) (g cap : Nat) (c : Nat) :
    (Builtin.append_ #[t, t] ty #[.slice (some ⟨g, 0, none⟩) 0 cap, .slice none 0 c]).run P w = .ok (.slice (some ⟨g, 0, none⟩) 0 cap) w := by
  have hs : Src P i.size t (.slice none 0 c) 0 [] w := Src.ofNil (w := w) ht c
  exact run_append_room_src (P := P) (w := w) t t ty e i ht hi g 0 0 cap (.slice none 0 c) 0 [] hs (by omega) (fun j hj => by simp at hj) (fun j hj => by simp at hj)
theorem wpList_append_noneK (hgd : o.guard = none) (s x : Operand) (t : TypeId) (ho : o.op = .call { callee := .builtin .append, args := #[s, x], argTypes := #[t, t] }) (e : TypeId) (i : TypeInfo) (ht : P.underlying t = some (.slice e)) (hi : P.info? e = some i)
    (g cap c : Nat) (hs : a.eval s = .slice (some ⟨g, 0, none⟩) 0 cap) (hx : a.eval x = .slice none 0 c)
    (h : wpList P ops Q rest (a.put o.dst (.slice (some ⟨g, 0, none⟩) 0 cap)) w) : wpList P ops Q (o :: rest) a w :=
  wpList_plain hgd fun K hK => by
    have hr := run_append_noneK (P := P) (w := w) t o.type e i ht hi g cap c
    unfold Oper.wp execOp
    simp only [ho, resolve, invoke, builtin, Sem.run_bind, Sem.run_pure, Result.andThen_ok, List.map_toArray, List.map_cons, List.map_nil, hs, hx, hr]
    exact hK _ _ h
end
/-- The numbers as values. -/
def valsN (l : List Nat) : List Value := l.map fun n : Nat => Value.int .i64 n
theorem valsN_len (l : List Nat) : (valsN l).length = l.length := by simp [valsN]
theorem valsN_one (l : List Nat) : ∀ u ∈ valsN l, u.oneCell' = true := by
  intro u hu
  simp only [valsN, List.mem_map] at hu
  obtain ⟨i, _, rfl⟩ := hu
  rfl
set_option maxRecDepth 100000 in
set_option maxHeartbeats 400000 in
theorem l1Own_own (A : Option Addr) (n c : Nat) (l : List Nat) (hn : n = l.length) (w : World) (hr : RN w w.heap.size A c l) :
    Calls Try.prog 48 #[.slice A n c] w fun e w' => ∃ v', e = .returned v' ∧ w'.ownsRow w.heap.size 3 1 v' l.length (valsN l) ∧ Below w.heap.size w w' := by
  obtain ⟨i0, hi, hz0, hz1, hz2⟩ := info_parts infoIntK
  obtain ⟨hc, hl, h⟩ := hr
  cases A with
  | none =>
    have hl0 : l = [] := by
      rcases h with h | ⟨b, off, e', _⟩
      · exact h
      · cases e'
    subst hl0
    simp only [List.length_nil] at hn
    subst hn
    go_enter Try.func48, Try.ntmps48
    go_wp2_with (at_builtin; refine wpList_append_noneK rfl _ _ 25 rfl 3 i0 Try.underlying25 hi w.heap.size 0 c rfl rfl ?_)
    go_ret
    exact ⟨_, rfl, own_madeK (Nat.le_refl _) _ _ rfl, below1 w _⟩
  | some ad =>
    have hcell : ∀ j u, (valsN l)[j]? = some u → (w.alloc (.cells #[] 3)).cell? (ad.add j) = some u := by
      intro j u hu
      rcases h with rfl | ⟨b, off, e', hb, hcc⟩
      · simp [valsN] at hu
      · injection e' with e'
        subst e'
        have hj : j < l.length := by
          rcases Nat.lt_or_ge j l.length with h1 | h1
          · exact h1
          · rw [List.getElem?_eq_none (by simpa [valsN] using h1)] at hu; cases hu
        simp only [valsN, List.getElem?_map, List.getElem?_eq_getElem hj, Option.map_some, Option.some.injEq] at hu
        rw [← hu]
        rw [show (⟨b, off, none⟩ : Addr).add j = ⟨b, off + j, none⟩ by simp [Addr.add]]; exact (bcell (below1 w _) hb).trans (hcc j hj)
    go_enter Try.func48, Try.ntmps48
    go_wp2_with (at_builtin; go_loud (refine wpList_append_own _ rfl _ _ 25 rfl w.heap.size 3 i0 (.int .i64 0) 1 8 Try.underlying25 hi hz0 hz1 hz2 rfl (by decide) _ 0 [] rfl (own_madeK (Nat.le_refl _) _ _ rfl) ad n c (valsN l) rfl (by rw [valsN_len, hn]; omega) hcell (valsN_one l) (by unfold maxLen; omega) (by omega) (by simp) ?_; intro v1 w6 hown6 hg6 _))
    have hown7 : w6.ownsRow w.heap.size 3 1 v1 l.length (valsN l) := by simpa [hn] using hown6
    go_wp2_with fail
    go_ret
    exact ⟨v1, rfl, hown7, (below1 w _).grown hg6 (by simp) (fun k h => own_from (own_madeK (Nat.le_refl w.heap.size) 3 _ rfl) k h)⟩
theorem own_sliceK {w : World} {base e size n : Nat} {v : Value} {xs : List Value} (h : w.ownsRow base e size v n xs) : ∃ A c, v = .slice A n c := by
  rcases h.2 with ⟨rfl, h0⟩ | ⟨g', cap, cs, rfl, _⟩
  · exact ⟨none, 0, by rw [h0]⟩
  · exact ⟨_, _, rfl⟩
theorem cell_heap {w w' : World} {b o : Nat} (h : w'.heap[b]? = w.heap[b]?) : w'.cell? ⟨b, o, none⟩ = w.cell? ⟨b, o, none⟩ := by
  unfold World.cell?
  rw [h]
/-- A slice at A that reads as the numbers l, in a block that is neither g nor the row of v. -/
def RD (w : World) (g : Nat) (v : Value) (A : Option Addr) (c : Nat) (l : List Nat) : Prop :=
  l.length ≤ c ∧ l.length ≤ 1048576 ∧ (l = [] ∨ ∃ b off, A = some ⟨b, off, none⟩ ∧ b < w.heap.size ∧ b ≠ g ∧ v.ownBlock ≠ some b ∧ ∀ k (h : k < l.length), w.cell? ⟨b, off + k, none⟩ = some (.int .i64 (l[k] : Nat)))
theorem RD.rn {w : World} {g c : Nat} {v : Value} {A} {l} (h : RD w g v A c l) : RN w w.heap.size A c l := by
  obtain ⟨h1, h2, rfl | ⟨b, off, e, hB, _, _, hc⟩⟩ := h
  · exact ⟨h1, h2, .inl rfl⟩
  · exact ⟨h1, h2, .inr ⟨b, off, e, hB, hc⟩⟩
/-- What a call that lists may turn: box g and the row of v; behind it the row is v''s: the old one, or a new one. -/
structure KeptO (w w' : World) (g : Nat) (v v' : Value) : Prop where
  os : w'.os = w.os
  tape : w'.tape = w.tape
  output : w'.output = w.output
  size : w.heap.size ≤ w'.heap.size
  block : ∀ k, k < w.heap.size → k ≠ g → v.ownBlock ≠ some k → w'.heap[k]? = w.heap[k]?
  own : v'.ownBlock = v.ownBlock ∨ ∀ k, v'.ownBlock = some k → w.heap.size ≤ k
theorem KeptO.of_below {w w' : World} {g : Nat} {v : Value} (h : Below w.heap.size w w') : KeptO w w' g v v :=
  ⟨h.os, h.tape, h.output, h.size, fun k hk _ _ => h.block k hk, .inl rfl⟩
theorem KeptO.ne {w w' : World} {g : Nat} {v v' : Value} (h : KeptO w w' g v v') {k : Nat} (hk : k < w.heap.size) (hv : v.ownBlock ≠ some k) : v'.ownBlock ≠ some k := by
  rcases h.own with e | e
  · rw [e]; exact hv
  · intro e2; have := e k e2; omega
theorem KeptO.trans {w w1 w2 : World} {g : Nat} {v v1 v2 : Value} (h : KeptO w w1 g v v1) (h2 : KeptO w1 w2 g v1 v2) : KeptO w w2 g v v2 :=
  ⟨h2.os.trans h.os, h2.tape.trans h.tape, h2.output.trans h.output, Nat.le_trans h.size h2.size, fun k hk hg hv => (h2.block k (Nat.lt_of_lt_of_le hk h.size) hg (h.ne hk hv)).trans (h.block k hk hg hv), by
    rcases h2.own with e | e
    · rw [e]; exact h.own
    · exact .inr fun k hk => Nat.le_trans h.size (e k hk)⟩
theorem KeptO.below {w w' : World} {g B : Nat} {v v' : Value} (h : KeptO w w' g v v') (hB : B ≤ g) (hBw : B ≤ w.heap.size) (hv : ∀ k, v.ownBlock = some k → B ≤ k) : Below B w w' :=
  ⟨h.os, h.tape, h.output, h.size, fun k hk => h.block k (by omega) (by omega) (fun e => by have := hv k e; omega)⟩
theorem RD.kept {w w' : World} {g c : Nat} {v v' : Value} {A} {l} (h : RD w g v A c l) (hk : KeptO w w' g v v') : RD w' g v' A c l := by
  obtain ⟨h1, h2, rfl | ⟨b, off, e, hB, hg, hv, hc⟩⟩ := h
  · exact ⟨h1, h2, .inl rfl⟩
  · exact ⟨h1, h2, .inr ⟨b, off, e, Nat.lt_of_lt_of_le hB hk.size, hg, hk.ne hB hv, fun j hj => (cell_heap (hk.block b hB hg hv)).trans (hc j hj)⟩⟩
/-- Box g holds a slice v whose elements read as the lists L. -/
def OutR (w : World) (g : Nat) (v : Value) (L : List (List Nat)) : Prop :=
  w.heap[g]? = some (.cells #[v] 26 (0, 0)) ∧ ∃ vs : List Value, vs.length = L.length ∧ w.ownsRow (g + 1) 25 1 v L.length vs ∧ ∀ i (_ : i < L.length), ∃ A c, vs[i]? = some (.slice A L[i].length c) ∧ RD w g v A c L[i]
theorem OutR.lt {w : World} {g : Nat} {v : Value} {L} (h : OutR w g v L) : g < w.heap.size := heap_lt h.1
theorem OutR.own_lt {w : World} {g : Nat} {v : Value} {L} (h : OutR w g v L) : ∀ k, v.ownBlock = some k → g + 1 ≤ k ∧ k < w.heap.size := by
  obtain ⟨_, vs, _, ho, _⟩ := h
  intro k hk
  refine ⟨own_from ho k hk, ?_⟩
  rcases ho.2 with ⟨rfl, _⟩ | ⟨g', cap, cs, rfl, _, hh, _⟩
  · cases hk
  · injection hk with hk; subst hk; exact heap_lt hh
theorem OutR.below {w w' : World} {g : Nat} {v : Value} {L} (h : OutR w g v L) (hb : Below w.heap.size w w') : OutR w' g v L := by
  obtain ⟨h1, vs, h2, h3, h4⟩ := h
  refine ⟨(hb.block g (heap_lt h1)).trans h1, vs, h2, own_below h3 hb, fun i hi => ?_⟩
  obtain ⟨A, c, e, hr⟩ := h4 i hi
  exact ⟨A, c, e, hr.kept (KeptO.of_below hb)⟩
theorem kept_push {w w2 : World} {g : Nat} {v v1 : Value} {L} (h : OutR w g v L) {o : Obj} (hg : (w.alloc o).grownBy w2 v.ownBlock) (hb : v1.ownBlock = v.ownBlock ∨ v1.ownBlock = some (w.alloc o).heap.size) : KeptO w (w2.setCell ⟨g, 0, none⟩ v1) g v v1 := by
  have hgs := grown_setCell (grown_refl w2 (some g)) ⟨g, 0, none⟩ v1 rfl
  have hal : (w.alloc o).heap.size = w.heap.size + 1 := by simp
  have hsz := hg.size
  refine ⟨hgs.os.trans (hg.os.trans rfl), hgs.tape.trans (hg.tape.trans rfl), hgs.output.trans (hg.output.trans rfl), Nat.le_trans (by omega) hgs.size, fun k hk hkg hkv => ?_, ?_⟩
  · rw [hgs.block k (by omega) (by simpa using hkg), hg.block k (by omega) (fun e => hkv e.symm)]
    exact Below.heap_alloc w o k hk
  · rcases hb with e | e
    · exact .inl e
    · exact .inr fun k hk => by rw [e] at hk; injection hk with hk; omega
theorem OutR.push {w w2 : World} {g : Nat} {v v1 : Value} {L} (h : OutR w g v L) {A : Option Addr} {c : Nat} {l : List Nat} (hr : RD w g v A c l) {o : Obj} {vs : List Value} (hvs : vs.length = L.length) (hvr : ∀ i (_ : i < L.length), ∃ A c, vs[i]? = some (.slice A L[i].length c) ∧ RD w g v A c L[i])
    (hown : w2.ownsRow (g + 1) 25 1 v1 (L.length + 1) (vs ++ [.slice A l.length c])) (hg : (w.alloc o).grownBy w2 v.ownBlock) (hb : v1.ownBlock = v.ownBlock ∨ v1.ownBlock = some (w.alloc o).heap.size) :
    OutR (w2.setCell ⟨g, 0, none⟩ v1) g v1 (L ++ [l]) := by
  have hk := kept_push h hg hb
  have hlt := h.lt
  have hvg : v.ownBlock ≠ some g := fun e => by have := (h.own_lt g e).1; omega
  have hv1g : v1.ownBlock ≠ some g := hk.ne hlt hvg
  have hal : (w.alloc o).heap.size = w.heap.size + 1 := by simp
  have hbox : w2.heap[g]? = some (.cells #[v] 26 (0, 0)) := by
    rw [hg.block g (by omega) (fun e => hvg e.symm), Below.heap_alloc w o g hlt]
    exact h.1
  refine ⟨?_, vs ++ [.slice A l.length c], by simp [hvs], ?_, fun i hi => ?_⟩
  · rw [heap_set w2 g 0 _ _ _ hbox]
    simp
  · rw [List.length_append, List.length_singleton]
    exact hown.kept (grown_setCell (grown_refl w2 (some g)) ⟨g, 0, none⟩ v1 rfl) (.inr hv1g)
  · rw [List.length_append, List.length_singleton] at hi
    by_cases e : i < L.length
    · obtain ⟨A', c', e1, e2⟩ := hvr i e
      refine ⟨A', c', ?_, ?_⟩
      · rw [List.getElem_append_left e, List.getElem?_append_left (by omega)]; exact e1
      · rw [List.getElem_append_left e]; exact e2.kept hk
    · obtain rfl : i = L.length := by omega
      refine ⟨A, c, ?_, ?_⟩
      · rw [List.getElem_append_right (Nat.le_refl _), List.getElem?_append_right (by omega)]; simp [hvs]
      · rw [List.getElem_append_right (Nat.le_refl _)]; simp; exact hr.kept hk
/-- The lists that begin with l and go on with t throws. -/
def lookL (s f a b t : Nat) (l : List Nat) : List (List Nat) := ((listsF f t).filter fun m => canP s a b (l ++ m)).map (l ++ ·)
theorem lookL_zero (s f a b : Nat) (l : List Nat) : lookL s f a b 0 l = if canP s a b l then [l] else [] := by
  unfold lookL
  cases h : canP s a b l <;> simp [listsF, h]
theorem lookL_succ (s f a b t : Nat) (l : List Nat) : lookL s f a b (t + 1) l = (List.range f).flatMap fun k => lookL s f a b t (l ++ [k + 1]) := by
  unfold lookL
  rw [filter_lists, List.map_flatMap]
  congr 1
  funext k
  rw [List.map_map]
  have e : (fun m => canP s a b (l ++ (k + 1) :: m)) = fun m => canP s a b (l ++ [k + 1] ++ m) := by funext m; simp
  rw [e]
  congr 1
  funext m
  simp
theorem lookL_le (s f a b t : Nat) (l : List Nat) : (lookL s f a b t l).length ≤ f ^ t := by
  unfold lookL
  rw [List.length_map, ← lists_len f t]
  exact List.length_filter_le _ _
/-- What k faces have listed. -/
def lookK (s f a b t k : Nat) (l : List Nat) : List (List Nat) := (List.range k).flatMap fun j => lookL s f a b t (l ++ [j + 1])
theorem lookK_succ (s f a b t k : Nat) (l : List Nat) : lookK s f a b t (k + 1) l = lookK s f a b t k l ++ lookL s f a b t (l ++ [k + 1]) := by
  simp [lookK, List.range_succ]
theorem lookK_le (s f a b t : Nat) (l : List Nat) : ∀ k, (lookK s f a b t k l).length ≤ k * f ^ t
  | 0 => by simp [lookK]
  | k + 1 => by
    rw [lookK_succ, List.length_append, Nat.add_mul, Nat.one_mul]
    exact Nat.add_le_add (lookK_le s f a b t l k) (lookL_le _ _ _ _ _ _)
theorem cell_new1K (w : World) (v : Value) (t : TypeId) : ∀ (j : Nat) u, [v][j]? = some u → (w.alloc (.cells #[v] t)).cell? ((⟨w.heap.size, 0, none⟩ : Addr).add j) = some u := by
  intro j u h
  match j, h with
  | 0, h => simp at h; subst h; rw [Addr.add_lit, cell_of_row _ _ _ #[v] t (0, 0) (heap_alloc_at _ _ _ rfl)]; rfl
theorem one_sliceK (A : Option Addr) (n c : Nat) : ∀ u ∈ [Value.slice A n c], u.oneCell' = true := by intro u hu; simp at hu; subst hu; rfl
theorem one_intK (x : Int) : ∀ u ∈ [Value.int .i64 x], u.oneCell' = true := by intro u hu; simp at hu; subst hu; rfl
set_option maxRecDepth 100000 in
set_option maxHeartbeats 1000000 in
theorem oiLook_zero (s f a b : Nat) (hs : s ≤ 6) (ha : a ≤ s) (hb : b ≤ s) (l : List Nat) (L : List (List Nat)) (A : Option Addr) (c g n : Nat) (v : Value) (w : World) (hn : n = l.length) (hl8 : ∀ k ∈ l, k ≤ 8) (hO : OutR w g v L) (hr : RD w g v A c l) (hL : L.length ≤ 20000000) :
    Calls Try.prog 34 #[.int .i64 s, .int .i64 f, .int .i64 a, .int .i64 b, .int .i64 0, .slice A n c, .pointer (some ⟨g, 0, none⟩)] w fun e w' => e = .returned (.tuple #[]) ∧ ∃ v', OutR w' g v' (L ++ lookL s f a b 0 l) ∧ KeptO w w' g v v' := by
  obtain ⟨i0, hi, hz0, hz1, hz2⟩ := info_parts infoSlK
  obtain ⟨Av, cv, rfl⟩ : ∃ Av cv, v = .slice Av L.length cv := by
    obtain ⟨_, vs, _, ho, _⟩ := hO
    exact own_sliceK ho
  have HC := Lib.hid (oiCan_any s hs l a b A n c w hn hr.rn hl8 ha hb)
  have HN := Lib.hid hn
  clear hn
  rw [lookL_zero]
  cases hcan : canP s a b l with
  | false =>
    rw [hcan] at HC
    clear hcan
    simp only [Bool.false_eq_true, if_false, List.append_nil]
    go_enter Try.func34, Try.ntmps34
    go_wp2_with fail
    refine HC.out.mono ?_
    rintro e w2 ⟨rfl, hx⟩
    go_wp2
    exact bodyPost_ret (v := .tuple #[]) (by simp [results, Try.results34]) rfl ⟨rfl, _, hO.below hx, KeptO.of_below hx⟩
  | true =>
    rw [hcan] at HC
    clear hcan
    simp only [if_true]
    go_enter Try.func34, Try.ntmps34
    go_wp2_with fail
    refine HC.out.mono ?_
    rintro e w2 ⟨rfl, hx⟩
    have hO2 := hO.below hx
    have hr2 := hr.kept (KeptO.of_below (g := g) (v := .slice Av L.length cv) hx)
    obtain ⟨vs, hvs, hown, hvr⟩ := hO2.2
    have k1 := fun i => cell_of_row w2 g i _ _ _ hO2.1
    have hlt := hO2.lt
    have hold := own_from hown
    have hown2 := own_below hown (below1 w2 (.cells #[.slice A n c] 25))
    have hz := below1 w2 (.cells #[.slice A n c] 25)
    go_wp2_with (at_builtin; go_loud (refine wpList_append_own_at _ rfl _ _ 26 rfl (g + 1) 25 i0 (.slice none 0 0) 1 24 Try.underlying26 hi hz0 hz1 hz2 rfl (by decide) _ _ _ rfl hown2 ⟨w2.heap.size, 0, none⟩ 1 1 [.slice A n c] rfl rfl (cell_new1K _ _ _) (one_sliceK _ _ _) (by unfold maxLen; omega) (by omega) (by simp; omega) ?_; intro v1 w4 hown4 hg4 _ hb4; obtain ⟨A1, c1, rfl⟩ := own_sliceK hown4; have hbox4 : w4.heap[g]? = some (.cells #[.slice Av L.length cv] 26 (0, 0)) := by rw [hg4.block g (by simp; omega) (fun e => by have := (hO2.own_lt g e.symm).1; omega), Below.heap_alloc w2 _ g hlt]; exact hO2.1); (have k4 := fun i => cell_of_row w4 g i _ _ _ hbox4); (have fz4 := frozen_row (i := 0) hbox4))
    have en := HN.out
    subst en
    exact bodyPost_ret (v := .tuple #[]) (by simp [results, Try.results34]) rfl ⟨rfl, _, OutR.push hO2 hr2 hvs hvr hown4 hg4 hb4, (KeptO.of_below hx).trans (kept_push hO2 hg4 hb4)⟩
set_option maxRecDepth 100000 in
set_option maxHeartbeats 2000000 in
theorem oiLook_succ (s f a b t : Nat) (hf : f ≤ 4) (l : List Nat) (L : List (List Nat)) (A : Option Addr) (c g n : Nat) (v : Value) (w : World) (ht : t ≤ 12) (hn : n = l.length) (hn12 : n + t + 1 ≤ 12) (hl8 : ∀ k ∈ l, k ≤ 8) (hO : OutR w g v L) (hr : RD w g v A c l) (hL : L.length + f ^ (t + 1) ≤ 20000000)
    (ih : ∀ (l : List Nat) (L : List (List Nat)) (A : Option Addr) (c n : Nat) (v : Value) (w : World), n = l.length → n + t ≤ 12 → (∀ k ∈ l, k ≤ 8) → OutR w g v L → RD w g v A c l → L.length + f ^ t ≤ 20000000 →
      Calls Try.prog 34 #[.int .i64 s, .int .i64 f, .int .i64 a, .int .i64 b, .int .i64 t, .slice A n c, .pointer (some ⟨g, 0, none⟩)] w fun e w' => e = .returned (.tuple #[]) ∧ ∃ v', OutR w' g v' (L ++ lookL s f a b t l) ∧ KeptO w w' g v v') :
    Calls Try.prog 34 #[.int .i64 s, .int .i64 f, .int .i64 a, .int .i64 b, .int .i64 ((t + 1 : Nat) : Int), .slice A n c, .pointer (some ⟨g, 0, none⟩)] w fun e w' => e = .returned (.tuple #[]) ∧ ∃ v', OutR w' g v' (L ++ lookL s f a b (t + 1) l) ∧ KeptO w w' g v v' := by
  obtain ⟨i0, hi, hz0, hz1, hz2⟩ := info_parts infoIntK
  obtain ⟨T, hT⟩ : ∃ T, T = t + 1 := ⟨_, rfl⟩
  have e0 : ((T : Int) == 0) = false := beq_eq_false_iff_ne.2 (by omega)
  have wT : IntKind.i64.wrap ((T : Int) - 1) = (t : Int) := by rw [IntWalk.i64_in _ (by omega)]; omega
  rw [show lookL s f a b (t + 1) l = lookK s f a b t f l from lookL_succ _ _ _ _ _ _]
  have hpw : f * f ^ t = f ^ (t + 1) := by rw [Nat.pow_succ, Nat.mul_comm]
  rw [← hT]
  have HN := Lib.hid hn
  have IH := Lib.hid ih
  have HL := Lib.hid hL
  have HPW := Lib.hid hpw
  have HT := Lib.hid hT
  have H8 := Lib.hid hl8
  clear hn ih hL hpw hT hl8
  go_enter Try.func34, Try.ntmps34
  go_wp2
  go_loopw [14] (fun i wr => ∃ (k : Nat) (v' : Value), k ≤ f ∧ i = .int .i64 ((k + 1 : Nat) : Int) ∧ Hid (OutR wr g v' (L ++ lookK s f a b t k l)) ∧ Hid (KeptO w wr g v v')) (fun i _ => f + 1 - (intOf i).toNat)
  case atStart => exact ⟨0, v, Nat.zero_le _, rfl, Lib.hid (by simpa [lookK] using hO), Lib.hid (KeptO.of_below (Below.refl _ _))⟩
  case round =>
    obtain ⟨k, v', hk, rfl, hO1, hK⟩ := hrel
    obtain ⟨K, hKk⟩ : ∃ K, K = k + 1 := ⟨_, rfl⟩
    rw [← hKk]
    by_cases hlt : k < f
    · have hKf : (K : Int) ≤ (f : Int) := by omega
      have hrK := hr.kept hK.out
      have HO := hO1.out
      have hlw := HO.lt
      have hle := lookK_le s f a b t l k
      have hmul : (k + 1) * f ^ t ≤ f * f ^ t := Nat.mul_le_mul_right _ hlt
      rw [HPW.out, Nat.add_mul, Nat.one_mul] at hmul
      have hL1 : (L ++ lookK s f a b t k l).length + f ^ t ≤ 20000000 := by rw [List.length_append]; have := HL.out; omega
      have HL1 := Lib.hid hL1
      have HKk := Lib.hid hKk
      have hK4 : K ≤ 4 := by omega
      clear hle hmul hL1 hKk
      go_wp2_with (first | (go_at_call 48; go_loud (refine (l1Own_own A n c l HN.out _ hrK.rn).mono ?_; rintro e w5 ⟨v5, rfl, hown5, hx5⟩; obtain ⟨A5, c5, rfl⟩ := own_sliceK hown5; have hown5a := own_below hown5 (below1 w5 (.cells #[.int .i64 (K : Nat)] 3)))) | (at_builtin; go_loud (refine wpList_append_own_at _ rfl _ _ 25 rfl wr.heap.size 3 i0 (.int .i64 0) 1 8 Try.underlying25 hi hz0 hz1 hz2 rfl (by decide) _ _ _ rfl hown5a ⟨w5.heap.size, 0, none⟩ 1 1 [.int .i64 (K : Nat)] rfl rfl (cell_new1K _ _ _) (one_intK _) (by have := HN.out; unfold maxLen; omega) (by have := HN.out; omega) (by have := hx5.size; simp; omega) ?_; intro v6 w6 hown6 hg6 _ hb6; obtain ⟨A6, c6, rfl⟩ := own_sliceK hown6)))
      have ho6 := own_from hown6
      have hx6 : Below wr.heap.size wr w6 := (hx5.trans ((below1 w5 _).mono hx5.size)).grown hg6 (by have := hx5.size; simp; omega) (fun i h => own_from hown5 i h)
      have hK6 := KeptO.of_below (g := g) (v := v') hx6
      have hr6 : RD w6 g v' A6 c6 (l ++ [K]) := by
        have hlen : (l ++ [K]).length = l.length + 1 := by simp
        have hn13 : l.length ≤ 12 := by have := HN.out; omega
        rcases hown6.2 with ⟨_, h0⟩ | ⟨g6, cap, cur, e6, hg6b, hh6, h3, _, h5, h6⟩
        · omega
        · injection e6 with e61 _ e62
          subst e61 e62
          refine ⟨by rw [hlen]; exact h3, by rw [hlen]; omega, .inr ⟨g6, 0, rfl, heap_lt hh6, by omega, fun e => by have := (HO.own_lt g6 e).2; omega, fun j hj => ?_⟩⟩
          rw [cell_of_row w6 g6 _ _ _ _ hh6]
          have e7 : (cur.toList.take ((l.length + 1) * 1))[j]? = (valsN l ++ [Value.int .i64 (K : Nat)])[j]? := by rw [h6]
          rw [hlen] at hj
          rw [List.getElem?_take_of_lt (by omega), Array.getElem?_toList] at e7
          rw [Nat.zero_add, e7]
          by_cases ej : j < l.length
          · rw [List.getElem?_append_left (by rw [valsN_len]; exact ej), List.getElem_append_left ej]
            simp [valsN, ej]
          · obtain rfl : j = l.length := by omega
            rw [List.getElem?_append_right (by rw [valsN_len]; exact Nat.le_refl _), List.getElem_append_right (Nat.le_refl _)]
            simp [valsN_len]
      have HR6 := Lib.hid hr6
      clear ho6 hr6 hown6 hown5 hown5a hg6 hb6
      refine (IH.out (l ++ [K]) _ A6 c6 (l.length + 1) v' w6 (by simp) (by have := HN.out; omega) (fun j hj => by
        rcases List.mem_append.1 hj with h | h
        · exact H8.out j h
        · simp at h; omega) (HO.below hx6) HR6.out HL1.out).mono ?_
      rintro e w7 ⟨rfl, v7, hO7, hK7⟩
      have HO7 := Lib.hid hO7
      have HK7 := Lib.hid ((hK.out.trans hK6).trans hK7)
      clear hO7 hK7 hK6 hx6 hx5
      go_wp2
      go_roundw
      case rel =>
        have ek := HKk.out
        subst ek
        refine ⟨k + 1, v7, by omega, by go_num, Lib.hid ?_, HK7⟩
        rw [lookK_succ, ← List.append_assoc]
        exact HO7.out
      case measure => have ek := HKk.out; simp [intOf]; omega
    · obtain rfl : k = f := by omega
      have hKf : ¬ (K : Int) ≤ (k : Int) := by omega
      have HKk := Lib.hid hKk
      clear hKk
      go_wp2
      exact bodyPost_end (v := .tuple #[]) (results_none rfl _ _ _) rfl ⟨rfl, v', hO1.out, hK.out⟩
theorem oiLook_any (s f a b : Nat) (hs : s ≤ 6) (hf : f ≤ 4) (ha : a ≤ s) (hb : b ≤ s) (g : Nat) : ∀ (t : Nat) (l : List Nat) (L : List (List Nat)) (A : Option Addr) (c n : Nat) (v : Value) (w : World), n = l.length → n + t ≤ 12 → (∀ k ∈ l, k ≤ 8) → OutR w g v L → RD w g v A c l → L.length + f ^ t ≤ 20000000 →
    Calls Try.prog 34 #[.int .i64 s, .int .i64 f, .int .i64 a, .int .i64 b, .int .i64 t, .slice A n c, .pointer (some ⟨g, 0, none⟩)] w fun e w' => e = .returned (.tuple #[]) ∧ ∃ v', OutR w' g v' (L ++ lookL s f a b t l) ∧ KeptO w w' g v v'
  | 0, l, L, A, c, n, v, w, hn, h12, h8, hO, hr, hL => oiLook_zero s f a b hs ha hb l L A c g n v w hn h8 hO hr (by simp at hL; omega)
  | t + 1, l, L, A, c, n, v, w, hn, h12, h8, hO, hr, hL => oiLook_succ s f a b t hf l L A c g n v w (by omega) hn (by omega) h8 hO hr hL
      (fun l' L' A' c' n' v' w' hn' h12' h8' hO' hr' hL' => oiLook_any s f a b hs hf ha hb g t l' L' A' c' n' v' w' hn' h12' h8' hO' hr' hL')
end Go.Proofs.Ytmiefdjbhcpnbaa

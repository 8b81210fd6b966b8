/- Several texts, one behind the other: WReg C6d. -/
import Derived.Deep.RegionHeld3
import Derived.Test.YtnohpclaccaijabZdab
import Derived.Test.YtnohpclaccaijabZdah
import Derived.Test.YtnohpclaccaijabZdae

namespace Go.Proofs.Ytnohpclaccaijab
open Go.RowKit

section
variable {P : Program} {ops : Array Oper} {Q : Exit → Act → World → Prop} {md : Region.Mode} {S : World → Prop} {fuel : Nat} {listed : Array Bool} {a : Act} {w : World} {i : Nat} {o : Oper} {rs : List Nat}
theorem wanted_plain {y : Nat → Option Bool} (hg : o.guard = none) : Region.wanted o y = true := by unfold Region.wanted; rw [hg]
/-- A whole struct is loaded. -/
theorem yields_load_row (hg : o.guard = none) (ty : TypeId) (x : Operand) (hop : o.op = .load ty x) (g : Nat) (hx : a.eval x = .pointer (some ⟨g, 0, none⟩)) (t : TypeId) (cs : Array Value) (fr : Nat × Nat) (d : TypeDesc)
    (hS : ∀ w, S w → w.heap[g]? = some (.cells cs t fr)) (hu : P.underlying ty = some d) (hd : (match d with | .struct _ | .array _ _ => true | _ => false) = true) (hi : (P.info? ty).map (·.size) = some cs.size) : YieldsIf P ops S o (.agg cs) a :=
  .inl ⟨wanted_plain hg, fun w hw => by
    unfold execOp
    simp only [hop, hx, Instr.loadAt, Instr.sureAddr, Sem.run_bind, Sem.run_pure, Result.andThen_ok, run_loadVar_row w g t ty cs fr d (hS w hw) hu hd hi]⟩
theorem yields_move (hg : o.guard = none) (x : Operand) (v : Value) (hop : o.op = .move x) (hx : a.eval x = v) : YieldsIf P ops S o v a :=
  .inl ⟨wanted_plain hg, fun w hw => by unfold execOp; simp [hop, hx]⟩
theorem yields_build (hg : o.guard = none) (t : TypeId) (l : List (Nat × Operand)) (ys : List (Nat × Value)) (v : Value) (hop : o.op = .build t l.toArray) (he : l.map (fun x => (x.1, a.eval x.2)) = ys) (hr : ∀ w, (Instr.build t ys.toArray).run P w = .ok v w) : YieldsIf P ops S o v a :=
  .inl ⟨wanted_plain hg, fun w hw => by
    have h := hr w
    rw [← he] at h
    unfold execOp
    simp only [hop, List.map_toArray]
    simp [h]⟩
end
end Go.Proofs.Ytnohpclaccaijab

namespace Go.Proofs.Ytnohpclaccaijab
open Go.RowKit Go.Maps

section
variable {P : Program} {ops : Array Oper} {Q : Exit → Act → World → Prop} {md : Region.Mode} {S : World → Prop} {fuel : Nat} {listed : Array Bool} {a : Act} {w : World} {i : Nat} {o : Oper} {rs : List Nat}
theorem rd_step (ho : ops[i]? = some o) (hg : o.guard = none)
    (h : ∀ K' : Act → World → Prop, (∀ a w, S w → wpAnyH P md ops Q S fuel (listed.setIfInBounds i true) a w → K' a w) → Oper.wp P o a w K' Q)
    (hs : AllReadyH P md ops Q S fuel listed a w rs) : AllReadyH P md ops Q S fuel listed a w (i :: rs) :=
  AllReadyH.cons ho (fun K hK => by rw [if_pos (wanted_plain hg)]; exact h K fun a w h1 h2 => hK.out a w h1 fun _ => h2) hs
/-- make(map[K]V) -/
theorem rd_makeMap (ho : ops[i]? = some o) (hg : o.guard = none) (t : TypeId) (hop : o.op = .makeMap t none)
    (h1 : S (w.alloc (.map #[] 0))) (h2 : wpAnyH P md ops Q S fuel (listed.setIfInBounds i true) (a.put o.dst (.map (some w.heap.size))) (w.alloc (.map #[] 0)))
    (hs : AllReadyH P md ops Q S fuel listed a w rs) : AllReadyH P md ops Q S fuel listed a w (i :: rs) :=
  rd_step ho hg (fun K hK => by
    have hr := @run_makeMap P
    unfold Oper.wp
    simp [execOp, hop, hr, Result.andThen]
    exact hK _ _ h1 h2) hs
/-- An entry of a map that is written out. -/
theorem rd_insert {K E : TypeId} (X : SpotKey P K) (ho : ops[i]? = some o) (hg : o.guard = none) (t : TypeId) (m x v : Operand) (hop : o.op = .insert t m x v)
    (ht : P.underlying t = some (.map K E)) (hE : P.underlying E = some (.int .i64)) (b : Nat) (c : Int → Bool → Int)
    (h : SM P K E w b c) (q : Int) (mt : Bool) (vx : Int) (hm : a.eval m = .map (some b)) (hx : a.eval x = spotV q mt) (hv : a.eval v = .int .i64 vx) (h0 : 0 ≤ q) (h1 : q ≤ 100) (hv0 : vx ≠ 0) (hwv : wfi vx = true)
    (hk : ∀ w', SM P K E w' b (updS c q mt vx) → w.grownBy w' (some b) → S w' ∧ wpAnyH P md ops Q S fuel (listed.setIfInBounds i true) (a.put o.dst undef) w')
    (hs : AllReadyH P md ops Q S fuel listed a w rs) : AllReadyH P md ops Q S fuel listed a w (i :: rs) :=
  rd_step ho hg (fun K hK => by
    obtain ⟨hc, D, hown, hD⟩ := h
    have hq : wfi q = true := wfi_of (by omega) (by omega)
    obtain ⟨w', hrun, hown1, hgrow1⟩ := hown.update X.law ht (by unfold maxLen; omega) (X.at_ (m := mt) hq) (plainElem_int hE hwv)
    have hr := hD.put X (m := mt) hq hv0
    have hk' := hk w' ⟨hc.upd h0 h1, _, own_tight X hown1 hr (hc.upd h0 h1), hr⟩ hgrow1
    unfold Oper.wp
    simp [execOp, hop, hm, hx, hv, hrun, Result.andThen]
    exact hK _ _ hk'.1 hk'.2) hs
/-- A whole struct is stored into a block of its own. -/
theorem rd_store_row (ho : ops[i]? = some o) (hgd : o.guard = none) (ty : TypeId) (x v : Operand) (hop : o.op = .store ty x v) (g : Nat) (hx : a.eval x = .pointer (some ⟨g, 0, none⟩)) (t : TypeId) (cur vs : Array Value)
    (hv : a.eval v = .agg vs) (hg : w.heap[g]? = some (.cells cur t (0, 0))) (hsz : vs.size = cur.size) (hi : (P.info? ty).map (·.size) = some vs.size) (h1 : ∀ u ∈ vs.toList, u.oneCell' = true)
    (h : ∀ w', w'.heap[g]? = some (.cells vs t (0, 0)) → w.grownBy w' (some g) → w'.heap.size = w.heap.size → S w' ∧ wpAnyH P md ops Q S fuel (listed.setIfInBounds i true) (a.put o.dst undef) w')
    (hs : AllReadyH P md ops Q S fuel listed a w rs) : AllReadyH P md ops Q S fuel listed a w (i :: rs) :=
  rd_step ho hgd (fun K hK => by
    have hst := run_storeCells_at (P := P) g 0 t vs.toList 0 cur w hg (by simp [hsz]) h1
    have hst' : (storeCells ⟨g, 0, none⟩ vs.toList 0).run P w = .ok () (w.setRow g vs) := by
      rw [hst]
      congr 2
      apply Array.ext'
      simp [hsz]
    have hk' := h _ (setRow_heap w g cur vs t (0, 0) hg) (grownBy_setRow w g vs) (by simp)
    cases hq : P.info? ty with
    | none => simp [hq] at hi
    | some i =>
      have hsz : i.size = vs.size := by simpa [hq] using hi
      unfold Oper.wp execOp
      simp only [hop, hx, hv, Instr.storeAt, Instr.sureAddr, storeVar, Value.cells, Sem.run_bind, Sem.run_pure, Result.andThen_ok]
      simp [sizeOf, typeInfo, hq, hsz, hst', Sem.run_bind, Result.andThen]
      exact hK _ _ hk'.1 hk'.2) hs
/-- delete(m, k) inside of a region that draws, in a loop over the map. -/
theorem step_delete {K E : TypeId} {b r : Nat} {c : Int → Bool → Int} {left : Int → Bool → Bool} {cnt : Nat} {Kk : Act → World → Prop} {y : Nat → Option Bool} (X : SpotKey P K) (hg : o.guard = none) (m x : Operand) (t : TypeId)
    (hop : o.op = Op.call { callee := Callee.builtin Builtin.delete, args := #[m, x], argTypes := #[t, K] })
    (ht : P.underlying t = some (.map K E)) (h : RS P K E w b r c left cnt) (hm : a.eval m = .map (some b)) (q : Int) (mt : Bool) (hx : a.eval x = spotV q mt) (hq : wfi q = true)
    (hk : ∀ w' cnt', RS P K E w' b r (updS c q mt 0) (strike left q mt) cnt' → cnt' ≤ cnt → w.grownBy w' (some b) → Kk (a.put o.dst (.tuple #[])) w') : if Region.wanted o y = true then Oper.wp P o a w Kk Q else Kk (a.put o.dst undef) w := by
  rw [if_pos (wanted_plain hg)]
  obtain ⟨hc, hl, D, l, hrg, hD, hll⟩ := h
  obtain ⟨w', cnt', hrun, hrg', hle, hturn⟩ := hrg.drop X.law ht (X.at_ (m := mt) hq) o.type
  have hk' := hk w' cnt' ⟨hc.zero q mt, fun i b hi hs => by
    by_cases e : i = q ∧ b = mt
    · obtain ⟨rfl, rfl⟩ := e
      rw [strike_same] at hs; cases hs
    · rw [strike_other (by by_cases e1 : i = q <;> simp_all)] at hs
      simp only [updS, e, if_false]
      exact hl i b hi hs, _, _, hrg', hD.del X hq, fun i b hi => by
    by_cases e : i = q ∧ b = mt
    · obtain ⟨rfl, rfl⟩ := e
      rw [strike_same, WideAt.sameKey_self (X.lit hq)]; simp
    · have hne := X.ne hi hq e
      rw [sameKey_ne hne, hll i b hi, strike_other (by by_cases e1 : i = q <;> simp_all)]; simp⟩ hle hturn.grown
  unfold Oper.wp
  simp [execOp, hop, resolve, invoke, builtin, hm, hx, hrun, Result.andThen]
  exact hk'

end

/-- The cells of a walk: a course, the watched square, how many lists there are, and two maps. -/
def wlkCells (s f o : Int) (G : Nat → Int) (wt al : Int) (l b : Option Nat) : Array Value := crsCells s f o G ++ #[.int .i64 wt, .int .i64 al, .map l, .map b]
section
variable (s f o : Int) (G : Nat → Int) (wt al : Int) (l b : Option Nat)
theorem wlk_size : (wlkCells s f o G wt al l b).size = 108 := by simp [wlkCells, crs_size]
theorem wlk_lt {i : Nat} (hi : i < 104) : (wlkCells s f o G wt al l b)[i]? = (crsCells s f o G)[i]? := by
  rw [wlkCells, Array.getElem?_append_left (by rw [crs_size]; exact hi)]
theorem wlk_104 : (wlkCells s f o G wt al l b)[104]? = some (.int .i64 wt) := by rw [wlkCells, Array.getElem?_append_right (by rw [crs_size]; omega), crs_size]; rfl
theorem wlk_105 : (wlkCells s f o G wt al l b)[105]? = some (.int .i64 al) := by rw [wlkCells, Array.getElem?_append_right (by rw [crs_size]; omega), crs_size]; rfl
theorem wlk_106 : (wlkCells s f o G wt al l b)[106]? = some (.map l) := by rw [wlkCells, Array.getElem?_append_right (by rw [crs_size]; omega), crs_size]; rfl
theorem wlk_107 : (wlkCells s f o G wt al l b)[107]? = some (.map b) := by rw [wlkCells, Array.getElem?_append_right (by rw [crs_size]; omega), crs_size]; rfl
theorem wlk_one : ∀ u ∈ (wlkCells s f o G wt al l b).toList, u.oneCell' = true := by
  intro u hu
  rw [wlkCells, Array.toList_append, List.mem_append] at hu
  rcases hu with hu | hu
  · exact crs_one _ _ _ _ u hu
  · simp at hu
    rcases hu with rfl | rfl | rfl | rfl <;> rfl
theorem wlk_all (v : Int) : (wlkCells s f o G wt al l b).setIfInBounds 105 (.int .i64 v) = wlkCells s f o G wt v l b := by
  rw [wlkCells, Array.setIfInBounds_append_right (by rw [crs_size]; omega), crs_size]; rfl
theorem wlk_l (l' : Option Nat) : (wlkCells s f o G wt al l b).setIfInBounds 106 (.map l') = wlkCells s f o G wt al l' b := by
  rw [wlkCells, Array.setIfInBounds_append_right (by rw [crs_size]; omega), crs_size]; rfl
theorem wlk_b (b' : Option Nat) : (wlkCells s f o G wt al l b).setIfInBounds 107 (.map b') = wlkCells s f o G wt al l b' := by
  rw [wlkCells, Array.setIfInBounds_append_right (by rw [crs_size]; omega), crs_size]; rfl
end
end Go.Proofs.Ytnohpclaccaijab

namespace Go.Proofs.Ytnohpclaccaijab
open Go.RowKit

/-- A function is entered by its value. -/
def EntersT (F : FuncId) : Prop := ∀ args w, (callFunc F args).run Try.prog w = .ok (.enter F args) w
/-- What is held of memory hangs on what is there alone. -/
def Stable (B : Nat) (J : List (List Nat) → World → Prop) : Prop := ∀ L W W', J L W → (∀ k, k < B → W'.heap[k]? = W.heap[k]?) → J L W'
def Tells (F : FuncId) (caps : Array Value) (R d f : Nat) (J : List (List Nat) → World → Prop) : Prop :=
  ∀ pre t post W, ups d f = pre ++ t :: post → J pre W → R < W.heap.size → Calls Try.prog F (#[.agg (thC (gt t)), .int .i64 (ordN t : Nat)] ++ caps) W fun e W' => e = .returned (.tuple #[]) ∧ J (pre ++ [t]) W' ∧ W.grownBy W' (some R)

theorem gt_reps (d a i : Nat) : gt (List.replicate d a) i = if i < d then a else 0 := by
  by_cases h : i < d
  · rw [if_pos h, gt_rep d a i h]
  · rw [if_neg h, gt_over _ _ (by simp; omega)]
set_option maxRecDepth 100000 in
set_option maxHeartbeats 2000000 in
theorem each_any (d f : Nat) (F : FuncId) (caps : Array Value) (R : Nat) (J : List (List Nat) → World → Prop) (w : World) (hd1 : 1 ≤ d) (hd : d ≤ 8) (hf1 : 1 ≤ f) (hf : f ≤ 12) (hE : EntersT F) (hS : Stable w.heap.size J) (hT : Tells F caps R d f J) (hR : R < w.heap.size) (h0 : J [] w) :
    Calls Try.prog 88 #[.agg #[.int .i64 d, .int .i64 f], .func (.func F) #[] caps] w fun e w' => e = .returned (.tuple #[]) ∧ J (ups d f) w' ∧ w.grownBy w' (some R) := by
  have HE := hE
  unfold EntersT at HE
  have HS := Lib.hid hS; have HT := Lib.hid hT
  clear hE hS hT
  have hB1 := below1 w (.cells #[.int .i64 d, .int .i64 f] 61)
  have kb1 : (w.alloc (.cells #[.int .i64 d, .int .i64 f] 61)).heap[w.heap.size]? = some (.cells #[.int .i64 d, .int .i64 f] 61 (0, 0)) := heap_alloc_at _ _ _ rfl
  have hz := zeroThr
  go_enter Try.func88, Try.ntmps88
  go_wp2_with fail
  refine (alike_any d f f _ hd).mono ?_
  rintro e w2 ⟨rfl, hx2⟩
  have hB2 := hB1.trans (hx2.mono (by simp))
  have kb2 := (hx2.block w.heap.size (by simp)).trans kb1
  have hz2 := heap_lt kb2
  have hC2 : TA (w2.alloc (.cells (thC (fun _ => 0)) 67)) w2.heap.size 67 (fun _ => 0) := heap_alloc_at _ _ _ rfl
  have hB2a := hB2.alloc hB2.size (.cells (thC (fun _ => 0)) 67)
  have kb2a := (Below.heap_alloc w2 (.cells (thC (fun _ => 0)) 67) _ hz2).trans kb2
  go_wp2_with (refine wpList_store_row rfl 67 (.tmp 4) (.tmp 9) rfl w2.heap.size rfl _ _ _ rfl hC2 ?_ ?_ (thC_one _) ?_; (rw [thC_size, thC_size]); (rw [thC_size]; exact sizeThr); intro w3 hL3 hg3 hs3; have qb3 := fun i => cell_of_row w3 w.heap.size i _ _ _ ((hg3.block w.heap.size (by simp; omega) (by simp; omega)).trans kb2a))
  have hB3 := hB2a.grown hg3 hB2a.size (fun k h => by cases h; exact hB2.size)
  have kb3 := (hg3.block w.heap.size (by simp; omega) (by simp; omega)).trans kb2a
  have hz3 : w2.heap.size < w3.heap.size := heap_lt hL3
  clear hC2 hx2 hB2a kb2a hg3 hs3
  refine (alike_any d f 1 _ hd).mono ?_
  rintro e w4 ⟨rfl, hx4⟩
  have hB4 := hB3.trans (hx4.mono hB3.size)
  have kb4 := (hx4.block w.heap.size (heap_lt kb3)).trans kb3
  have L4 : TA w4 w2.heap.size 67 (fun i => if i < d then f else 0) := (hx4.block _ hz3).trans hL3
  have hz4 : w3.heap.size ≤ w4.heap.size := hx4.size
  have hC4 : TA (w4.alloc (.cells (thC (fun _ => 0)) 67)) w4.heap.size 67 (fun _ => 0) := heap_alloc_at _ _ _ rfl
  have hB4a := hB4.alloc hB4.size (.cells (thC (fun _ => 0)) 67)
  have kb4a := (Below.heap_alloc w4 (.cells (thC (fun _ => 0)) 67) _ (heap_lt kb4)).trans kb4
  have L4a := L4.alloc (.cells (thC (fun _ => 0)) 67)
  clear hx4 qb3
  go_wp2_with (refine wpList_store_row rfl 67 (.tmp 5) (.tmp 11) rfl w4.heap.size rfl _ _ _ rfl hC4 ?_ ?_ (thC_one _) ?_; (rw [thC_size, thC_size]); (rw [thC_size]; exact sizeThr); intro w5 hT5 hg5 hs5)
  have hB5 := hB4a.grown hg5 hB4a.size (fun k h => by cases h; exact hB4.size)
  have kb5 := (hg5.block w.heap.size (by simp; have := heap_lt kb4; omega) (by simp; have := heap_lt kb4; omega)).trans kb4a
  have L5 := L4a.grown hg5 (by simp; omega)
  have hz5 : w4.heap.size < w5.heap.size := heap_lt hT5
  obtain ⟨gl, hgl⟩ : ∃ gl, gl = w2.heap.size := ⟨_, rfl⟩
  obtain ⟨g5, hg5e⟩ : ∃ g5, g5 = w4.heap.size := ⟨_, rfl⟩
  rw [← hgl] at L5 ⊢
  rw [← hg5e] at hT5 ⊢
  have hlo : w.heap.size < gl := by omega
  have hlo5 : gl < g5 := by omega
  have L5' : TA w5 gl 67 (gt (List.replicate d f)) := L5.congr (fun i _ => gt_reps d f i)
  have T5' : TA w5 g5 67 (gt (List.replicate d 1)) := TA.congr hT5 (fun i _ => gt_reps d 1 i)
  have J5 : J [] w5 := HS.out _ _ _ h0 (fun k hk => hB5.block k hk)
  clear hgl hg5e L5 L4a L4 hC4 hB4a kb4a hB4 kb4 hB3 kb3 hL3 hB2 kb2 hz2 hB1 kb1 hg5 hs5 hT5 hz3 hz4 hz5
  have hu := ups_pre d f hf1
  have HU := Lib.hid hu
  clear hu
  go_frame
  go_loopg [5] (ups d f).length (fun gh p wr => ∃ (pre post : List (List Nat)) (t : List Nat) (g : Nat), ups d f = pre ++ t :: post ∧ post.length + 1 = gh ∧ p = .pointer (some ⟨g, 0, none⟩) ∧ w.heap.size < g ∧ gl ≠ g ∧ TA wr g 67 (gt t) ∧ TA wr gl 67 (gt (List.replicate d f)) ∧ wr.heap[w.heap.size]? = some (.cells #[.int .i64 d, .int .i64 f] 61 (0, 0)) ∧ J pre wr ∧ w.grownBy wr (some R))
  case atStart =>
    obtain ⟨post, hp⟩ := HU.out
    exact ⟨[], post, _, g5, hp, by rw [hp]; rfl, rfl, by omega, by omega, T5', L5', kb5, J5, below_grown hB5 _⟩
  case round =>
    clear T5' L5' kb5 J5 hB5 hlo5 HU
    obtain ⟨pre, post, t, g, hsplit, hgh, rfl, hgw, hgg, hT, hL, kb, hJ, hG⟩ := hrel
    go_wp2_with fail
    have hG' := hG
    have hBw : R < wr.heap.size := Nat.lt_of_lt_of_le hR hG.size
    have hmem : t ∈ ups d f := by rw [hsplit]; simp
    have sizeCup : (Try.prog.info? 61).map (·.size) = some 2 := by kernel_rfl
    refine wp_region_held_drew (S := (fun w' => TA w' g 67 (gt t) ∧ w'.heap[w.heap.size]? = some (.cells #[.int .i64 d, .int .i64 f] 61 (0, 0)))) (by kernel_rfl) ⟨hT, kb⟩ (fun hS => ?_)
    refine wpAnyH_take (i := 1) (oi := ⟨some 16, _, _, _, _, _⟩) rfl (by kernel_rfl) (by kernel_rfl) (by kernel_rfl) (fun _ _ _ h => h) (yields_load_row rfl 67 (.tmp 5) rfl g rfl _ _ _ _ (fun _ h => h.1) Try.underlying67 rfl (by rw [thC_size]; exact sizeThr)) hS ?_
    try simp only [Act.put, List.setIfInBounds_toArray, List.set_cons_zero, List.set_cons_succ]
    refine wpAnyH_take (i := 2) (oi := ⟨some 17, _, _, _, _, _⟩) rfl (by kernel_rfl) (by kernel_rfl) (by kernel_rfl) (fun _ _ _ h => h) (yields_load_row rfl 61 (.tmp 2) rfl w.heap.size rfl _ _ _ _ (fun _ h => h.2) Try.underlying61 rfl sizeCup) hS ?_
    try simp only [Act.put, List.setIfInBounds_toArray, List.set_cons_zero, List.set_cons_succ]
    refine wpAnyH_take (i := 3) (oi := ⟨some 18, _, _, _, _, _⟩) rfl (by kernel_rfl) (by kernel_rfl) (by kernel_rfl) (fun _ _ _ h => h) (yields_load_row rfl 67 (.tmp 5) rfl g rfl _ _ _ _ (fun _ h => h.1) Try.underlying67 rfl (by rw [thC_size]; exact sizeThr)) hS ?_
    try simp only [Act.put, List.setIfInBounds_toArray, List.set_cons_zero, List.set_cons_succ]
    refine wpAnyH_take (i := 0) (oi := ⟨some 15, _, _, _, _, _⟩) (v := ?va1) rfl (by kernel_rfl) (by kernel_rfl) (by kernel_rfl) (fun _ _ _ h => h) (Or.inl ⟨by rfl, ?ha1⟩) hS ?ra1
    case ha1 => (intro w' hSw; (try dsimp only at hSw); go_simp; (try with_reducible rfl))
    try simp only [Act.put, List.setIfInBounds_toArray, List.set_cons_zero, List.set_cons_succ]
    refine wpAnyH_ready (rs := [4]) (by kernel_rfl) (by simp) ?_
    refine AllReadyH.cons (o := ⟨some 19, _, _, _, _, _⟩) rfl (fun K' hK' => ?_) AllReadyH.nil
    go_simp
    go_at_call 97
    refine (orders_any d f t _ hd hf hmem).mono ?_
    rintro e w6 ⟨rfl, hx6⟩
    have hx6 : Below wr.heap.size wr w6 := ((Below.refl wr.heap.size wr).drew).trans hx6
    have hT1 := hT.below hx6 hT.lt
    have kb1 := (hx6.block _ (heap_lt kb)).trans kb
    refine hK'.out _ _ ⟨hT1, kb1⟩ (fun _ => ?_)
    clear hK' K'
    try simp only [Act.put, List.setIfInBounds_toArray, List.set_cons_zero, List.set_cons_succ]
    refine wpAnyH_ready (rs := [5]) (by kernel_rfl) (by simp) ?_
    refine AllReadyH.cons (o := ⟨some 20, _, _, _, _, _⟩) rfl (fun K' hK' => ?_) AllReadyH.nil
    go_simp
    refine (HT.out pre t post _ hsplit (HS.out _ _ _ hJ (fun k hk => hx6.block k (Nat.lt_of_lt_of_le hk hG.size))) (Nat.lt_of_lt_of_le hBw hx6.size)).mono ?_
    rintro e w7 ⟨rfl, hJ7, hg7⟩
    have hT2 := hT1.grown hg7 (by simp; omega)
    have kb2 := (hg7.block _ (heap_lt kb1) (by simp; omega)).trans kb1
    refine hK'.out _ _ ⟨hT2, kb2⟩ (fun _ => ?_)
    clear hK' K'
    try simp only [Act.put, List.setIfInBounds_toArray, List.set_cons_zero, List.set_cons_succ]
    refine wpAnyH_done (by kernel_rfl) ?_ _
    have hG7 : w.grownBy w7 (some R) := grown_trans (grown_trans hG (below_grown hx6 _)) hg7
    have hL7 := (hL.below hx6 hL.lt).grown hg7 (by simp; omega)
    have hz7 : wr.heap.size ≤ w7.heap.size := Nat.le_trans hx6.size hg7.size
    have hgl := hL.lt
    rcases ups_next d f hf1 pre post t hsplit with ⟨rfl, rfl⟩ | ⟨hne, y, post', rfl, hnx⟩
    · have heq := eq_throws (gt (List.replicate d f)) (gt (List.replicate d f))
      rw [thEq_yes (fun _ => rfl)] at heq
      rw [← hsplit] at hJ7
      go_wp2_with (first | (refine wpList_load_row rfl 67 (.tmp 5) rfl g rfl _ _ _ _ hT2 Try.underlying67 rfl ?_ ?_; (rw [thC_size]; exact sizeThr)) | (refine wpList_load_row rfl 67 (.tmp 4) rfl gl rfl _ _ _ _ hL7 Try.underlying67 rfl ?_ ?_; (rw [thC_size]; exact sizeThr)))
      exact bodyPost_ret (results_none rfl _ _ _) rfl ⟨rfl, hJ7, hG7⟩
    · have hdif : ∃ i, i < 8 ∧ gt t i ≠ gt (List.replicate d f) i := by
        refine Classical.byContradiction fun hno => hne (gt_ext (by rw [ups_len d f t hmem]; simp) fun i hi => ?_)
        rw [List.length_replicate] at hi
        exact Classical.byContradiction fun hn => hno ⟨i, by omega, hn⟩
      obtain ⟨i0, hi0, hd0⟩ := hdif
      have heq := eq_throws (gt t) (gt (List.replicate d f))
      rw [thEq_no hi0 hd0] at heq
      have hC7 : TA (w7.alloc (.cells (thC (fun _ => 0)) 67)) w7.heap.size 67 (fun _ => 0) := heap_alloc_at _ _ _ rfl
      have kb7 := (Below.heap_alloc w7 (.cells (thC (fun _ => 0)) 67) _ (heap_lt kb2)).trans kb2
      have hL8 := hL7.alloc (.cells (thC (fun _ => 0)) 67)
      have hG8 : w.grownBy (w7.alloc (.cells (thC (fun _ => 0)) 67)) (some R) := grown_trans hG7 (below_grown (below1 _ _) _)
      have hsz := hG.size
      clear hne hi0 hd0 hT1 kb1 hJ hG hG' hL hT kb
      go_wp2_with (first | (refine wpList_load_row rfl 67 (.tmp 5) rfl g rfl _ _ _ _ hT2 Try.underlying67 rfl ?_ ?_; (rw [thC_size]; exact sizeThr)) | (refine wpList_load_row rfl 67 (.tmp 4) rfl gl rfl _ _ _ _ hL7 Try.underlying67 rfl ?_ ?_; (rw [thC_size]; exact sizeThr)) | (refine wpList_store_row rfl 67 (.tmp 5) (.tmp 24) rfl w7.heap.size rfl _ _ _ rfl hC7 ?_ ?_ (thC_one _) ?_; (rw [thC_size, thC_size]); (rw [thC_size]; exact sizeThr); intro w8 hT8 hg8 hs8; have qb8 := fun i => cell_of_row w8 w.heap.size i _ _ _ ((hg8.block _ (by simp; omega) (by simp; omega)).trans kb7)) | (refine wpList_load_row rfl 67 (.tmp 5) rfl w7.heap.size rfl _ _ _ _ (by assumption) Try.underlying67 rfl ?_ ?_; (rw [thC_size]; exact sizeThr)))
      refine (throwNext_any d f t y _ hd1 hd hf hmem hnx).mono ?_
      rintro e w9 ⟨rfl, hx9⟩
      have T8 : TA w8 w7.heap.size 67 (gt t) := hT8
      have T9 := T8.below hx9 T8.lt
      have kb9 := (hx9.block _ (heap_lt ((hg8.block w.heap.size (by simp; omega) (by simp; omega)).trans kb7))).trans ((hg8.block w.heap.size (by simp; omega) (by simp; omega)).trans kb7)
      have L9 := (hL8.grown hg8 (by simp; omega)).below hx9 (hL8.grown hg8 (by simp; omega)).lt
      have G9 : w.grownBy w9 (some R) := by
        refine ⟨hx9.os.trans (hg8.os.trans hG8.os), hx9.tape.trans (hg8.tape.trans hG8.tape), hx9.output.trans (hg8.output.trans hG8.output), ?_, fun k hk hne => ?_⟩
        · have := hx9.size; have := hG8.size; omega
        · rw [hx9.block k (by have := hG8.size; omega), hg8.block k (by have := hG8.size; omega) (by simp; omega), hG8.block k hk hne]
      have J9 : J (pre ++ [t]) w9 := HS.out _ _ _ hJ7 (fun k hk => by rw [hx9.block k (by simp at hs8; omega), hg8.block k (by simp; omega) (by simp; omega), Below.heap_alloc _ _ _ (by omega)])
      have hz9 := T9.lt
      have hzz := hx9.size
      have hl : (y :: post').length = post'.length + 1 := rfl
      go_wp2_with (refine wpList_store_row rfl 67 (.tmp 5) (.tmp 14) rfl w7.heap.size rfl _ _ _ rfl T9 ?_ ?_ (thC_one _) ?_; (rw [thC_size, thC_size]); (rw [thC_size]; exact sizeThr); intro wa hTa hga hsa)
      go_roundg (post'.length + 1)
      case rel =>
        refine ⟨pre ++ [t], post', y, w7.heap.size, by rw [hsplit]; simp, rfl, rfl, by omega, by omega, hTa, L9.grown hga (by simp; omega), (hga.block _ (heap_lt kb9) (by simp; omega)).trans kb9, HS.out _ _ _ J9 ?_, ?_⟩
        · intro k hk
          exact hga.block k (by omega) (by simp; omega)
        · refine ⟨hga.os.trans G9.os, hga.tape.trans G9.tape, hga.output.trans G9.output, Nat.le_trans G9.size hga.size, fun k hk hne => ?_⟩
          rw [hga.block k (by omega) (by simp; omega), G9.block k hk hne]
      case measure => omega
end Go.Proofs.Ytnohpclaccaijab

/- Several texts, one behind the other: WReg. -/
import Derived.Deep.RegionHeld3
import Derived.Test.YtmiefdjbhcpnbaaZPCad
import Derived.Test.YtmiefdjbhcpnbaaZPCal

namespace Go.Proofs.Ytmiefdjbhcpnbaa
open Go.RowKit

section
variable {P : Program} {ops : Array Oper} {Q : Exit → Act → World → Prop} {md : Region.Mode} {S : World → Prop} {fuel : Nat} {listed : Array Bool} {a : Act} {w : World} {i : Nat} {o : Oper} {rs : List Nat}
theorem wanted_plain {y : Nat → Option Bool} (hg : o.guard = none) : Region.wanted o y = true := by unfold Region.wanted; rw [hg]
/-- A whole struct is loaded. -/
theorem yields_load_row (hg : o.guard = none) (ty : TypeId) (x : Operand) (hop : o.op = .load ty x) (g : Nat) (hx : a.eval x = .pointer (some ⟨g, 0, none⟩)) (t : TypeId) (cs : Array Value) (fr : Nat × Nat) (d : TypeDesc)
    (hS : ∀ w, S w → w.heap[g]? = some (.cells cs t fr)) (hu : P.underlying ty = some d) (hd : (match d with | .struct _ | .array _ _ => true | _ => false) = true) (hi : (P.info? ty).map (·.size) = some cs.size) : YieldsIf P ops S o (.agg cs) a :=
  .inl ⟨wanted_plain hg, fun w hw => by
    unfold execOp
    simp only [hop, hx, Instr.loadAt, Instr.sureAddr, Sem.run_bind, Sem.run_pure, Result.andThen_ok, run_loadVar_row w g t ty cs fr d (hS w hw) hu hd hi]⟩
theorem yields_move (hg : o.guard = none) (x : Operand) (v : Value) (hop : o.op = .move x) (hx : a.eval x = v) : YieldsIf P ops S o v a :=
  .inl ⟨wanted_plain hg, fun w hw => by unfold execOp; simp [hop, hx]⟩
theorem yields_build (hg : o.guard = none) (t : TypeId) (l : List (Nat × Operand)) (ys : List (Nat × Value)) (v : Value) (hop : o.op = .build t l.toArray) (he : l.map (fun x => (x.1, a.eval x.2)) = ys) (hr : ∀ w, (Instr.build t ys.toArray).run P w = .ok v w) : YieldsIf P ops S o v a :=
  .inl ⟨wanted_plain hg, fun w hw => by
    have h := hr w
    rw [← he] at h
    unfold execOp
    simp only [hop, List.map_toArray]
    simp [h]⟩
end
end Go.Proofs.Ytmiefdjbhcpnbaa

namespace Go.Proofs.Ytmiefdjbhcpnbaa
open Go.RowKit Go.Maps

section
variable {P : Program} {ops : Array Oper} {Q : Exit → Act → World → Prop} {md : Region.Mode} {S : World → Prop} {fuel : Nat} {listed : Array Bool} {a : Act} {w : World} {i : Nat} {o : Oper} {rs : List Nat}
theorem rd_step (ho : ops[i]? = some o) (hg : o.guard = none)
    (h : ∀ K' : Act → World → Prop, (∀ a w, S w → wpAnyH P md ops Q S fuel (listed.setIfInBounds i true) a w → K' a w) → Oper.wp P o a w K' Q)
    (hs : AllReadyH P md ops Q S fuel listed a w rs) : AllReadyH P md ops Q S fuel listed a w (i :: rs) :=
  AllReadyH.cons ho (fun K hK => by rw [if_pos (wanted_plain hg)]; exact h K fun a w h1 h2 => hK.out a w h1 fun _ => h2) hs
/-- make(map[K]V) -/
theorem rd_makeMap (ho : ops[i]? = some o) (hg : o.guard = none) (t : TypeId) (hop : o.op = .makeMap t none)
    (h1 : S (w.alloc (.map #[] 0))) (h2 : wpAnyH P md ops Q S fuel (listed.setIfInBounds i true) (a.put o.dst (.map (some w.heap.size))) (w.alloc (.map #[] 0)))
    (hs : AllReadyH P md ops Q S fuel listed a w rs) : AllReadyH P md ops Q S fuel listed a w (i :: rs) :=
  rd_step ho hg (fun K hK => by
    have hr := @run_makeMap P
    unfold Oper.wp
    simp [execOp, hop, hr, Result.andThen]
    exact hK _ _ h1 h2) hs
/-- An entry of a map that is written out. -/
theorem rd_insert {K E : TypeId} (X : SpotKey P K) (ho : ops[i]? = some o) (hg : o.guard = none) (t : TypeId) (m x v : Operand) (hop : o.op = .insert t m x v)
    (ht : P.underlying t = some (.map K E)) (hE : P.underlying E = some (.int .i64)) (b : Nat) (c : Int → Bool → Int)
    (h : SM P K E w b c) (q : Int) (mt : Bool) (vx : Int) (hm : a.eval m = .map (some b)) (hx : a.eval x = spotV q mt) (hv : a.eval v = .int .i64 vx) (h0 : 0 ≤ q) (h1 : q ≤ 100) (hv0 : vx ≠ 0) (hwv : wfi vx = true)
    (hk : ∀ w', SM P K E w' b (updS c q mt vx) → w.grownBy w' (some b) → S w' ∧ wpAnyH P md ops Q S fuel (listed.setIfInBounds i true) (a.put o.dst undef) w')
    (hs : AllReadyH P md ops Q S fuel listed a w rs) : AllReadyH P md ops Q S fuel listed a w (i :: rs) :=
  rd_step ho hg (fun K hK => by
    obtain ⟨hc, D, hown, hD⟩ := h
    have hq : wfi q = true := wfi_of (by omega) (by omega)
    obtain ⟨w', hrun, hown1, hgrow1⟩ := hown.update X.law ht (by unfold maxLen; omega) (X.at_ (m := mt) hq) (plainElem_int hE hwv)
    have hr := hD.put X (m := mt) hq hv0
    have hk' := hk w' ⟨hc.upd h0 h1, _, own_tight X hown1 hr (hc.upd h0 h1), hr⟩ hgrow1
    unfold Oper.wp
    simp [execOp, hop, hm, hx, hv, hrun, Result.andThen]
    exact hK _ _ hk'.1 hk'.2) hs
/-- A whole struct is stored into a block of its own. -/
theorem rd_store_row (ho : ops[i]? = some o) (hgd : o.guard = none) (ty : TypeId) (x v : Operand) (hop : o.op = .store ty x v) (g : Nat) (hx : a.eval x = .pointer (some ⟨g, 0, none⟩)) (t : TypeId) (cur vs : Array Value)
    (hv : a.eval v = .agg vs) (hg : w.heap[g]? = some (.cells cur t (0, 0))) (hsz : vs.size = cur.size) (hi : (P.info? ty).map (·.size) = some vs.size) (h1 : ∀ u ∈ vs.toList, u.oneCell' = true)
    (h : ∀ w', w'.heap[g]? = some (.cells vs t (0, 0)) → w.grownBy w' (some g) → w'.heap.size = w.heap.size → S w' ∧ wpAnyH P md ops Q S fuel (listed.setIfInBounds i true) (a.put o.dst undef) w')
    (hs : AllReadyH P md ops Q S fuel listed a w rs) : AllReadyH P md ops Q S fuel listed a w (i :: rs) :=
  rd_step ho hgd (fun K hK => by
    have hst := run_storeCells_at (P := P) g 0 t vs.toList 0 cur w hg (by simp [hsz]) h1
    have hst' : (storeCells ⟨g, 0, none⟩ vs.toList 0).run P w = .ok () (w.setRow g vs) := by
      rw [hst]
      congr 2
      apply Array.ext'
      simp [hsz]
    have hk' := h _ (setRow_heap w g cur vs t (0, 0) hg) (grownBy_setRow w g vs) (by simp)
    cases hq : P.info? ty with
    | none => simp [hq] at hi
    | some i =>
      have hsz : i.size = vs.size := by simpa [hq] using hi
      unfold Oper.wp execOp
      simp only [hop, hx, hv, Instr.storeAt, Instr.sureAddr, storeVar, Value.cells, Sem.run_bind, Sem.run_pure, Result.andThen_ok]
      simp [sizeOf, typeInfo, hq, hsz, hst', Sem.run_bind, Result.andThen]
      exact hK _ _ hk'.1 hk'.2) hs
/-- delete(m, k) inside of a region that draws, in a loop over the map. -/
theorem step_delete {K E : TypeId} {b r : Nat} {c : Int → Bool → Int} {left : Int → Bool → Bool} {cnt : Nat} {Kk : Act → World → Prop} {y : Nat → Option Bool} (X : SpotKey P K) (hg : o.guard = none) (m x : Operand) (t : TypeId)
    (hop : o.op = Op.call { callee := Callee.builtin Builtin.delete, args := #[m, x], argTypes := #[t, K] })
    (ht : P.underlying t = some (.map K E)) (h : RS P K E w b r c left cnt) (hm : a.eval m = .map (some b)) (q : Int) (mt : Bool) (hx : a.eval x = spotV q mt) (hq : wfi q = true)
    (hk : ∀ w' cnt', RS P K E w' b r (updS c q mt 0) (strike left q mt) cnt' → cnt' ≤ cnt → w.grownBy w' (some b) → Kk (a.put o.dst (.tuple #[])) w') : if Region.wanted o y = true then Oper.wp P o a w Kk Q else Kk (a.put o.dst undef) w := by
  rw [if_pos (wanted_plain hg)]
  obtain ⟨hc, hl, D, l, hrg, hD, hll⟩ := h
  obtain ⟨w', cnt', hrun, hrg', hle, hturn⟩ := hrg.drop X.law ht (X.at_ (m := mt) hq) o.type
  have hk' := hk w' cnt' ⟨hc.zero q mt, fun i b hi hs => by
    by_cases e : i = q ∧ b = mt
    · obtain ⟨rfl, rfl⟩ := e
      rw [strike_same] at hs; cases hs
    · rw [strike_other (by by_cases e1 : i = q <;> simp_all)] at hs
      simp only [updS, e, if_false]
      exact hl i b hi hs, _, _, hrg', hD.del X hq, fun i b hi => by
    by_cases e : i = q ∧ b = mt
    · obtain ⟨rfl, rfl⟩ := e
      rw [strike_same, WideAt.sameKey_self (X.lit hq)]; simp
    · have hne := X.ne hi hq e
      rw [sameKey_ne hne, hll i b hi, strike_other (by by_cases e1 : i = q <;> simp_all)]; simp⟩ hle hturn.grown
  unfold Oper.wp
  simp [execOp, hop, resolve, invoke, builtin, hm, hx, hrun, Result.andThen]
  exact hk'

end

/-- The cells of a walk: a course, the watched square, how many lists there are, and two maps. -/
def wlkCells (s f o : Int) (G : Nat → Int) (wt al : Int) (l b : Option Nat) : Array Value := crsCells s f o G ++ #[.int .i64 wt, .int .i64 al, .map l, .map b]
section
variable (s f o : Int) (G : Nat → Int) (wt al : Int) (l b : Option Nat)
theorem wlk_size : (wlkCells s f o G wt al l b).size = 108 := by simp [wlkCells, crs_size]
theorem wlk_lt {i : Nat} (hi : i < 104) : (wlkCells s f o G wt al l b)[i]? = (crsCells s f o G)[i]? := by
  rw [wlkCells, Array.getElem?_append_left (by rw [crs_size]; exact hi)]
theorem wlk_104 : (wlkCells s f o G wt al l b)[104]? = some (.int .i64 wt) := by rw [wlkCells, Array.getElem?_append_right (by rw [crs_size]; omega), crs_size]; rfl
theorem wlk_105 : (wlkCells s f o G wt al l b)[105]? = some (.int .i64 al) := by rw [wlkCells, Array.getElem?_append_right (by rw [crs_size]; omega), crs_size]; rfl
theorem wlk_106 : (wlkCells s f o G wt al l b)[106]? = some (.map l) := by rw [wlkCells, Array.getElem?_append_right (by rw [crs_size]; omega), crs_size]; rfl
theorem wlk_107 : (wlkCells s f o G wt al l b)[107]? = some (.map b) := by rw [wlkCells, Array.getElem?_append_right (by rw [crs_size]; omega), crs_size]; rfl
theorem wlk_one : ∀ u ∈ (wlkCells s f o G wt al l b).toList, u.oneCell' = true := by
  intro u hu
  rw [wlkCells, Array.toList_append, List.mem_append] at hu
  rcases hu with hu | hu
  · exact crs_one _ _ _ _ u hu
  · simp at hu
    rcases hu with rfl | rfl | rfl | rfl <;> rfl
theorem wlk_all (v : Int) : (wlkCells s f o G wt al l b).setIfInBounds 105 (.int .i64 v) = wlkCells s f o G wt v l b := by
  rw [wlkCells, Array.setIfInBounds_append_right (by rw [crs_size]; omega), crs_size]; rfl
theorem wlk_l (l' : Option Nat) : (wlkCells s f o G wt al l b).setIfInBounds 106 (.map l') = wlkCells s f o G wt al l' b := by
  rw [wlkCells, Array.setIfInBounds_append_right (by rw [crs_size]; omega), crs_size]; rfl
theorem wlk_b (b' : Option Nat) : (wlkCells s f o G wt al l b).setIfInBounds 107 (.map b') = wlkCells s f o G wt al l b' := by
  rw [wlkCells, Array.setIfInBounds_append_right (by rw [crs_size]; omega), crs_size]; rfl
end
end Go.Proofs.Ytmiefdjbhcpnbaa

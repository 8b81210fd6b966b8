/-
  A walk for one goroutine that communicates with itself: over a channel with room, by a select with a default. It speaks of frames of ordinary calls alone. Over any program.
-/
import Derived.Test.YtmhffdgfkgdmlaaWBig
import Derived.Conc.LoneCalls
import Derived.Conc.LoneSelect
import Derived.Calls
namespace Go.Proofs.Ytmhffdgfkgdmlaa
open Go.RowKit Go.Conc

theorem setChan_apart (w : World) {c c' : Nat} (cap : Nat) (buf : Array Value) (cl : Bool) (s r : Nat) (tm : Bool) (h : c ≠ c') : (w.setChan c cap buf cl s r tm).heap[c']? = w.heap[c']? := by
  simp [World.setChan, h]

/-- What a piece of code comes to, in the frame of an ordinary call. -/
def CodeN (P : Program) (c : Code) (Q : Exit → Act → World → Prop) (a : Act) (w : World) : Prop :=
  ∀ (b : Frame) (k : List Item) (cs : List Frame), b.kind = .normal → ∃ e a' w', Q e a' w' ∧ Arrives P (lone (b.at a (.code c :: k)) cs w) b k cs e a' w'
section
variable {P : Program} {Q Q' : Exit → Act → World → Prop} {a : Act} {w : World}
theorem CodeN.of {c : Code} (h : c.wp P Q a w) : CodeN P c Q a w := fun b k cs _ => h b k cs
theorem CodeN.mono {c : Code} (h : CodeN P c Q a w) (hq : ∀ e a w, Q e a w → Q' e a w) : CodeN P c Q' a w :=
  fun b k cs hb => let ⟨e, a', w', q, r⟩ := h b k cs hb; ⟨e, a', w', hq _ _ _ q, r⟩
theorem CodeN.seq {x y : Code} (h : CodeN P x (Exit.then (CodeN P y Q) Q) a w) : CodeN P (.seq x y) Q a w := by
  intro b k cs hb
  obtain ⟨e, a₁, w₁, hq, harr⟩ := h b (.code y :: k) cs hb
  by_cases hn : e = .normal
  · subst hn
    obtain ⟨e₂, a₂, w₂, hq₂, harr₂⟩ := hq b k cs hb
    exact ⟨e₂, a₂, w₂, hq₂, .of_steps (.head step_seq harr) harr₂⟩
  · have hq' : Q e a₁ w₁ := by cases e <;> first | exact hq | exact absurd rfl hn
    exact ⟨e, a₁, w₁, hq', .of_steps (.one step_seq) (.pass (x := .code y) rfl (fun _ _ => .inl hn) harr)⟩
/-- A first piece, walked as ever: K is what follows; of the rest only a return is told. -/
theorem CodeN.first {x y : Code} (h : ∀ (K : Act → World → Prop) (Q0 : Exit → Act → World → Prop), (∀ a w, CodeN P y Q a w → K a w) → (∀ a w, Q .ret a w → Q0 .ret a w) → x.wp P (Exit.then K Q0) a w) : CodeN P (.seq x y) Q a w :=
  CodeN.seq (CodeN.of (h _ _ (fun _ _ h => h) (fun _ _ h => h)))
theorem CodeN.last {x : Code} (h : ∀ (K : Act → World → Prop) (Q0 : Exit → Act → World → Prop), (∀ a w, Q .normal a w → K a w) → (∀ a w, Q .ret a w → Q0 .ret a w) → x.wp P (Exit.then K Q0) a w) : CodeN P x Q a w :=
  CodeN.of (wp_mono (h (fun a w => Q .normal a w) Q (fun _ _ h => h) (fun _ _ h => h)) fun e a w hq => by cases e <;> exact hq)
theorem CodeN.cond {c : Operand} {x y : Code} {t : Bool} (hc : a.eval c = .bool t) (h : CodeN P (if t then x else y) Q a w) : CodeN P (.cond c x y) Q a w :=
  fun b k cs hb => let ⟨e, a', w', q, r⟩ := h b k cs hb; ⟨e, a', w', q, .of_steps (.one (step_cond hc)) r⟩
theorem CodeN.condT {c : Operand} {x y : Code} (hc : a.eval c = .bool true) (h : CodeN P x Q a w) : CodeN P (.cond c x y) Q a w := CodeN.cond hc h
theorem CodeN.condF {c : Operand} {x y : Code} (hc : a.eval c = .bool false) (h : CodeN P y Q a w) : CodeN P (.cond c x y) Q a w := CodeN.cond hc h
/-- A first piece that is met by what R tells. -/
theorem CodeN.mid {x y : Code} (R : Act → World → Prop) (h : ∀ (K : Act → World → Prop), (∀ a w, R a w → K a w) → x.wp P (Exit.then K (fun _ _ _ => False)) a w) (h2 : ∀ a w, R a w → CodeN P y Q a w) : CodeN P (.seq x y) Q a w :=
  CodeN.seq (CodeN.of (wp_mono (h (CodeN P y Q) h2) fun e a w hq => by cases e <;> first | exact hq | exact False.elim hq))
theorem CodeN.skip (h : Q .normal a w) : CodeN P .skip Q a w := CodeN.of (wp_skip h)
theorem CodeN.exit {id : Nat} (h : Q (.exit id) a w) : CodeN P (.exit id) Q a w := CodeN.of (wp_exit h)
theorem CodeN.ret (h : Q .ret a w) : CodeN P .ret Q a w := CodeN.of (wp_ret h)
theorem CodeN.block {id : Nat} {c : Code} (h : CodeN P c (Exit.inBlock id Q) a w) : CodeN P (.block id c) Q a w := by
  intro b k cs hb
  obtain ⟨e, a₁, w₁, hq, harr⟩ := h b (.inBlock id :: k) cs hb
  cases e with
  | normal => exact ⟨.normal, a₁, w₁, hq, .head step_block (Steps.trans harr (.one step_inBlock))⟩
  | exit id' =>
    by_cases hid : id' = id
    · simp only [Exit.inBlock, hid, if_true] at hq
      exact ⟨.normal, a₁, w₁, hq, .head step_block (harr k (by simp [exitTo, hid]))⟩
    · simp only [Exit.inBlock, hid, if_false] at hq
      refine ⟨.exit id', a₁, w₁, hq, fun k' hk => .head step_block (harr k' ?_)⟩
      have : (id == id') = false := by simpa using fun h : id = id' => hid h.symm
      simp [exitTo, this, hk]
  | goto l => exact ⟨_, a₁, w₁, hq, fun k' hk => .head step_block (harr k' (by simp [gotoIn, hk]))⟩
  | ret => exact ⟨_, a₁, w₁, hq, .of_steps (.one step_block) harr⟩
  | panic ch => exact ⟨_, a₁, w₁, hq, .of_steps (.one step_block) harr⟩
  | outgrown => exact ⟨_, a₁, w₁, hq, .of_steps (b := b) (k := k) (cs := cs) (e := .outgrown) (.one step_block) harr⟩
/-- A loop: so many rounds are left at most. -/
theorem CodeN.loop {c : Code} (I : Nat → Act → World → Prop) (round : ∀ n a w, I n a w → CodeN P c (Exit.then (fun a' w' => ∃ m, m < n ∧ I m a' w') Q) a w) {n : Nat} (h₀ : I n a w) : CodeN P (.loop c) Q a w := by
  intro b k cs hb
  have key : ∀ n a w, I n a w → ∃ e a' w', Q e a' w' ∧ Arrives P (lone (b.at a (.code c :: .inLoop c :: k)) cs w) b k cs e a' w' := by
    intro n
    induction n using Nat.strongRecOn with
    | _ n ih =>
      intro a w hI
      obtain ⟨e, a₁, w₁, hq, harr⟩ := round n a w hI b (.inLoop c :: k) cs hb
      by_cases hn : e = .normal
      · subst hn
        obtain ⟨m, hm, hI₁⟩ := hq
        obtain ⟨e₂, a₂, w₂, hq₂, harr₂⟩ := ih m hm a₁ w₁ hI₁
        exact ⟨e₂, a₂, w₂, hq₂, .of_steps (Steps.trans harr (.one step_inLoop)) harr₂⟩
      · have hq' : Q e a₁ w₁ := by cases e <;> first | exact hq | exact absurd rfl hn
        exact ⟨e, a₁, w₁, hq', .pass (x := .inLoop c) rfl (fun _ _ => .inl hn) harr⟩
  obtain ⟨e, a', w', hq, harr⟩ := key n a w h₀
  exact ⟨e, a', w', hq, .of_steps (.one step_loop) harr⟩
theorem calls_of_codeN {f : FuncId} {fn : Func} {c : Code} {args : Array Value} {w : World} {R : Ending → World → Prop} (hf : P.funcs[f]? = some fn) (hb : fn.body = some c) (hno : ∀ w, ¬ R .outgrown w)
    (h : CodeN P c (bodyPost P fn R) { tmps := args ++ Array.replicate (fn.ntmps - args.size) undef, defers := [] } w) : Calls P f args w R := by
  intro cs
  let b : Frame := { (default : Frame) with fn := f, kind := .normal }
  have henter : Frame.enter P f args .normal = b.at { tmps := args ++ Array.replicate (fn.ntmps - args.size) undef, defers := [] } [.code c] := by
    simp [Frame.enter, Frame.at, hf, hb, b]
  obtain ⟨e, a', w', hq, harr⟩ := h b [] cs rfl
  rw [← henter] at harr
  cases e with
  | normal =>
    obtain ⟨hd, v, hr, hR⟩ := hq
    exact ⟨.returned v, w', _, hR, Steps.trans harr (.one step_end), rfl, rfl, hd, rfl, fn, hf, hr⟩
  | ret =>
    obtain ⟨hd, v, hr, hR⟩ := hq
    obtain ⟨todo, hs⟩ := harr
    exact ⟨.returned v, w', _, hR, hs, rfl, rfl, hd, rfl, fn, hf, hr⟩
  | panic chain =>
    obtain ⟨hd, hR⟩ := hq
    obtain ⟨todo, hs⟩ := harr
    exact ⟨.panicked chain, w', _, hR, hs, rfl, rfl, hd, fn, hf⟩
  | exit id => exact hq.elim
  | goto l => exact hq.elim
  | outgrown => exact absurd hq (hno _)

variable {b : Frame} {k : List Item} {cs : List Frame} {ops : Array Oper} {i : Nat} {rest : List Nat} {o : Oper}
theorem step_value {v : Value} {w' : World} (ho : ops[i]? = some o) (hw : Region.wanted o (yielded ops a.tmps) = true) (hr : (execOp a.eval o).run P w = .ok (.value v) w') :
    step P (lone (b.at a (.inRegion ops (i :: rest) :: k)) cs w) = .next (lone (b.at (a.put o.dst v) (.inRegion ops rest :: k)) cs w') := by
  have hg := stepG_op (P := P) (b := b) (k := k) (cs := cs) (w := w) (rest := rest) ho hw
  have hfin : (b.at a (.inRegion ops (i :: rest) :: k)).finish v = b.at (a.put o.dst v) (.inRegion ops rest :: k) := by rw [Frame.finish_at, ho]; rfl
  refine step_lone_go ?_
  rw [hg, ← hfin]
  simp [stepG.apply, hr]
variable {c cap s r : Nat} {buf : Array Value} {tm closed : Bool} {v z : Value}
theorem step_send (ho : ops[i]? = some o) (hw : Region.wanted o (yielded ops a.tmps) = true) (hk : b.kind = .normal) (hr : (execOp a.eval o).run P w = .ok (.comm #[scase c v z] true .send) w) (hc : w.heap[c]? = some (.chan cap buf false s r tm)) (hroom : buf.size < cap) :
    step P (lone (b.at a (.inRegion ops (i :: rest) :: k)) cs w) = .next (lone (b.at (a.put o.dst undef) (.inRegion ops rest :: k)) cs (w.setChan c cap (buf.push v) false (s + 1) r tm)) := by
  have h := step_lone_send_room (stepG_comm (main := true) (k := k) (cs := cs) (rest := rest) ho hw (by rw [hk]; decide) hr) hc hroom
  rw [Frame.finish_at, ho] at h
  exact h
theorem step_select_some (ho : ops[i]? = some o) (hw : Region.wanted o (yielded ops a.tmps) = true) (hk : b.kind = .normal) (hr : (execOp a.eval o).run P w = .ok (.comm #[rcase c z] false .select) w) (hc : w.heap[c]? = some (.chan cap buf closed s r tm)) (hsome : 0 < buf.size) :
    step P (lone (b.at a (.inRegion ops (i :: rest) :: k)) cs w) = .next (lone (b.at (a.put o.dst (.tuple #[goInt 0, .bool true, buf.getD 0 undef])) (.inRegion ops rest :: k)) cs (w.setChan c cap (buf.extract 1 buf.size) closed s (r + 1) tm)) := by
  have h := step_lone_select_recv_buf (stepG_comm (main := true) (k := k) (cs := cs) (rest := rest) ho hw (by rw [hk]; decide) hr) hc hsome
  rw [Frame.finish_at, ho] at h
  exact h
theorem step_select_none (ho : ops[i]? = some o) (hw : Region.wanted o (yielded ops a.tmps) = true) (hk : b.kind = .normal) (hr : (execOp a.eval o).run P w = .ok (.comm #[rcase c z] false .select) w) (hc : w.heap[c]? = some (.chan cap #[] false s r tm)) :
    step P (lone (b.at a (.inRegion ops (i :: rest) :: k)) cs w) = .next (lone (b.at (a.put o.dst (.tuple #[goInt (-1), .bool false, z])) (.inRegion ops rest :: k)) cs w) := by
  have h := step_lone_select_default (stepG_comm (main := true) (k := k) (cs := cs) (rest := rest) ho hw (by rw [hk]; decide) hr) hc
  rw [Frame.finish_at, ho] at h
  exact h
/-- A region of three operations: two values, then a send into a channel with room. -/
theorem CodeN.send {id : Nat} {o1 o2 o3 : Oper} {v1 v2 : Value} (g1 : o1.guard = none) (g2 : o2.guard = none) (g3 : o3.guard = none)
    (h1 : (execOp a.eval o1).run P w = .ok (.value v1) w) (h2 : (execOp (a.put o1.dst v1).eval o2).run P w = .ok (.value v2) w) (h3 : (execOp ((a.put o1.dst v1).put o2.dst v2).eval o3).run P w = .ok (.comm #[scase c v z] true .send) w)
    (hc : w.heap[c]? = some (.chan cap buf false s r tm)) (hroom : buf.size < cap) (h : Q .normal (((a.put o1.dst v1).put o2.dst v2).put o3.dst undef) (w.setChan c cap (buf.push v) false (s + 1) r tm)) :
    CodeN P (.region id #[o1, o2, o3] false) Q a w := by
  intro b k cs hb
  refine ⟨.normal, _, _, h, ?_⟩
  have w1 : ∀ t, Region.wanted o1 t = true := fun t => by simp [Region.wanted, g1]
  have w2 : ∀ t, Region.wanted o2 t = true := fun t => by simp [Region.wanted, g2]
  have w3 : ∀ t, Region.wanted o3 t = true := fun t => by simp [Region.wanted, g3]
  exact .head step_region (.head (step_value (i := 0) (rest := [1, 2]) rfl (w1 _) h1) (.head (step_value (i := 1) (rest := [2]) rfl (w2 _) h2) (.head (step_send (i := 2) (rest := []) rfl (w3 _) hb h3 hc hroom) (.one step_region_end))))
/-- A region of three operations: a select of one receive with a default, then two values. -/
theorem CodeN.selectSome {id : Nat} {o1 o2 o3 : Oper} {v2 v3 : Value} (g1 : o1.guard = none) (g2 : o2.guard = none) (g3 : o3.guard = none)
    (h1 : (execOp a.eval o1).run P w = .ok (.comm #[rcase c z] false .select) w) (hc : w.heap[c]? = some (.chan cap buf closed s r tm)) (hsome : 0 < buf.size)
    (h2 : ∀ w, (execOp (a.put o1.dst (.tuple #[goInt 0, .bool true, buf.getD 0 undef])).eval o2).run P w = .ok (.value v2) w)
    (h3 : ∀ w, (execOp ((a.put o1.dst (.tuple #[goInt 0, .bool true, buf.getD 0 undef])).put o2.dst v2).eval o3).run P w = .ok (.value v3) w)
    (h : Q .normal (((a.put o1.dst (.tuple #[goInt 0, .bool true, buf.getD 0 undef])).put o2.dst v2).put o3.dst v3) (w.setChan c cap (buf.extract 1 buf.size) closed s (r + 1) tm)) :
    CodeN P (.region id #[o1, o2, o3] false) Q a w := by
  intro b k cs hb
  refine ⟨.normal, _, _, h, ?_⟩
  have w1 : ∀ t, Region.wanted o1 t = true := fun t => by simp [Region.wanted, g1]
  have w2 : ∀ t, Region.wanted o2 t = true := fun t => by simp [Region.wanted, g2]
  have w3 : ∀ t, Region.wanted o3 t = true := fun t => by simp [Region.wanted, g3]
  exact .head step_region (.head (step_select_some (i := 0) (rest := [1, 2]) rfl (w1 _) hb h1 hc hsome) (.head (step_value (i := 1) (rest := [2]) rfl (w2 _) (h2 _)) (.head (step_value (i := 2) (rest := []) rfl (w3 _) (h3 _)) (.one step_region_end))))
theorem CodeN.selectNone {id : Nat} {o1 o2 o3 : Oper} {v2 v3 : Value} (g1 : o1.guard = none) (g2 : o2.guard = none) (g3 : o3.guard = none)
    (h1 : (execOp a.eval o1).run P w = .ok (.comm #[rcase c z] false .select) w) (hc : w.heap[c]? = some (.chan cap #[] false s r tm))
    (h2 : ∀ w, (execOp (a.put o1.dst (.tuple #[goInt (-1), .bool false, z])).eval o2).run P w = .ok (.value v2) w)
    (h3 : ∀ w, (execOp ((a.put o1.dst (.tuple #[goInt (-1), .bool false, z])).put o2.dst v2).eval o3).run P w = .ok (.value v3) w)
    (h : Q .normal (((a.put o1.dst (.tuple #[goInt (-1), .bool false, z])).put o2.dst v2).put o3.dst v3) w) :
    CodeN P (.region id #[o1, o2, o3] false) Q a w := by
  intro b k cs hb
  refine ⟨.normal, _, _, h, ?_⟩
  have w1 : ∀ t, Region.wanted o1 t = true := fun t => by simp [Region.wanted, g1]
  have w2 : ∀ t, Region.wanted o2 t = true := fun t => by simp [Region.wanted, g2]
  have w3 : ∀ t, Region.wanted o3 t = true := fun t => by simp [Region.wanted, g3]
  exact .head step_region (.head (step_select_none (i := 0) (rest := [1, 2]) rfl (w1 _) hb h1 hc) (.head (step_value (i := 1) (rest := [2]) rfl (w2 _) (h2 _)) (.head (step_value (i := 2) (rest := []) rfl (w3 _) (h3 _)) (.one step_region_end))))
end
end Go.Proofs.Ytmhffdgfkgdmlaa

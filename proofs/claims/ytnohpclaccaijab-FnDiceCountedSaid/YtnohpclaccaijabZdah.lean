/- Several texts, one behind the other: WSpot. -/
import Derived.Maps.RangeWalk
import Derived.DeepKeys4
import Derived.WideKeyEntry
import Derived.Test.YtnohpclaccaijabZdaf
import Derived.Test.YtnohpclaccaijabZdaa
import Derived.Test.YtnohpclaccaijabZdag

namespace Go.Proofs.Ytnohpclaccaijab
open Go.RowKit Go.Maps Go.MapKept
open Go.WideElems (Fit rd rg pl rd_key rd_val rg_of)

def spotV (q : Int) (m : Bool) : Value := .agg #[.int .i64 q, .bool m]
theorem spotV_inj {q q' : Int} {m m' : Bool} (h : spotV q m = spotV q' m') : q = q' ∧ m = m' := by
  simp [spotV] at h; exact h
/-- Spots are keys of type K. -/
structure SpotKey (P : Program) (K : TypeId) : Prop where
  kl : WideMaps.KeyLaw P K
  law : Keyed P K
  key : ∀ q m, wfi q = true → ∃ l, keyOf P K (spotV q m) = some l
  inv : ∀ v l, keyOf P K v = some l → ∃ q m, v = spotV q m ∧ wfi q = true
/-- What a spot reads as. -/
def KL (P : Program) (K : TypeId) (q : Int) (m : Bool) : Lit := (keyOf P K (spotV q m)).getD (.bool false)

section
variable {P : Program} {K E : TypeId}
theorem SpotKey.at_ (S : SpotKey P K) {q : Int} {m : Bool} (h : wfi q = true) : keyOf P K (spotV q m) = some (KL P K q m) := by
  obtain ⟨l, hl⟩ := S.key q m h
  rw [KL, hl]; rfl
theorem SpotKey.ne (S : SpotKey P K) {q q' : Int} {m m' : Bool} (h : wfi q = true) (h' : wfi q' = true) (hne : ¬ (q = q' ∧ m = m')) : KL P K q m ≠ KL P K q' m' := fun e =>
  hne (spotV_inj (S.law.inj (S.at_ h) (e ▸ S.at_ h')))
theorem SpotKey.lit (S : SpotKey P K) {q : Int} {m : Bool} (h : wfi q = true) : WideAt.IsKeyLit (KL P K q m) := S.law.key (S.at_ h)

/-- A list without repeats inside of another one is no longer. -/
theorem pigeon {α : Type} : ∀ (l u : List α), l.Pairwise (· ≠ ·) → (∀ x ∈ l, x ∈ u) → l.length ≤ u.length
  | [], u, _, _ => by simp
  | x :: l, u, hp, hs => by
    obtain ⟨h1, h2⟩ := List.pairwise_cons.1 hp
    obtain ⟨a, b, rfl⟩ := List.append_of_mem (hs x (by simp))
    have := pigeon l (a ++ b) h2 fun y hy => by
      have hy' := hs y (by simp [hy])
      simp only [List.mem_append, List.mem_cons] at hy' ⊢
      rcases hy' with h | h | h
      · exact .inl h
      · exact absurd h.symm (h1 y hy)
      · exact .inr h
    simp at this ⊢; omega

/-- D reads as c. -/
def Reads (P : Program) (K : TypeId) (D : DataW Unit) (c : Int → Bool → Int) : Prop :=
  IsMap D ∧ ∀ q m, wfi q = true → Maps.has D (KL P K q m) = (c q m != 0) ∧ D.atKey (KL P K q m) (.lit (.int .i64 0)) = .lit (.int .i64 (c q m))
def inS (c : Int → Bool → Int) : Prop := ∀ q m, c q m ≠ 0 → 0 ≤ q ∧ q ≤ 100
theorem inS.wf {c : Int → Bool → Int} (h : inS c) {q : Int} {m : Bool} (hc : c q m ≠ 0) : wfi q = true := by have := h q m hc; exact wfi_of (by omega) (by omega)

theorem own_tight (S : SpotKey P K) {R : Value → Option (DataW Unit × List MemPlace)} {w : World} {b n : Nat} {D : DataW Unit} {c : Int → Bool → Int} (h : w.ownsMap P K R b n D) (hr : Reads P K D c) (hc : inS c) : w.ownsMap P K R b 202 D := by
  obtain ⟨es, clock, hb, F, hs, rfl⟩ := h
  refine ⟨es, clock, hb, F, ?_, rfl⟩
  have hp := Maps.fit_apart S.law F
  have hp' : ((es.toList.map (rg P K R)).map (·.1)).Pairwise (· ≠ ·) := by rw [List.pairwise_map]; exact hp
  have := pigeon _ ((List.range 101).flatMap fun (i : Nat) => [KL P K i false, KL P K i true]) hp' fun l hl => by
    simp only [List.mem_map] at hl
    obtain ⟨_, ⟨x, hx, rfl⟩, rfl⟩ := hl
    obtain ⟨y, hy⟩ := F.reads x hx
    have hk := rd_key hy
    have hhas : Maps.has (DataW.map ((es.toList.map (rg P K R)).foldr DataW.insert [])) (rg P K R x).1 = true :=
      List.any_eq_true.2 ⟨rg P K R x, mem_sorted.2 (List.mem_map.2 ⟨x, hx, rfl⟩), WideAt.sameKey_self (by rw [rg_of hy]; exact S.law.key hk)⟩
    rw [rg_of hy] at hhas ⊢
    obtain ⟨q, m, hv, hw⟩ := S.inv _ _ hk
    rw [hv, S.at_ hw] at hk
    injection hk with hk
    rw [← hk, (hr.2 q m hw).1] at hhas
    have hin := hc q m (by simpa using hhas)
    rw [← hk]
    obtain ⟨k, rfl⟩ := Int.eq_ofNat_of_zero_le hin.1
    exact List.mem_flatMap.2 ⟨k, by simp; omega, by cases m <;> simp⟩
  rw [List.length_flatMap] at this
  have e : ((List.range 101).map (fun (_ : Nat) => 0 + 1 + 1)).sum = 202 := by decide
  simp only [List.length_map, Array.length_toList, List.length_cons, List.length_nil] at this
  omega

/-- Block b is a map that reads as c. -/
def SM (P : Program) (K E : TypeId) (w : World) (b : Nat) (c : Int → Bool → Int) : Prop := inS c ∧ ∃ D : DataW Unit, w.ownsMap P K (plainElem P E) b 202 D ∧ Reads P K D c
/-- .. and block r is a loop over it, with some spots left. -/
def RS (P : Program) (K E : TypeId) (w : World) (b r : Nat) (c : Int → Bool → Int) (left : Int → Bool → Bool) (cnt : Nat) : Prop :=
  inS c ∧ (∀ q m, wfi q = true → left q m = true → c q m ≠ 0) ∧ ∃ (D : DataW Unit) (l : Lit → Bool), w.ranges P K (plainElem P E) b r 202 D l cnt ∧ Reads P K D c ∧ ∀ q m, wfi q = true → l (KL P K q m) = left q m
def updS (c : Int → Bool → Int) (q : Int) (m : Bool) (v : Int) : Int → Bool → Int := fun i b => if i = q ∧ b = m then v else c i b

variable {w w' : World} {b r : Nat} {c : Int → Bool → Int} {left : Int → Bool → Bool} {cnt : Nat}
theorem SM.made (P : Program) (K E : TypeId) (w : World) : SM P K E (w.alloc (.map #[] 0)) w.heap.size (fun _ _ => 0) :=
  ⟨fun _ _ h => absurd rfl h, .map [], (World.ownsMap_made _ _ _ _).mono (by omega), isMap_empty, fun q m _ => ⟨rfl, rfl⟩⟩
theorem SM.lt (h : SM P K E w b c) : b < w.heap.size := by obtain ⟨_, D, h, _⟩ := h; exact h.lt
theorem SM.kept {row : Option Nat} (h : SM P K E w b c) (hg : w.grownBy w' row) (hne : some b ≠ row) : SM P K E w' b c := by
  obtain ⟨hc, D, h, r⟩ := h; exact ⟨hc, D, h.kept hg hne, r⟩
theorem SM.keep (h : SM P K E w b c) (hb : w'.heap[b]? = w.heap[b]?) : SM P K E w' b c := by
  obtain ⟨hc, D, ⟨es, clock, hh, r⟩, r'⟩ := h; exact ⟨hc, D, ⟨es, clock, hb.trans hh, r⟩, r'⟩
theorem SM.alloc (h : SM P K E w b c) (o : Obj) : SM P K E (w.alloc o) b c := by
  obtain ⟨hc, D, h, r⟩ := h; exact ⟨hc, D, h.alloc o, r⟩
theorem SM.below {B : Nat} (h : SM P K E w b c) (hb : Below B w w') (hB : b < B) : SM P K E w' b c := h.keep (hb.block b hB)
theorem SM.congr {c' : Int → Bool → Int} (h : SM P K E w b c) (he : ∀ q m, c q m = c' q m) : SM P K E w b c' := by
  rw [show c' = c from funext fun q => funext fun m => (he q m).symm]; exact h
theorem RS.lt (h : RS P K E w b r c left cnt) : b < w.heap.size ∧ r < w.heap.size := by obtain ⟨_, _, D, l, h, _⟩ := h; exact ⟨h.owns.lt, h.lt⟩
theorem RS.ne (h : RS P K E w b r c left cnt) : r ≠ b := by obtain ⟨_, _, D, l, h, _⟩ := h; exact h.ne
theorem RS.kept {row : Option Nat} (h : RS P K E w b r c left cnt) (hg : w.grownBy w' row) (hb : some b ≠ row) (hr : some r ≠ row) : RS P K E w' b r c left cnt := by
  obtain ⟨hc, hl, D, l, h, r⟩ := h; exact ⟨hc, hl, D, l, h.kept hg hb hr, r⟩
theorem RS.keep (h : RS P K E w b r c left cnt) (hb : w'.heap[b]? = w.heap[b]?) (hr : w'.heap[r]? = w.heap[r]?) : RS P K E w' b r c left cnt := by
  obtain ⟨hc, hl, D, l, ⟨es, clock, since, seen, c0, h1, h2, h3, h4, h5, h6⟩, r⟩ := h
  exact ⟨hc, hl, D, l, ⟨es, clock, since, seen, c0, hb.trans h1, h2, h3, h4, hr.trans h5, h6⟩, r⟩
theorem RS.alloc (h : RS P K E w b r c left cnt) (o : Obj) : RS P K E (w.alloc o) b r c left cnt := by
  obtain ⟨hc, hl, D, l, h, r⟩ := h; exact ⟨hc, hl, D, l, h.alloc o, r⟩
theorem RS.below {B : Nat} (h : RS P K E w b r c left cnt) (hb : Below B w w') (h1 : b < B) (h2 : r < B) : RS P K E w' b r c left cnt := h.keep (hb.block b h1) (hb.block r h2)
theorem RS.congr {c' : Int → Bool → Int} (h : RS P K E w b r c left cnt) (he : ∀ q m, c q m = c' q m) : RS P K E w b r c' left cnt := by
  rw [show c' = c from funext fun q => funext fun m => (he q m).symm]; exact h
theorem RS.owns (h : RS P K E w b r c left cnt) : SM P K E w b c := by
  obtain ⟨hc, hl, D, l, h, hr, _⟩ := h; exact ⟨hc, D, h.owns, hr⟩
theorem RS.left_eq (h : RS P K E w b r c left cnt) : w.rangeLeft b r = cnt := by obtain ⟨_, _, D, l, h, _⟩ := h; exact h.left_eq

theorem Reads.put (S : SpotKey P K) {D : DataW Unit} (h : Reads P K D c) {q : Int} {m : Bool} {v : Int} (hq : wfi q = true) (hv : v ≠ 0) : Reads P K (D.put (KL P K q m) (.lit (.int .i64 v))) (updS c q m v) := by
  refine ⟨h.1.put _ _, fun i b hi => ?_⟩
  by_cases e : i = q ∧ b = m
  · obtain ⟨rfl, rfl⟩ := e
    refine ⟨by rw [has_put_same h.1 (S.lit hq)]; simp [updS, hv], by rw [atKey_put_same h.1 (S.lit hq)]; simp [updS]⟩
  · have hne := S.ne hi hq e
    rw [has_put_other hne, atKey_put_other hne]
    simp only [updS, e, if_false]
    exact h.2 i b hi
theorem Reads.del (S : SpotKey P K) {D : DataW Unit} (h : Reads P K D c) {q : Int} {m : Bool} (hq : wfi q = true) : Reads P K (D.del (KL P K q m)) (updS c q m 0) := by
  refine ⟨h.1.del _, fun i b hi => ?_⟩
  by_cases e : i = q ∧ b = m
  · obtain ⟨rfl, rfl⟩ := e
    refine ⟨by rw [has_del_same]; simp [updS], by rw [atKey_del_same]; simp [updS]⟩
  · have hne := S.ne hi hq e
    rw [has_del_other hne, atKey_del_other hne]
    simp only [updS, e, if_false]
    exact h.2 i b hi
theorem inS.upd (h : inS c) {q : Int} {m : Bool} {v : Int} (h0 : 0 ≤ q) (h1 : q ≤ 100) : inS (updS c q m v) := fun i b hne => by
  unfold updS at hne
  split at hne
  · rename_i e; rw [e.1]; exact ⟨h0, h1⟩
  · exact h i b hne
theorem inS.zero (h : inS c) (q : Int) (m : Bool) : inS (updS c q m 0) := fun i b hne => by
  unfold updS at hne
  split at hne
  · exact absurd rfl hne
  · exact h i b hne

variable {ops : Array Oper} {rest : List Oper} {o : Oper} {a : Act} {Q : Exit → Act → World → Prop}
/-- A spot, as one thing: so that a walk does not take the Bool apart. -/
structure Sp where
  q : Int
  m : Bool
/-- Nothing is left. -/
def LeftNone (left : Int → Bool → Bool) : Prop := ∀ q m, wfi q = true → left q m = false
/-- m[k] -/
theorem SM.look (S : SpotKey P K) (hg : o.guard = none) (m x : Operand) (t : TypeId) (hop : o.op = Op.lookup t m x false)
    (ht : P.underlying t = some (.map K E)) (hE : P.underlying E = some (.int .i64)) (hz : (zeroValue E).run P w = .ok (.int .i64 0) w)
    (h : SM P K E w b c) (q : Int) (mt : Bool) (hm : a.eval m = .map (some b)) (hx : a.eval x = spotV q mt) (hq : wfi q = true)
    (hk : wpList P ops Q rest (a.put o.dst (.int .i64 (c q mt))) w) : wpList P ops Q (o :: rest) a w := by
  obtain ⟨hc, D, hown, hD, hf⟩ := h
  refine wpList_lookup_own_int _ hg m x t hop K E .i64 S.law ht hE hz b 202 D hm hown _ _ hx (S.at_ hq) ?_
  intro v hat hwc
  rw [(hf q mt hq).2] at hat
  injection hat with hat; injection hat with _ hat
  rw [← hat]; exact hk
/-- m[k] = v -/
theorem SM.store (S : SpotKey P K) (hg : o.guard = none) (m x v : Operand) (t : TypeId) (hop : o.op = Op.mapUpdate t m x v)
    (ht : P.underlying t = some (.map K E)) (hE : P.underlying E = some (.int .i64))
    (h : SM P K E w b c) (q : Int) (mt : Bool) (vx : Int) (hm : a.eval m = .map (some b)) (hx : a.eval x = spotV q mt) (hv : a.eval v = .int .i64 vx) (h0 : 0 ≤ q) (h1 : q ≤ 100) (hv0 : vx ≠ 0) (hwv : wfi vx = true)
    (hk : ∀ w', SM P K E w' b (updS c q mt vx) → w.grownBy w' (some b) → wpList P ops Q rest (a.put o.dst undef) w') : wpList P ops Q (o :: rest) a w := by
  obtain ⟨hc, D, hown, hD⟩ := h
  have hq : wfi q = true := wfi_of (by omega) (by omega)
  refine wpList_mapUpdate_own _ hg m x v t hop K E S.law ht _ b 202 D hm hown (by unfold maxLen; omega) _ _ _ hx hv (S.at_ hq) _ [] (plainElem_int hE hwv) ?_
  intro w1 hown1 hgrow1
  have hr := hD.put S (m := mt) hq hv0
  exact hk w1 ⟨hc.upd h0 h1, _, own_tight S hown1 hr (hc.upd h0 h1), hr⟩ hgrow1
/-- range m -/
theorem SM.range (S : SpotKey P K) (hg : o.guard = none) (m : Operand) (t : TypeId) (hop : o.op = Op.range t m) (ht : P.underlying t = some (.map K E))
    (h : SM P K E w b c) (hm : a.eval m = .map (some b))
    (hk : ∀ w' cnt, RS P K E w' b w.heap.size c (fun q m => c q m != 0) cnt → w.grownBy w' none → w'.heap.size = w.heap.size + 1 → wpList P ops Q rest (a.put o.dst (.pointer (some ⟨w.heap.size, 0, none⟩))) w') :
    wpList P ops Q (o :: rest) a w := by
  obtain ⟨hc, D, hown, hD⟩ := h
  refine wpList_range_own _ hg m t hop K E S.law ht _ b 202 D hm hown ?_
  intro w' h1 h2 h3
  exact hk w' _ ⟨hc, fun q m _ hl => by simpa using hl, D, _, h1, hD, fun q m hq => (hD.2 q m hq).1⟩ h2 h3
/-- The loop's step. -/
theorem RS.next (S : SpotKey P K) (hg : o.guard = none) (it : Operand) (hop : o.op = Op.next it false) (hE : P.underlying E = some (.int .i64))
    (h : RS P K E w b r c left cnt) (hit : a.eval it = .pointer (some ⟨r, 0, none⟩))
    (hDone : LeftNone left → wpList P ops Q rest (a.put o.dst (.tuple #[.bool false])) w)
    (hMore : ∀ (x : Sp) (w' : World) (cnt' : Nat), left x.q x.m = true → c x.q x.m ≠ 0 → 0 ≤ x.q → x.q ≤ 100 → RS P K E w' b r c (strike left x.q x.m) cnt' → cnt' < cnt → w.grownBy w' (some r) → w'.heap.size = w.heap.size →
      (Instr.entry (.pointer (some ⟨r, 0, none⟩))).run P w' = .ok (.tuple #[spotV x.q x.m, .int .i64 (c x.q x.m)]) w' → wpList P ops Q rest (a.put o.dst (.tuple #[.bool true, spotV x.q x.m, .int .i64 (c x.q x.m)])) w') :
    wpList P ops Q (o :: rest) a w := by
  obtain ⟨hc, hl, D, l, hrg, hD, hll⟩ := h
  refine wpList_next_ranges _ hg it hop K S.law (plainElem P E) (fun p : Int × Bool => spotV p.1 p.2) (Value.int .i64) (fun v kl hv => ?_) (fun v y hv => ?_) b r 202 D l cnt hit hrg ?_ ?_
  · obtain ⟨q, m, e, _⟩ := S.inv v kl hv; exact ⟨(q, m), e⟩
  · obtain ⟨n, e, _⟩ := plainElem_int_inv hE hv; exact ⟨n, e⟩
  · intro _ h0
    exact hDone fun q m hq => by rw [← hll q m hq]; exact h0 _
  · rintro ⟨q, m⟩ v kl y w' cnt' hkey hlk hR hat hrg' hlt hgr hsz hen
    obtain ⟨q', m', e, hq⟩ := S.inv _ _ hkey
    obtain ⟨rfl, rfl⟩ := spotV_inj e
    rw [S.at_ hq] at hkey
    injection hkey with hkey
    subst hkey
    have hlq : left q m = true := by rw [← hll q m hq]; exact hlk
    have hcq := hl q m hq hlq
    obtain ⟨n, e1, e2, _⟩ := plainElem_int_inv hE hR
    injection e1 with _ e1
    subst e1
    have hat0 := hat (.lit (.int .i64 0))
    rw [(hD.2 q m hq).2, e2] at hat0
    injection hat0 with hat0; injection hat0 with _ hat0
    have hin := hc q m hcq
    rw [← hat0] at hen ⊢
    refine hMore ⟨q, m⟩ w' cnt' hlq hcq hin.1 hin.2 ⟨hc, fun i b hi hs => ?_, D, _, hrg', hD, fun i b hi => ?_⟩ hlt hgr hsz hen
    · refine hl i b hi ?_
      unfold strike at hs
      rw [Bool.and_eq_true] at hs
      exact hs.1
    · by_cases e : i = q ∧ b = m
      · obtain ⟨rfl, rfl⟩ := e
        rw [strike_same, WideAt.sameKey_self (S.lit hq)]; simp
      · have hne := S.ne hi hq e
        rw [sameKey_ne hne, hll i b hi, strike_other (by by_cases e1 : i = q <;> simp_all)]; simp
/-- delete(m, k) in the round. -/
theorem RS.delete (S : SpotKey P K) (hg : o.guard = none) (m x : Operand) (t : TypeId) (hop : o.op = Op.call { callee := Callee.builtin Builtin.delete, args := #[m, x], argTypes := #[t, K] })
    (ht : P.underlying t = some (.map K E)) (h : RS P K E w b r c left cnt) (hm : a.eval m = .map (some b)) (q : Int) (mt : Bool) (hx : a.eval x = spotV q mt) (hq : wfi q = true)
    (hk : ∀ w' cnt', RS P K E w' b r (updS c q mt 0) (strike left q mt) cnt' → cnt' ≤ cnt → w.mapTurned w' b → wpList P ops Q rest (a.put o.dst (.tuple #[])) w') : wpList P ops Q (o :: rest) a w := by
  obtain ⟨hc, hl, D, l, hrg, hD, hll⟩ := h
  refine wpList_delete_ranges _ hg m x t K hop E S.law ht _ b r 202 D l cnt hm hrg _ _ hx (S.at_ hq) ?_
  intro w' cnt' hrg' hle hturn
  refine hk w' cnt' ⟨hc.zero q mt, fun i b hi hs => ?_, _, _, hrg', hD.del S hq, fun i b hi => ?_⟩ hle hturn
  · by_cases e : i = q ∧ b = mt
    · obtain ⟨rfl, rfl⟩ := e
      rw [strike_same] at hs; cases hs
    · rw [strike_other (by by_cases e1 : i = q <;> simp_all)] at hs
      simp only [updS, e, if_false]
      exact hl i b hi hs
  · by_cases e : i = q ∧ b = mt
    · obtain ⟨rfl, rfl⟩ := e
      rw [strike_same, WideAt.sameKey_self (S.lit hq)]; simp
    · have hne := S.ne hi hq e
      rw [sameKey_ne hne, hll i b hi, strike_other (by by_cases e1 : i = q <;> simp_all)]; simp
/-- m[k] op= v, ahead of its store: the entry is there behind it, and reads as before; the store is that of m[k] = v. -/
theorem entry_is_update {t : TypeId} (L : WideMaps.KeyLaw P K) (ht : P.underlying t = some (.map K E)) (hz : ∀ u : World, (zeroValue E).run P u = .ok (.int .i64 0) u) {R : Value → Option (DataW Unit × List MemPlace)} {n : Nat} {D : DataW Unit}
    (h : w.ownsMap P K R b n D) {key : Value} {kl : Lit} (hkey : keyOf P K key = some kl) :
    ∃ v0 st w1, (Instr.mapEntry t (.map (some b)) key).run P w = .ok (.tuple #[v0, goInt st]) w1 ∧ (Instr.lookup t (.map (some b)) key false).run P w = .ok v0 w ∧ (Instr.mapUpdate t (.map (some b)) key v0).run P w = .ok () w1 ∧
      ∀ v, ∃ w2, (Instr.entryStore t (.map (some b)) (goInt st) v).run P w1 = .ok () w2 ∧ (Instr.mapUpdate t (.map (some b)) key v).run P w = .ok () w2 := by
  obtain ⟨es, clock, hb, F, _, _⟩ := h
  obtain ⟨v0, st, es1, clock1, h1, _, h3⟩ := WideElems.entry_then_store L ht hz hb F hkey
  have hb1 : (ChangeMaps.setBlock w b (.map es1 clock1)).heap[b]? = some (.map es1 clock1) := ChangeMaps.heap_setBlock_same hb _
  have hdd : ∀ o o', ChangeMaps.setBlock (ChangeMaps.setBlock w b o) b o' = ChangeMaps.setBlock w b o' := fun o o' => by
    simp [ChangeMaps.setBlock]
  refine ⟨v0, st, _, h1, and_assoc.1 ⟨?_, fun v => ?_⟩⟩
  · obtain ⟨s1, s2, _⟩ := F.stamped
    rcases L.find w hkey es.toList F.keys with ⟨g1, g2⟩ | ⟨j, e0, g1, g2, g3⟩
    · have e1 : (Instr.mapEntry t (.map (some b)) key).run P w = .ok (.tuple #[.int .i64 0, goInt clock]) (ChangeMaps.setBlock w b (.map (es.push ⟨key, .int .i64 0, clock⟩) (clock + 1))) := by
        simp [Instr.mapEntry, run_underlying ht, MapKept.run_getObj_map hb, L.check w false hkey, g1, hz, MapKept.run_setObj_map _ hb, Result.andThen, ChangeMaps.setBlock]
      rw [h1] at e1
      injection e1 with e1 e2
      have e3 : v0 = .int .i64 0 := by injection e1 with e1; exact Option.some.inj (show some v0 = some (.int .i64 0) from congrArg (fun a : Array Value => a[0]?) e1)
      rw [e2, e3]
      refine ⟨by simp [Instr.lookup, run_underlying ht, MapKept.run_getObj_map hb, L.check w _ hkey, g1, hz, Result.andThen], ?_⟩
      simp [Instr.mapUpdate, run_underlying ht, MapKept.run_getObj_map hb, L.check w false hkey, g1, MapKept.run_setObj_map _ hb, Result.andThen, ChangeMaps.setBlock]
    · have hj : es[j]? = some e0 := by simpa using g2
      have hsame : es.modify j (fun e => { e with key := key }) = es := by
        apply Array.ext'
        rw [Array.toList_modify, ChangeMaps.modify_eq_set _ _ _ _ g2]
        have : ({ e0 with key := key } : MapEntry) = e0 := by rw [← g3]
        rw [this]
        exact WideElems.set_self _ _ _ g2
      have hsame2 : es.modify j (fun e' => { e' with key := key, val := e0.val }) = es := by
        apply Array.ext'
        rw [Array.toList_modify, ChangeMaps.modify_eq_set _ _ _ _ g2]
        have : ({ e0 with key := key, val := e0.val } : MapEntry) = e0 := by rw [← g3]
        rw [this]
        exact WideElems.set_self _ _ _ g2
      have e1 : (Instr.mapEntry t (.map (some b)) key).run P w = .ok (.tuple #[e0.val, goInt e0.born]) (ChangeMaps.setBlock w b (.map es clock)) := by
        simp [Instr.mapEntry, run_underlying ht, MapKept.run_getObj_map hb, L.check w false hkey, g1, hj, g3, L.stays w hkey, hsame, MapKept.run_setObj_map _ hb, Result.andThen, ChangeMaps.setBlock]
      rw [h1] at e1
      injection e1 with e1 e2
      have e3 : v0 = e0.val := by injection e1 with e1; exact Option.some.inj (show some v0 = some e0.val from congrArg (fun a : Array Value => a[0]?) e1)
      rw [e2, e3]
      refine ⟨by simp [Instr.lookup, run_underlying ht, MapKept.run_getObj_map hb, L.check w _ hkey, g1, Result.andThen], ?_⟩
      simp [Instr.mapUpdate, run_underlying ht, MapKept.run_getObj_map hb, L.check w false hkey, g1, hj, g3, L.stays w hkey, hsame2, MapKept.run_setObj_map _ hb, Result.andThen, ChangeMaps.setBlock]
  · obtain ⟨es', clock', r1, r2⟩ := h3 _ v hb1
    exact ⟨_, by rw [r1, hdd], r2⟩
/-- m[k] += .. -/
theorem SM.entry (S : SpotKey P K) {t : TypeId} (ht : P.underlying t = some (.map K E)) (hE : P.underlying E = some (.int .i64)) (hz : ∀ u : World, (zeroValue E).run P u = .ok (.int .i64 0) u)
    (h : SM P K E w b c) {q : Int} {m : Bool} (h0 : 0 ≤ q) (h1 : q ≤ 100) :
    ∃ (st : Int) (w1 : World), (Instr.lookup t (.map (some b)) (spotV q m) false).run P w = .ok (.int .i64 (c q m)) w ∧ (Instr.mapEntry t (.map (some b)) (spotV q m)).run P w = .ok (.tuple #[.int .i64 (c q m), .int .i64 st]) w1 ∧
      (Instr.lookup t (.map (some b)) (spotV q m) false).run P w1 = .ok (.int .i64 (c q m)) w1 ∧ w.grownBy w1 (some b) ∧
      ∀ v, v ≠ 0 → wfi v = true → ∃ w2, (Instr.entryStore t (.map (some b)) (.int .i64 st) (.int .i64 v)).run P w1 = .ok () w2 ∧ SM P K E w2 b (updS c q m v) ∧ w.grownBy w2 (some b) := by
  obtain ⟨hc, D, hown, hD⟩ := h
  have hq : wfi q = true := wfi_of (by omega) (by omega)
  obtain ⟨v0, st, w1, r1, rl, r2, r3⟩ := entry_is_update S.kl ht hz hown (S.at_ (m := m) hq)
  obtain ⟨x, l1, l2, l3⟩ := hown.lookup_int S.law ht hE (hz w) (S.at_ (m := m) hq)
  rw [(hD.2 q m hq).2] at l2
  injection l2 with l2; injection l2 with _ l2
  subst l2
  rw [l1] at rl
  injection rl with rl
  subst rl
  have hwc : wfi (c q m) = true := l3
  have up : ∀ (v : Int) (w' : World), wfi v = true → (Instr.mapUpdate t (.map (some b)) (spotV q m) (.int .i64 v)).run P w = .ok () w' → w'.ownsMap P K (plainElem P E) b 203 (D.put (KL P K q m) (.lit (.int .i64 v))) ∧ w.grownBy w' (some b) := fun v w' hv hr => by
    obtain ⟨w'', e1, e2, e3⟩ := hown.update S.law ht (by unfold maxLen; omega) (S.at_ (m := m) hq) (plainElem_int hE hv)
    rw [hr] at e1
    injection e1 with _ e1
    subst e1
    exact ⟨e2, e3⟩
  obtain ⟨o1, g1⟩ := up _ _ hwc r2
  obtain ⟨y, k1, k2, _⟩ := o1.lookup_int S.law ht hE (hz w1) (S.at_ (m := m) hq)
  rw [atKey_put_same hD.1 (S.lit hq)] at k2
  injection k2 with k2; injection k2 with _ k2
  subst k2
  refine ⟨st, w1, l1, r1, k1, g1, fun v hv hwv => ?_⟩
  obtain ⟨w2, s1, s2⟩ := r3 (.int .i64 v)
  obtain ⟨o2, g2⟩ := up _ _ hwv s2
  have hr := hD.put S (m := m) hq hv
  exact ⟨w2, s1, ⟨hc.upd h0 h1, _, own_tight S o2 hr (hc.upd h0 h1), hr⟩, g2⟩
end
end Go.Proofs.Ytnohpclaccaijab

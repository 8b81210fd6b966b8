/- Several texts, one behind the other: W C1ca. -/
import Derived.WalkKit
import Derived.Lib.Hide
import Derived.Deep.Draws
import Derived.Test.YtmiefdjbhcpnbaaDoorChecked
import Derived.Lib.ItoaNum
import Derived.Laws.IdiomStrings
import Derived.Laws.Concat
import Derived.BigQuiet
import Derived.Deep.QuietTactic
import Derived.Deep.RegionHeld3

namespace Go.Proofs.YtmiefdjbhcpnbaaDoor
open Go.RowKit

theorem ret_int {k : IntKind} {a b : Int} (h : a = b) : Ending.returned (.int k a) = .returned (.int k b) := by rw [h]
theorem ret_bool {a b : Bool} (h : a = b) : Ending.returned (.bool a) = .returned (.bool b) := by rw [h]
theorem bcell {w w' : World} {B : Nat} (hb : Below B w w') {b o : Nat} (h : b < B) : w'.cell? ⟨b, o, none⟩ = w.cell? ⟨b, o, none⟩ := hb.cell (p := ⟨b, o, none⟩) h

theorem drewB {B : Nat} {w w' : World} (h : Below B w w') (n : Nat) : Below B w (w'.drewN n) := ⟨h.os, h.tape, h.output, h.size, h.block⟩
theorem cell_lt {w : World} {b o : Nat} {v : Value} (h : w.cell? ⟨b, o, none⟩ = some v) : b < w.heap.size := by
  rcases Nat.lt_or_ge b w.heap.size with h1 | h1
  · exact h1
  · simp [World.cell?, Array.getElem?_eq_none h1] at h
/-- A cell that was there before a call is there behind it. -/
theorem keepcell {w w' : World} (hx : Below w.heap.size w w') {b o : Nat} {v : Value} (h : w.cell? ⟨b, o, none⟩ = some v) : w'.cell? ⟨b, o, none⟩ = some v :=
  (bcell hx (cell_lt h)).trans h
/-- What holds below B goes on behind a call. -/
theorem keepB {B : Nat} {a w w' : World} (h : Below B a w) (hB : B ≤ a.heap.size) (hx : Below w.heap.size w w') : Below B a w' :=
  h.trans (hx.mono (Nat.le_trans hB h.size))
theorem heap_alloc_at (w : World) (o : Obj) (k : Nat) (h : k = w.heap.size) : (w.alloc o).heap[k]? = some o := by subst h; exact heap_alloc_new w o
theorem boxcell {w wr : World} {cs : Array Value} {t : TypeId} (hb : Below (w.heap.size + 1) (w.alloc (.cells cs t)) wr) (i : Nat) (v : Value) (h : cs[i]? = some v) : wr.cell? ⟨w.heap.size, i, none⟩ = some v :=
  (bcell hb (by omega)).trans ((World.cell?_alloc_at _ _ _ _ rfl).trans h)

def wfi (n : Int) : Bool := (Lit.int .i64 n).wf
theorem wfi_of {n : Int} (h1 : -1000000000000000000 ≤ n) (h2 : n ≤ 1000000000000000000) : wfi n = true := WalkArith.wf_i64 (by omega)
def wfJ (js : List (Int × Int)) : Prop := ∀ j ∈ js, wfi j.1 = true ∧ wfi j.2 = true
theorem wfJ.at_ {js : List (Int × Int)} (h : wfJ js) {k : Nat} (hk : k < js.length) : wfi js[k].1 = true ∧ wfi js[k].2 = true := h _ (List.getElem_mem hk)

/-- The cells of a box, told at every index. -/
theorem boxcells {w wr : World} {cs : Array Value} {t : TypeId} (hb : Below (w.heap.size + 1) (w.alloc (.cells cs t)) wr) : ∀ i, wr.cell? ⟨w.heap.size, i, none⟩ = cs[i]? :=
  fun _ => (bcell hb (by omega)).trans (World.cell?_alloc_at _ _ _ _ rfl)
theorem box_on {w w1 w2 : World} {o : Obj} {B : Nat} (hb : Below (w.heap.size + 1) (w.alloc o) w1) (hx : Below B w1 w2) (hB : w.heap.size + 1 ≤ B) : Below (w.heap.size + 1) (w.alloc o) w2 := hb.trans (hx.mono hB)

/-- A slice at A that reads as the jumps js, below block B. -/
def RJ (w : World) (B : Nat) (A : Option Addr) (js : List (Int × Int)) : Prop :=
  js.length ≤ 1048576 ∧ wfJ js ∧ (js = [] ∨ ∃ b off, A = some ⟨b, off, none⟩ ∧ b < B ∧ ∀ k (h : k < js.length), w.cell? ⟨b, off + k * 2, none⟩ = some (.int .i64 js[k].1) ∧ w.cell? ⟨b, off + k * 2 + 1, none⟩ = some (.int .i64 js[k].2))

theorem RJ.at_ {w w' : World} {B : Nat} {A js} (h : RJ w B A js) (hb : Below B w w') {k : Nat} (hk : k < js.length) :
    ∃ b off, A = some ⟨b, off, none⟩ ∧ b < B ∧ w'.cell? ⟨b, off + k * 2, none⟩ = some (.int .i64 js[k].1) ∧ w'.cell? ⟨b, off + k * 2 + 1, none⟩ = some (.int .i64 js[k].2) := by
  obtain ⟨_, _, rfl | ⟨b, off, e, hB, hc⟩⟩ := h
  · simp at hk
  · exact ⟨b, off, e, hB, (bcell hb hB).trans (hc k hk).1, (bcell hb hB).trans (hc k hk).2⟩
theorem RJ.below {w w' : World} {B : Nat} {A js} (h : RJ w B A js) (hb : Below B w w') : RJ w' B A js := by
  obtain ⟨h0, hw, rfl | ⟨b, off, e, hB, hc⟩⟩ := h
  · exact ⟨h0, hw, .inl rfl⟩
  · exact ⟨h0, hw, .inr ⟨b, off, e, hB, fun k hk => ⟨(bcell hb hB).trans (hc k hk).1, (bcell hb hB).trans (hc k hk).2⟩⟩⟩
theorem RJ.more {w : World} {B B' : Nat} {A js} (h : RJ w B A js) (hB : B ≤ B') : RJ w B' A js := by
  obtain ⟨h0, hw, h1 | ⟨b, off, e, hb, hc⟩⟩ := h
  · exact ⟨h0, hw, .inl h1⟩
  · exact ⟨h0, hw, .inr ⟨b, off, e, by omega, hc⟩⟩
/-- In a later world, with its own bound. -/
theorem RJ.later {w w' : World} {B : Nat} {A js} (h : RJ w B A js) (hb : Below B w w') (hs : B ≤ w'.heap.size) : RJ w' w'.heap.size A js := (h.below hb).more hs
theorem RJ.go {w w' : World} {A js} (h : RJ w w.heap.size A js) (hb : Below w.heap.size w w') : RJ w' w'.heap.size A js := h.later hb hb.size

/-- A slice at A that reads as the integers xs, below block B. -/
def RI (w : World) (B : Nat) (A : Option Addr) (xs : List Int) : Prop :=
  xs.length ≤ 1048576 ∧ (xs = [] ∨ ∃ b off, A = some ⟨b, off, none⟩ ∧ b < B ∧ ∀ k (h : k < xs.length), w.cell? ⟨b, off + k, none⟩ = some (.int .i64 xs[k]))
theorem RI.at_ {w w' : World} {B : Nat} {A xs} (h : RI w B A xs) (hb : Below B w w') {k : Nat} (hk : k < xs.length) :
    ∃ b off, A = some ⟨b, off, none⟩ ∧ b < B ∧ w'.cell? ⟨b, off + k, none⟩ = some (.int .i64 xs[k]) := by
  obtain ⟨_, rfl | ⟨b, off, e, hB, hc⟩⟩ := h
  · simp at hk
  · exact ⟨b, off, e, hB, (bcell hb hB).trans (hc k hk)⟩
theorem RI.below {w w' : World} {B : Nat} {A xs} (h : RI w B A xs) (hb : Below B w w') : RI w' B A xs := by
  obtain ⟨h0, rfl | ⟨b, off, e, hB, hc⟩⟩ := h
  · exact ⟨h0, .inl rfl⟩
  · exact ⟨h0, .inr ⟨b, off, e, hB, fun k hk => (bcell hb hB).trans (hc k hk)⟩⟩
theorem RI.more {w : World} {B B' : Nat} {A xs} (h : RI w B A xs) (hB : B ≤ B') : RI w B' A xs := by
  obtain ⟨h0, h1 | ⟨b, off, e, hb, hc⟩⟩ := h
  · exact ⟨h0, .inl h1⟩
  · exact ⟨h0, .inr ⟨b, off, e, by omega, hc⟩⟩
theorem RI.later {w w' : World} {B : Nat} {A xs} (h : RI w B A xs) (hb : Below B w w') (hs : B ≤ w'.heap.size) : RI w' w'.heap.size A xs := (h.below hb).more hs
theorem RI.go {w w' : World} {A xs} (h : RI w w.heap.size A xs) (hb : Below w.heap.size w w') : RI w' w'.heap.size A xs := h.later hb hb.size
theorem below1 (w : World) (o : Obj) : Below w.heap.size w (w.alloc o) := (Below.refl _ _).alloc (Nat.le_refl _) _
theorem below2 (w : World) (o o' : Obj) : Below w.heap.size w ((w.alloc o).alloc o') := (below1 w o).alloc (by simp) _
theorem below3 (w : World) (o o' o'' : Obj) : Below w.heap.size w (((w.alloc o).alloc o').alloc o'') := (below2 w o o').alloc (by simp; omega) _

/-- Two jumps are equal; a name of its own, so that the walk leaves it whole. -/
def eqJ (a b : Int × Int) : Bool := a == b
theorem eqJ_mk (a b a' b' : Int) : eqJ (a, b) (a', b') = (a == a' && b == b') := rfl
theorem drop_step {α : Type} (l : List α) (k : Nat) (hk : k < l.length) : l.drop k = l[k] :: l.drop (k + 1) := List.drop_eq_getElem_cons hk
end Go.Proofs.YtmiefdjbhcpnbaaDoor

namespace Go.Proofs.YtmiefdjbhcpnbaaDoor
open Go.RowKit

/-- A number's digits. -/
def numL (n : Int) : List UInt8 := Lib.decDigits n.toNat
/-- A number's text. -/
def numB (n : Int) : ByteArray := ⟨(numL n).toArray⟩

theorem numB_size (n : Int) : (numB n).size = (numL n).length := by show (numL n).toArray.size = _; simp
theorem decDigits_len : ∀ (k u : Nat), u < 10 ^ (k + 1) → (Lib.decDigits u).length ≤ k + 1
  | 0, u, h => by rw [Lib.decDigits, dif_pos (by simpa using h)]; simp
  | k + 1, u, h => by
    rw [Lib.decDigits]
    split
    · simp
    · have := decDigits_len k (u / 10) (by rw [Nat.pow_succ] at h; omega)
      simp
      omega
theorem numL_len (n : Int) (h : n ≤ 999) : (numL n).length ≤ 3 := decDigits_len 2 n.toNat (by simp; omega)
theorem numL_small (n : Int) (h0 : 0 ≤ n) (h : n < 10) : numL n = [UInt8.ofNat (48 + n.toNat)] := by
  unfold numL
  rw [Lib.decDigits, dif_pos (by omega)]
theorem numL_big (n : Int) (h : 10 ≤ n) : numL n = numL (n / 10) ++ [UInt8.ofNat (48 + (n % 10).toNat)] := by
  unfold numL
  rw [Lib.decDigits, dif_neg (by omega), show (n / 10).toNat = n.toNat / 10 by omega, show (n % 10).toNat = n.toNat % 10 by omega]
theorem add_run {P : Program} (x y z : ByteArray) (hz : z = x ++ y) (h : x.size + y.size ≤ 9223372036854775807) (W : World) : (Op.stringOp .add x y).run P W = .ok (.string z) W := by
  rw [hz]
  exact run_string_add_sum W x y h

/-- The texts of a board's head, laid one behind the other. -/
theorem head_adds (P : Program) (a b c : Int) (ha : a ≤ 999) (hb : b ≤ 999) (hc : c ≤ 999) : ∃ s1 s2 s3 s4 : ByteArray,
    (∀ W, (Op.stringOp .add (numB a) ⟨#[100]⟩).run P W = .ok (.string s1) W) ∧ (∀ W, (Op.stringOp .add s1 (numB b)).run P W = .ok (.string s2) W) ∧
    (∀ W, (Op.stringOp .add s2 ⟨#[47]⟩).run P W = .ok (.string s3) W) ∧ (∀ W, (Op.stringOp .add s3 (numB c)).run P W = .ok (.string s4) W) ∧
    s4 = ⟨(numL a ++ 100 :: (numL b ++ 47 :: numL c)).toArray⟩ := by
  have la := numL_len a ha
  have lb := numL_len b hb
  have lc := numL_len c hc
  have e : ∀ l : List UInt8, (⟨l.toArray⟩ : ByteArray).size = l.length := fun l => by show l.toArray.size = _; simp
  refine ⟨⟨(numL a ++ [100]).toArray⟩, ⟨(numL a ++ 100 :: numL b).toArray⟩, ⟨(numL a ++ 100 :: (numL b ++ [47])).toArray⟩, _,
    add_run _ ⟨[100].toArray⟩ _ (by apply ByteArray.ext; simp [numB]) (by rw [numB_size, e]; simp; omega),
    add_run _ _ _ (by apply ByteArray.ext; simp [numB]) (by rw [numB_size, e]; simp; omega),
    add_run _ ⟨[47].toArray⟩ _ (by apply ByteArray.ext; simp) (by rw [e, e]; simp; omega),
    add_run _ _ _ (by apply ByteArray.ext; simp [numB]) (by rw [numB_size, e]; simp; omega), rfl⟩

/-- The texts of jumps. -/
def jumpsL (js : List (Int × Int)) : List UInt8 := js.flatMap fun j => 59 :: (numL j.1 ++ 62 :: numL j.2)
/-- A board's text, as far as jumps are told. -/
def txtB (s f o : Int) (js : List (Int × Int)) : ByteArray := ⟨((numL s ++ 100 :: (numL f ++ 47 :: numL o)) ++ jumpsL js).toArray⟩
theorem jumpsL_len : ∀ (js : List (Int × Int)), (∀ j ∈ js, j.1 ≤ 999 ∧ j.2 ≤ 999) → (jumpsL js).length ≤ 8 * js.length
  | [], _ => by simp [jumpsL]
  | j :: js, h => by
    have h1 := h j (by simp)
    have ih := jumpsL_len js fun x hx => h x (by simp [hx])
    have l1 := numL_len j.1 h1.1
    have l2 := numL_len j.2 h1.2
    simp only [jumpsL, List.flatMap_cons, List.length_append, List.length_cons] at ih ⊢
    omega
theorem txtB_size (s f o : Int) (js : List (Int × Int)) (hs : s ≤ 999) (hf : f ≤ 999) (ho : o ≤ 999) (h : ∀ j ∈ js, j.1 ≤ 999 ∧ j.2 ≤ 999) : (txtB s f o js).size ≤ 11 + 8 * js.length := by
  have := jumpsL_len js h
  have := numL_len s hs
  have := numL_len f hf
  have := numL_len o ho
  show ((numL s ++ 100 :: (numL f ++ 47 :: numL o)) ++ jumpsL js).toArray.size ≤ _
  simp
  omega
theorem jump_adds (P : Program) (s f o : Int) (js : List (Int × Int)) (hs : s ≤ 999) (hf : f ≤ 999) (ho : o ≤ 999) (h : ∀ j ∈ js, j.1 ≤ 999 ∧ j.2 ≤ 999) (hl : js.length ≤ 1048576) (k : Nat) (hk : k < js.length) : ∃ s1 s2 s3 : ByteArray,
    (∀ W, (Op.stringOp .add ⟨#[59]⟩ (numB js[k].1)).run P W = .ok (.string s1) W) ∧ (∀ W, (Op.stringOp .add s1 ⟨#[62]⟩).run P W = .ok (.string s2) W) ∧
    (∀ W, (Op.stringOp .add s2 (numB js[k].2)).run P W = .ok (.string s3) W) ∧ (∀ W, (Op.stringOp .add (txtB s f o (js.take k)) s3).run P W = .ok (.string (txtB s f o (js.take (k + 1)))) W) := by
  have hm := h js[k] (List.getElem_mem hk)
  have la := numL_len _ hm.1
  have lb := numL_len _ hm.2
  have lt := txtB_size s f o (js.take k) hs hf ho fun j hj => h j (List.mem_of_mem_take hj)
  have e : ∀ l : List UInt8, (⟨l.toArray⟩ : ByteArray).size = l.length := fun l => by show l.toArray.size = _; simp
  have ht : js.take (k + 1) = js.take k ++ [js[k]] := by rw [List.take_add_one, List.getElem?_eq_getElem hk]; rfl
  refine ⟨⟨(59 :: numL js[k].1).toArray⟩, ⟨(59 :: (numL js[k].1 ++ [62])).toArray⟩, ⟨(59 :: (numL js[k].1 ++ 62 :: numL js[k].2)).toArray⟩,
    add_run ⟨[59].toArray⟩ _ _ (by apply ByteArray.ext; simp [numB]) (by rw [numB_size, e]; simp; omega),
    add_run _ ⟨[62].toArray⟩ _ (by apply ByteArray.ext; simp) (by rw [e, e]; simp; omega),
    add_run _ _ _ (by apply ByteArray.ext; simp [numB]) (by rw [numB_size, e]; simp; omega),
    add_run _ _ _ (by apply ByteArray.ext; simp only [txtB, jumpsL, ht, List.flatMap_append]; simp) (by rw [show (⟨(59 :: (numL js[k].1 ++ 62 :: numL js[k].2)).toArray⟩ : ByteArray).size = (numL js[k].1).length + (numL js[k].2).length + 2 by rw [e]; simp; omega]; have := List.length_take_le k js; omega)⟩
theorem txtB_nil (s f o : Int) : txtB s f o [] = ⟨(numL s ++ 100 :: (numL f ++ 47 :: numL o)).toArray⟩ := by simp [txtB, jumpsL]
end Go.Proofs.YtmiefdjbhcpnbaaDoor

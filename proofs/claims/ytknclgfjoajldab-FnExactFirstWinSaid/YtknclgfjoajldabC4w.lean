/-
  Races: FirstWin on both sides.
-/
import Derived.Test.YtknclgfjoajldabC4v
namespace Go.Proofs.Ytknclgfjoajldab
open Go.RowKit

/-- The states along a shortest way to win are all different. -/
theorem DistW.trail {s o : Int} {f : Int} {js : List (Int × Int)} {me who : Int} {m : Nat} (hg : good ⟨s, f, o, js⟩ = true) (hw : 0 < who) : ∀ {t x : Nat}, okQ s js x → DistW (nxP s o js me) (wonQ s) m who x t →
    ∃ l : List Nat, l.length = t + 1 ∧ l.Nodup ∧ (∀ y ∈ l, okQ s js y) ∧ ∀ y ∈ l, ∃ t' ≤ t, DistW (nxP s o js me) (wonQ s) m who y t' := by
  intro t
  induction t with
  | zero => exact fun {x} hx h => ⟨[x], rfl, by simp, by simpa using hx, by simpa using h⟩
  | succ t ih =>
    intro x hx h
    obtain ⟨_, face, h1, h2, h3⟩ := h.next hw
    obtain ⟨l, hl, hn, ho, hd⟩ := ih (okQ_nxP hg hx h1) h3
    refine ⟨x :: l, by simp [hl], List.nodup_cons.2 ⟨fun hm => ?_, hn⟩, ?_, ?_⟩
    · obtain ⟨t', ht', hd'⟩ := hd x hm
      have := Least.uniq h hd'
      omega
    · intro y hy
      rcases List.mem_cons.1 hy with rfl | hy
      · exact hx
      · exact ho y hy
    · intro y hy
      rcases List.mem_cons.1 hy with rfl | hy
      · exact ⟨t + 1, Nat.le_refl _, h⟩
      · obtain ⟨t', ht', hd'⟩ := hd y hy
        exact ⟨t', by omega, hd'⟩
theorem WinR.short {s o f : Int} {js : List (Int × Int)} {me who : Int} {m q0 : Nat} {R : List Int × Bool} (hg : good ⟨s, f, o, js⟩ = true) (h40 : s ≤ 40) (hw : 0 < who) (hq : okQ s js q0) (h : WinR (nxP s o js me) (wonQ s) m who q0 R) : R.1.length ≤ 1048576 := by
  rcases h with ⟨p, hp, rfl⟩ | ⟨_, rfl⟩
  · obtain ⟨l, hl, hn, ho, _⟩ := DistW.trail (f := f) hg hw hq hp.dist
    have h1 := pigeonN l (2 * ((s.toNat + 1) * (s.toNat + 1))) hn fun y hy => okQ_lt (ho y hy)
    have h2 : (s.toNat + 1) * (s.toNat + 1) ≤ 41 * 41 := Nat.mul_le_mul (by omega) (by omega)
    simp only [List.length_map]
    omega
  · simp

theorem firstWin_both (s f o me fi ot : Int) (js : List (Int × Int)) (who : Int) : ∃ (R : List Int × Bool), R.1.length ≤ 1048576 ∧
    (∀ (A : Option Addr) (c : Nat) (W : World), RJ W W.heap.size A js → Calls Try.prog 29 #[.agg #[.int .i64 s, .int .i64 f, .int .i64 o, .slice A js.length c, .int .i64 me, .int .i64 fi, .int .i64 ot], .int .i64 who] W (IntsBack W R)) ∧
    (∀ (A : Option Addr) (c : Nat) (W : World), RJ W W.heap.size A js → Calls Try.prog 31 #[.agg #[.int .i64 s, .int .i64 f, .int .i64 o, .slice A js.length c, .int .i64 me, .int .i64 fi, .int .i64 ot], .int .i64 who] W (IntsBack W R)) := by
  have ha : askedR s f o js me fi ot 0 who = (raceOk s f o js me fi ot && inB who 1 2) := by
    unfold askedR
    rw [show inB 0 0 14 = true from rfl, Bool.true_and]
  cases h : raceOk s f o js me fi ot && inB who 1 2
  · exact ⟨([], false), by simp, fun A c W hj => specFirstWin_no s f o me fi ot who A c js W hj (by rw [ha]; exact h), fun A c W hj => implFirstWin_any s f o me fi ot who A c js ([], false) W hj (.inl ⟨h, rfl⟩)⟩
  · simp only [Bool.and_eq_true] at h
    obtain ⟨hr, hi⟩ := h
    have hw : 0 < who := by
      have := hi
      unfold inB at this
      simp at this
      omega
    obtain ⟨hgd, h40, _, ho1, ho2, _⟩ := raceOk_parts hr
    have hq0 := okQ_cd (t := 0) (sqR_of ho1) (sqR_of ho2) (by omega)
    obtain ⟨xf, rfl⟩ := Int.eq_ofNat_of_zero_le (sqR_of ho1).1
    obtain ⟨yo, rfl⟩ := Int.eq_ofNat_of_zero_le (sqR_of ho2).1
    simp only [Int.toNat_natCast] at hq0
    obtain ⟨R, hR⟩ := winR_exists (nx := nxP s o js me) (won := wonQ s) (m := f.toNat) (q0 := cd (s.toNat + 1) xf yo 0) hw
    exact ⟨R, hR.short hgd h40 hw hq0, fun A c W hj => specFirstWin_yes s f o me who xf yo A c js R W hj (by rw [ha, hr, hi]; rfl) hR, fun A c W hj => implFirstWin_any s f o me xf yo who A c js R W hj (.inr ⟨hr, hi, hw, by simpa only [Int.toNat_natCast] using hR⟩)⟩
end Go.Proofs.Ytknclgfjoajldab

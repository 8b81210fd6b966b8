/-
  Tracks: the model's trPlayer, trMove, trAsked.
-/
import Derived.Test.YtmhffdgfkgdmlaaC7n
namespace Go.Proofs.Ytmhffdgfkgdmlaa
open Go.RowKit

/-- There are such a track, a state and a player. -/
def plB (q f k : Int) (st sf : List Int) (L : List (List Int)) (p : Int) : Bool := (trkOk q f k st sf && stateB q k st sf L) && inB p 0 ((st.length : Int) - 1)
def mvB (f k : Int) (n : Nat) (p t x : Int) : Bool := inB p 0 ((n : Int) - 1) && inB t 0 (k - 1) && inB x 1 f
def askB (q f k : Int) (st sf : List Int) (L : List (List Int)) (p t x : Int) : Bool := (trkOk q f k st sf && stateB q k st sf L) && mvB f k st.length p t x
/-- What a state that there is gives. -/
theorem state_is {q f k : Int} {st sf : List Int} {L : List (List Int)} (h : (trkOk q f k st sf && stateB q k st sf L) = true) : Trk q f k st sf ∧ Sta q k st.length L := by
  rw [Bool.and_eq_true] at h
  refine ⟨trk_of h.1, ?_⟩
  have := h.2
  simp only [stateB, Bool.and_eq_true, beq_iff_eq] at this
  exact sta_of this.1.1 this.1.2


set_option maxHeartbeats 400000 in
theorem trMove_any (q f k : Int) (A1 A2 : Option Addr) (n1 c1 n2 c2 : Nat) (p t x : Int) (w : World) (hl : n1 ≤ 1048576) (hk : 0 ≤ k) (hk4 : k ≤ 4) :
    Calls Try.prog 80 #[.agg #[.int .i64 q, .int .i64 f, .int .i64 k, .slice A1 n1 c1, .slice A2 n2 c2], .int .i64 p, .int .i64 t, .int .i64 x] w fun e w' => e = .returned (.bool (mvB f k n1 p t x)) ∧ Below w.heap.size w w' := by
  have i5 : IntKind.i64.wrap ((n1 : Int) - 1) = (n1 : Int) - 1 := IntWalk.i64_in _ (by omega)
  have i6 : IntKind.i64.wrap (k - 1) = k - 1 := IntWalk.i64_in _ (by omega)
  obtain ⟨r, hr⟩ : ∃ r, mvB f k n1 p t x = r := ⟨_, rfl⟩
  rw [hr]
  rw [mvB] at hr
  have HR := Lib.hid hr
  clear hr
  go_enter Try.func80, Try.ntmps80
  cases hp : inB p 0 ((n1 : Int) - 1)
  · have HP := Lib.hid hp
    clear hp
    go_wp2_with (go_at_call 76; refine (l1In_any _ _ _ _).mono ?_; rintro e w' ⟨rfl, rfl⟩; rw [HP.out])
    go_ret
    exact ⟨ret_bool (by rw [← HR.out, HP.out]; rfl), below1 _ _⟩
  cases ht : inB t 0 (k - 1)
  · have HP := Lib.hid hp; have HT := Lib.hid ht
    clear hp ht
    go_wp2_with (first | (go_at_call 76; refine (l1In_any _ _ _ _).mono ?_; rintro e w' ⟨rfl, rfl⟩; rw [HP.out]) | (go_at_call 76; refine (l1In_any _ _ _ _).mono ?_; rintro e w' ⟨rfl, rfl⟩; rw [HT.out]))
    go_ret
    exact ⟨ret_bool (by rw [← HR.out, HP.out, HT.out]; rfl), below1 _ _⟩
  have E : inB x 1 f = r := by rw [← HR.out, hp, ht]; rfl
  have HP := Lib.hid hp; have HT := Lib.hid ht; have HX := Lib.hid E
  clear hp ht E
  go_wp2_with (first | (go_at_call 76; refine (l1In_any _ _ _ _).mono ?_; rintro e w' ⟨rfl, rfl⟩; rw [HP.out]) | (go_at_call 76; refine (l1In_any _ _ _ _).mono ?_; rintro e w' ⟨rfl, rfl⟩; rw [HT.out]) | (go_at_call 76; refine (l1In_any _ _ _ _).mono ?_; rintro e w' ⟨rfl, rfl⟩; rw [HX.out]))
  go_ret
  exact ⟨rfl, below1 _ _⟩



end Go.Proofs.Ytmhffdgfkgdmlaa

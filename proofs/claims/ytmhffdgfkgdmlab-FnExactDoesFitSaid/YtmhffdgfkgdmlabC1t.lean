/-
  PathOfThrows and PlayThrows, the model's and the program's.
-/
import Derived.Test.YtmhffdgfkgdmlabM1t
import Derived.Test.YtmhffdgfkgdmlabC1h
namespace Go.Proofs.Ytmhffdgfkgdmlab
open Go.RowKit





set_option maxHeartbeats 400000 in
theorem hasThrows_any (g : Nat) (s f o : Int) (G : Nat → Int) (A : Option Addr) (c : Nat) (xs : List Int) (w : World) (hC : CA w g s f o G) (hx : RI w w.heap.size A xs) :
    Calls Try.prog 131 #[.pointer (some ⟨g, 0, none⟩), .slice A xs.length c] w fun e w' => e = .returned (.bool (throwsOk f xs)) ∧ w = w' := by
  have hl := hx.1
  by_cases hn : xs.length ≤ 200
  · have hn' : ¬ (200 : Int) < xs.length := by omega
    have e : throwsOk f xs = xs.all (fun x => inB x 1 f) := by simp [throwsOk, hn]
    rw [e]
    go_enter Try.func131, Try.ntmps131
    go_wp2
    go_loop [12] (fun i => ∃ k : Nat, k ≤ xs.length ∧ i = .int .i64 k ∧ Hid (xs.all (fun x => inB x 1 f) = (xs.drop k).all (fun x => inB x 1 f))) (fun i => xs.length - (intOf i).toNat)
    case atStart => exact ⟨0, Nat.zero_le _, rfl, Lib.hid rfl⟩
    case round =>
      obtain ⟨k, hk, rfl, Hd⟩ := hrel
      by_cases hlt : k < xs.length
      · obtain ⟨b, off, rfl, hB, h1⟩ := hx.at_ (Below.refl _ _) hlt
        cases hp : inB xs[k] 1 f
        · have HP := Lib.hid hp
          go_wp2_with (go_at_call 120; refine (hasFace_any _ _ _ _ _ _ _ hC.cv).mono ?_; rintro e w' ⟨rfl, rfl⟩)
          go_ret
          exact ⟨ret_bool (by rw [Hd.out, drop_step _ _ hlt, List.all_cons, HP.out, Bool.false_and]), rfl⟩
        · have HP := Lib.hid hp
          go_wp2_with (go_at_call 120; refine (hasFace_any _ _ _ _ _ _ _ hC.cv).mono ?_; rintro e w' ⟨rfl, rfl⟩)
          go_round
          case rel => exact ⟨k + 1, by omega, by go_num, Lib.hid (by rw [Hd.out, drop_step _ _ hlt, List.all_cons, HP.out, Bool.true_and])⟩
          case measure => simp [intOf]; omega
      · go_wp2
        go_ret
        exact ⟨ret_bool (by rw [Hd.out, List.drop_eq_nil_of_le (by omega)]; rfl), rfl⟩
  · have hn' : (200 : Int) < xs.length := by omega
    have e : throwsOk f xs = false := by simp [throwsOk, hn]
    rw [e]
    go_enter Try.func131, Try.ntmps131
    go_wp2
    go_ret
    exact ⟨rfl, rfl⟩
end Go.Proofs.Ytmhffdgfkgdmlab

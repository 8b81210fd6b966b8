/-
  CountFewest, both together.
-/
import Derived.Test.YtiekdokgjdgajaaC1ac
namespace Go.Proofs.Ytiekdokgjdgajaa
open Go.RowKit

theorem countFewest_both (s f o : Int) (js : List (Int × Int)) (sq : Int) : ∃ (x : Int) (ok : Bool),
    (∀ (A : Option Addr) (c : Nat) (W : World), RJ W W.heap.size A js → Calls Try.prog 48 #[.agg #[.int .i64 s, .int .i64 f, .int .i64 o, .slice A js.length c], .int .i64 sq] W (NumIs W (x, ok))) ∧
    (∀ (A : Option Addr) (c : Nat) (W : World), RJ W W.heap.size A js → Calls Try.prog 49 #[.agg #[.int .i64 s, .int .i64 f, .int .i64 o, .slice A js.length c], .int .i64 sq] W (NumIs W (x, ok))) := by
  cases h : asked s f o js sq
  · exact ⟨0, false, fun A c W hj => specCountFewest_no s f o A c sq js W hj h, fun A c W hj => implCountFewest_no s f o A c sq js W hj h⟩
  · obtain ⟨q, rfl⟩ := Int.eq_ofNat_of_zero_le (onSq_in (asked_on h)).1
    obtain ⟨R, hR⟩ : ∃ R, CountR s f o js q R := by
      rcases Classical.em (∃ t, Way (eB s f o js) q t s.toNat) with ⟨t, ht⟩ | hn
      · obtain ⟨t, ht⟩ := least_ex (W := fun t => Way (eB s f o js) q t s.toNat) ht
        rcases Int.lt_or_le 1000000000000000 (pl s f o js q t s) with hl | hl
        · exact ⟨(0, false), .inl ⟨t, ht, .inr ⟨hl, rfl⟩⟩⟩
        · exact ⟨(_, true), .inl ⟨t, ht, .inl ⟨hl, rfl⟩⟩⟩
      · exact ⟨(0, true), .inr ⟨rfl, fun t ht => hn ⟨t, ht⟩⟩⟩
    exact ⟨R.1, R.2, fun A c W hj => specCountFewest_yes s f o A c q js R W hj h hR, fun A c W hj => implCountFewest_yes s f o A c q js R W hj h hR⟩
end Go.Proofs.Ytiekdokgjdgajaa

/-
  The program's ladders that may be added: laddersToAdd.
-/
import Derived.Test.YtndodohngeaklaaC1d
import Derived.Test.YtndodohngeaklaaC1ba
import Derived.Test.YtndodohngeaklaaWB
import Derived.Test.YtndodohngeaklaaM14
namespace Go.Proofs.Ytndodohngeaklaa
open Go.RowKit

/-- A ladder may be put in. -/
def mayPut (s f o : Int) (js : List (Int × Int)) (p : Int × Int) : Bool := good ⟨s, f, o, put js p⟩
/-- The squares where the first jumps end. -/
def endsF (js : List (Int × Int)) (k : Nat) (i : Nat) : Bool := (js.take k).any (fun j => j.2 == (i : Int))
theorem endsF_succ (js : List (Int × Int)) (k : Nat) (hk : k < js.length) (e : Nat) (he : js[k].2 = (e : Int)) (i : Nat) : (if i = e then true else endsF js k i) = endsF js (k + 1) i := by
  unfold endsF
  rw [List.take_succ_eq_append_getElem hk, List.any_append, List.any_cons, List.any_nil, Bool.or_false, he]
  by_cases h : i = e
  · subst h; simp
  · have h2 : ((e : Int) == (i : Int)) = false := by simp; omega
    simp [h, h2]
theorem boolZeroA : Try.zeroCells83 = arrT (fun _ => false) := by kernel_rfl
theorem own_base' {w : World} {base b0 e size n : Nat} {v : Value} {xs : List Value} (h : w.ownsRow base e size v n xs) (hb : b0 ≤ base) : w.ownsRow b0 e size v n xs := by
  obtain ⟨h0, h | ⟨g, cap, cs, e1, hg, r⟩⟩ := h
  · exact ⟨h0, .inl h⟩
  · exact ⟨h0, .inr ⟨g, cap, cs, e1, Nat.le_trans hb hg, r⟩⟩
theorem keepcell' {w : World} {o : Obj} {b i : Nat} (h : b < w.heap.size) : (w.alloc o).cell? ⟨b, i, none⟩ = w.cell? ⟨b, i, none⟩ := bcell (below1 w o) h
set_option maxRecDepth 100000 in
set_option maxHeartbeats 1000000 in
theorem laddersToAdd_any (s f o : Int) (A : Option Addr) (c : Nat) (js : List (Int × Int)) (w : World) (hj : RJ w w.heap.size A js) (hgd : good ⟨s, f, o, js⟩ = true) (h20 : js.length < 20) :
    Calls Try.prog 48 #[.agg #[.int .i64 s, .int .i64 f, .int .i64 o, .slice A js.length c]] w fun e w' =>
      ∃ v, e = .returned v ∧ w'.ownsRow w.heap.size 38 2 v (rowsL (mayPut s f o js) s.toNat (s.toNat - 1)).length (flatJ (rowsL (mayPut s f o js) s.toNat (s.toNat - 1))) ∧ Below w.heap.size w w' := by
  have hl := hj.1
  have hst := storeCourse s f o (fun i => jumpOf js i)
  have hz := good_sizes hgd
  obtain ⟨ti, hi, hz0, hz1, hz2⟩ := info_parts infoJump1
  have hn20 : ¬ (20 : Int) ≤ (js.length : Int) := by omega
  have HG := Lib.hid hgd; clear hgd
  go_enter Try.func48, Try.ntmps48
  go_wp2_with fail
  refine (courseOf_yes _ _ _ _ _ _ _ (hj.go (below1 _ _)) HG.out).mono ?_
  rintro e w2 ⟨rfl, hx⟩
  obtain ⟨cb, hcb⟩ : ∃ cb, cb = w2.heap.size := ⟨_, rfl⟩
  have hb := box_on (Below.refl _ _) hx (by simp)
  have hs2 : w.heap.size + 1 ≤ w2.heap.size := by have := hb.size; simpa using this
  have bc := boxcells (box_on hb (below1 w2 (.cells (crsCells s f o (fun i => jumpOf js i)) 58)) hs2)
  have hCn : CA (w2.alloc (.cells (crsCells s f o (fun i => jumpOf js i)) 58)) w2.heap.size s f o (fun i => jumpOf js i) := heap_alloc_at _ _ _ rfl
  have hD2 : Below w.heap.size w (w2.alloc (.cells (crsCells s f o (fun i => jumpOf js i)) 58)) := ((below1 _ _).trans (hb.mono (by omega))).alloc (by omega) _
  have bz := boolZeroA
  clear hx hb
  have hC3 : CA ((w2.alloc (.cells (crsCells s f o (fun i => jumpOf js i)) 58)).alloc (.cells (arrT (fun _ => false)) 83)) w2.heap.size s f o (fun i => jumpOf js i) := (Below.heap_alloc _ _ _ (by simp)).trans hCn
  have hD3 := hD2.alloc (by simp; omega) (.cells (arrT (fun _ => false)) 83)
  have hE3 : ((w2.alloc (.cells (crsCells s f o (fun i => jumpOf js i)) 58)).alloc (.cells (arrT (fun _ => false)) 83)).heap[w2.heap.size + 1]? = some (.cells (arrT (endsF js 0)) 83 (0, 0)) := (heap_alloc_at _ _ _ (by simp)).trans (by rfl)
  have bc3 : ∀ i, ((w2.alloc (.cells (crsCells s f o (fun i => jumpOf js i)) 58)).alloc (.cells (arrT (fun _ => false)) 83)).cell? ⟨w.heap.size, i, none⟩ = #[.int .i64 s, .int .i64 f, .int .i64 o, .slice A js.length c][i]? := fun i => (keepcell' (by simp; omega)).trans (bc i)
  go_wp2_with fail
  clear hst bc bz
  go_loopw [27, 7] (fun i _ wr => ∃ k : Nat, k ≤ js.length ∧ i = .int .i64 (k : Int) ∧ Below w.heap.size w wr ∧ CA wr w2.heap.size s f o (fun i => jumpOf js i) ∧ wr.heap[w2.heap.size + 1]? = some (.cells (arrT (endsF js k)) 83 (0, 0))) (fun i _ _ => js.length - (intOf i).toNat)
  case atStart => exact ⟨0, Nat.zero_le _, rfl, hD3, hC3, hE3⟩
  case round =>
    clear hD3 hC3 hE3 bc3 hD2 hCn
    obtain ⟨k, hk, rfl, hD, hC, hE⟩ := hrel
    have hDs := hD.size
    have hEs := heap_lt hE
    by_cases hlt : k < js.length
    · have h3 : (k : Int) < (js.length : Int) := by omega
      obtain ⟨bb, off, rfl, hB, c1, c2⟩ := hj.at_ hD hlt
      have hen := good_ends HG.out (List.getElem_mem hlt)
      obtain ⟨e, he⟩ := Int.eq_ofNat_of_zero_le hen.2.1
      have HE := Lib.hid he
      rw [he] at c2
      have e101 : e < 101 := by omega
      have e101i : (e : Int) < 101 := by omega
      have ej := fun i => cell_of_row (wr.alloc (.cells #[.int .i64 js[k].1, .int .i64 js[k].2] 38)) (w2.heap.size + 1) i _ _ _ ((Below.heap_alloc _ _ _ hEs).trans hE)
      have ee := (ej e).trans (arrT_at _ e101)
      have ef := frozen_row (i := e) ((Below.heap_alloc wr (.cells #[.int .i64 js[k].1, .int .i64 js[k].2] 38) _ hEs).trans hE)
      clear ej he
      rw [HE.out] at ee ef
      go_wp2
      go_roundw
      case rel => exact ⟨k + 1, by omega, by go_num, (hD.setCell (by dsimp only; omega) _).alloc (by simpa using hDs) _, (Below.heap_alloc _ _ _ (by simpa using hC.lt)).trans ((Below.heap_setCell _ _ _ _ (by dsimp only; omega)).trans hC), (Below.heap_alloc _ _ _ (by simpa using hEs)).trans ((heap_set _ _ _ _ _ _ hE).trans (by rw [arrT_set _ e101, show (fun i => if i = e then true else endsF js k i) = endsF js (k + 1) from funext fun i => endsF_succ js k hlt e HE.out i]))⟩
      case measure => simp [intOf]; omega
    · obtain rfl : k = js.length := by omega
      have h3 : ¬ (js.length : Int) < (js.length : Int) := by omega
      go_wp2_with fail
      have hS1 : ∃ S : Nat, s.toNat = S ∧ s = (S : Int) := ⟨s.toNat, rfl, by omega⟩
      obtain ⟨S, hS0, hS⟩ := hS1
      have HS0 := Lib.hid hS0
      have hS100 : 1 ≤ S ∧ S ≤ 100 := by omega
      have HS := Lib.hid hS
      clear hS hS0
      go_loopw [8, 9, 10] (fun v fr _ wr => ∃ n : Nat, n ≤ S - 1 ∧ fr = .int .i64 ((n : Int) + 1) ∧ Below w.heap.size w wr ∧ CA wr w2.heap.size s f o (fun i => jumpOf js i) ∧ wr.heap[w2.heap.size + 1]? = some (.cells (arrT (endsF js js.length)) 83 (0, 0)) ∧ wr.ownsRow (w2.heap.size + 2) 38 2 v (rowsL (mayPut s f o js) S n).length (flatJ (rowsL (mayPut s f o js) S n))) (fun _ fr _ _ => S - (intOf fr).toNat)
      case atStart => exact ⟨0, Nat.zero_le _, rfl, hD, hC, hE, World.ownsRow_nil _ _ _ _⟩
      case round =>
        clear hD hC hE hDs hEs
        obtain ⟨n, hn, rfl, hD, hC, hE, hown⟩ := hrel
        have hDs := hD.size
        have hEs := heap_lt hE
        have c0 := hC.sq
        by_cases hln : n < S - 1
        · have h4 : (n : Int) + 1 < s := by have := HS.out; omega
          have n101 : n + 1 < 101 := by omega
          have n101i : (n : Int) + 1 < 101 := by omega
          have n0i : (0 : Int) ≤ (n : Int) + 1 := by omega
          have ntn : ((n : Int) + 1).toNat = n + 1 := by omega
          have ee := (cell_of_row wr (w2.heap.size + 1) (n + 1) _ _ _ hE).trans (arrT_at _ n101)
          have hgp : ∀ t : Nat, t < S - (n + 1) → mayPut s f o js (((n + 1 : Nat) : Int), ((n + 1 : Nat) : Int) + 1 + (t : Int)) = ((onSq s js ((n + 1 : Nat) : Int) && onSq s js (((n + 1 : Nat) : Int) + 1 + (t : Int))) && !(endsF js js.length (n + 1))) := fun t ht => by
            unfold mayPut
            rw [good_put HG.out h20 (by omega) (by omega) (by have := HS.out; omega), endsF, List.take_of_length_le (Nat.le_refl _)]
          have HGP := Lib.hid hgp; clear hgp
          have hcn : ((n + 1 : Nat) : Int) = (n : Int) + 1 := by omega
          have hrl := rowsL_len (mayPut s f o js) S n
          have hrl2 : n * S ≤ 100 * 100 := Nat.mul_le_mul (by omega) hS100.2
          have skip : (∀ t : Nat, t < S - (n + 1) → mayPut s f o js (((n + 1 : Nat) : Int), ((n + 1 : Nat) : Int) + 1 + (t : Int)) = false) → rowsL (mayPut s f o js) S (n + 1) = rowsL (mayPut s f o js) S n := fun h => by
            rw [rowsL_succ, rowL_none h _ (Nat.le_refl _), List.append_nil]
          have HSK := Lib.hid skip; clear skip
          cases hEb : endsF js js.length (n + 1)
          · rw [hEb] at ee
            have HEB := Lib.hid hEb; clear hEb
            cases hon : onSq s js ((n : Int) + 1)
            · have HON := Lib.hid hon; clear hon
              go_wp2_with (go_at_call 34; refine (holds_any _ _ _ _ _ _ _ hC.cv (by omega)).mono ?_; rintro e w' ⟨rfl, rfl⟩; rw [HON.out])
              go_roundw
              case rel =>
                refine ⟨n + 1, by omega, by go_num, hD, hC, hE, ?_⟩
                rw [HSK.out (fun t ht => by rw [HGP.out t ht, hcn, HON.out, Bool.false_and, Bool.false_and])]
                exact hown
              case measure => simp [intOf]; omega
            · have HON := Lib.hid hon; clear hon
              go_wp2_with (go_at_call 34; refine (holds_any _ _ _ _ _ _ _ hC.cv (by omega)).mono ?_; rintro e w' ⟨rfl, rfl⟩; rw [HON.out])
              go_loopw [8, 10] (fun v to wi => ∃ t : Nat, t ≤ S - (n + 1) ∧ to = .int .i64 ((n : Int) + 1 + 1 + (t : Int)) ∧ Below w.heap.size w wi ∧ CA wi w2.heap.size s f o (fun i => jumpOf js i) ∧ wi.heap[w2.heap.size + 1]? = some (.cells (arrT (endsF js js.length)) 83 (0, 0)) ∧ wi.ownsRow (w2.heap.size + 2) 38 2 v (rowsL (mayPut s f o js) S n ++ rowL (mayPut s f o js) (n + 1) t).length (flatJ (rowsL (mayPut s f o js) S n ++ rowL (mayPut s f o js) (n + 1) t))) (fun _ to _ => S + 1 - (intOf to).toNat)
              case atStart => exact ⟨0, Nat.zero_le _, by go_num, hD, hC, hE, by simpa [rowL] using hown⟩
              case round =>
                clear hD hC hE hDs hEs c0 ee hown
                obtain ⟨t, ht, rfl, hD, hC, hE, hown⟩ := hrel
                have hDs := hD.size
                have hEs := heap_lt hE
                have hCs := hC.lt
                have c0 := hC.sq
                have hf := own_from hown
                by_cases hlt2 : t < S - (n + 1)
                · have h5 : (n : Int) + 1 + 1 + (t : Int) ≤ s := by have := HS.out; omega
                  have hrt := rowL_len (mayPut s f o js) (n + 1) t
                  have hlen : (rowsL (mayPut s f o js) S n ++ rowL (mayPut s f o js) (n + 1) t).length ≤ 20000 := by rw [List.length_append]; omega
                  cases hob : onSq s js ((n : Int) + 1 + 1 + (t : Int))
                  · have HOB := Lib.hid hob; clear hob
                    have HR := Lib.hid (show rowsL (mayPut s f o js) S n ++ rowL (mayPut s f o js) (n + 1) (t + 1) = rowsL (mayPut s f o js) S n ++ rowL (mayPut s f o js) (n + 1) t by
                      rw [rowL_succ, HGP.out t hlt2, hcn, HOB.out, Bool.and_false, Bool.false_and]; simp)
                    go_wp2_with (go_at_call 34; refine (holds_any _ _ _ _ _ _ _ hC.cv (by omega)).mono ?_; rintro e w' ⟨rfl, rfl⟩; rw [HOB.out])
                    go_roundw
                    case rel =>
                      refine ⟨t + 1, by omega, by go_num, hD, hC, hE, ?_⟩
                      rw [HR.out]; exact hown
                    case measure => simp [intOf]; omega
                  · have HOB := Lib.hid hob; clear hob
                    have HR := Lib.hid (show rowsL (mayPut s f o js) S n ++ rowL (mayPut s f o js) (n + 1) (t + 1) = (rowsL (mayPut s f o js) S n ++ rowL (mayPut s f o js) (n + 1) t) ++ [((n : Int) + 1, (n : Int) + 1 + 1 + (t : Int))] by
                      rw [rowL_succ, HGP.out t hlt2, hcn, HOB.out, HON.out, HEB.out]; simp)
                    go_wp2_with (first | (go_at_call 34; refine (holds_any _ _ _ _ _ _ _ hC.cv (by omega)).mono ?_; rintro e w' ⟨rfl, rfl⟩; rw [HOB.out]) | (at_builtin; go_loud (refine wpList_append_own _ rfl _ _ 28 rfl (w2.heap.size + 2) 38 ti (.agg #[.int .i64 0, .int .i64 0]) 2 16 Try.underlying28 hi hz0 hz1 hz2 rfl (by decide) _ _ _ rfl (hown.alloc _) ⟨wr.heap.size, 0, none⟩ 1 1 [.int .i64 ((n : Int) + 1), .int .i64 ((n : Int) + 1 + 1 + (t : Int))] rfl rfl (cell_new2' _ _ _ _ (by simp)) (two_int _ _) (by unfold maxLen; omega) (by omega) (by simp; omega) ?_; intro v1 w4 hown4 hg4 _)))
                    go_roundw
                    case rel =>
                      refine ⟨t + 1, by omega, by go_num, (hD.alloc hDs _).grown hg4 (by simp; omega) (fun g hg => by have := hf g hg; omega), (hg4.block _ (by simp; omega) (fun e => by have := hf _ e.symm; omega)).trans ((Below.heap_alloc _ _ _ hCs).trans hC), (hg4.block _ (by simp; omega) (fun e => by have := hf _ e.symm; omega)).trans ((Below.heap_alloc _ _ _ hEs).trans hE), ?_⟩
                      rw [HR.out, flatJ_app, List.length_append]
                      exact hown4
                    case measure => simp [intOf]; omega
                · have h5 : ¬ (n : Int) + 1 + 1 + (t : Int) ≤ s := by have := HS.out; omega
                  obtain rfl : t = S - (n + 1) := by omega
                  go_wp2
                  go_roundw
                  case rel =>
                    refine ⟨n + 1, by omega, by go_num, hD, hC, hE, ?_⟩
                    rw [rowsL_succ]; exact hown
                  case measure => simp [intOf]; omega
          · rw [hEb] at ee
            have HEB := Lib.hid hEb; clear hEb
            go_wp2
            go_roundw
            case rel =>
              refine ⟨n + 1, by omega, by go_num, hD, hC, hE, ?_⟩
              rw [HSK.out (fun t ht => by rw [HGP.out t ht, HEB.out, Bool.not_true, Bool.and_false])]
              exact hown
            case measure => simp [intOf]; omega
        · have h4 : ¬ (n : Int) + 1 < s := by have := HS.out; omega
          obtain rfl : n = S - 1 := by omega
          go_wp2
          go_ret
          refine ⟨_, rfl, ?_, hD⟩
          rw [HS0.out]
          exact own_base' hown (by omega)

/-- The ladders that may be put in, in their order. -/
def ladsL (s f o : Int) (js : List (Int × Int)) : List (Int × Int) := if js.length < 20 then rowsL (mayPut s f o js) s.toNat (s.toNat - 1) else []
set_option maxRecDepth 100000 in
set_option maxHeartbeats 400000 in
theorem laddersToAdd_full (s f o : Int) (A : Option Addr) (c : Nat) (js : List (Int × Int)) (w : World) (hj : RJ w w.heap.size A js) (hgd : good ⟨s, f, o, js⟩ = true) (h20 : ¬ js.length < 20) :
    Calls Try.prog 48 #[.agg #[.int .i64 s, .int .i64 f, .int .i64 o, .slice A js.length c]] w fun e w' => e = .returned (.slice none 0 0) ∧ Below w.heap.size w w' := by
  have hl := hj.1
  have hst := storeCourse s f o (fun i => jumpOf js i)
  have hn20 : (20 : Int) ≤ (js.length : Int) := by omega
  have HG := Lib.hid hgd; clear hgd
  go_enter Try.func48, Try.ntmps48
  go_wp2_with fail
  refine (courseOf_yes _ _ _ _ _ _ _ (hj.go (below1 _ _)) HG.out).mono ?_
  rintro e w2 ⟨rfl, hx⟩
  have hb := box_on (Below.refl _ _) hx (by simp)
  have hs2 : w.heap.size + 1 ≤ w2.heap.size := by have := hb.size; simpa using this
  have bc := boxcells (box_on hb (below1 w2 (.cells (crsCells s f o (fun i => jumpOf js i)) 58)) hs2)
  go_wp2
  go_ret
  exact ⟨rfl, ((below1 _ _).trans (hb.mono (by omega))).alloc (by omega) _⟩
theorem laddersToAdd_all (s f o : Int) (A : Option Addr) (c : Nat) (js : List (Int × Int)) (w : World) (hj : RJ w w.heap.size A js) (hgd : good ⟨s, f, o, js⟩ = true) :
    Calls Try.prog 48 #[.agg #[.int .i64 s, .int .i64 f, .int .i64 o, .slice A js.length c]] w fun e w' =>
      ∃ v, e = .returned v ∧ w'.ownsRow w.heap.size 38 2 v (ladsL s f o js).length (flatJ (ladsL s f o js)) ∧ Below w.heap.size w w' := by
  by_cases h : js.length < 20
  · have e : ladsL s f o js = rowsL (mayPut s f o js) s.toNat (s.toNat - 1) := by rw [ladsL, if_pos h]
    rw [e]
    exact laddersToAdd_any s f o A c js w hj hgd h
  · have e : ladsL s f o js = [] := by rw [ladsL, if_neg h]
    rw [e]
    refine (laddersToAdd_full s f o A c js w hj hgd h).mono ?_
    rintro e w' ⟨rfl, hx⟩
    exact ⟨_, rfl, World.ownsRow_nil _ _ _ _, hx⟩
theorem ladsL_mem {s f o : Int} {js : List (Int × Int)} (hz : 1 ≤ s ∧ s ≤ 100) {p : Int × Int} (h : p ∈ ladsL s f o js) : good ⟨s, f, o, put js p⟩ = true ∧ 1 ≤ p.1 ∧ p.1 < s ∧ p.1 < p.2 ∧ p.2 ≤ s := by
  unfold ladsL at h
  split at h
  · obtain ⟨h1, h2, h3, h4, h5⟩ := rowsL_mem (by omega) h
    exact ⟨h1, h2, by omega, h4, by omega⟩
  · simp at h
theorem ladsL_len {s f o : Int} {js : List (Int × Int)} (hz : 1 ≤ s ∧ s ≤ 100) : (ladsL s f o js).length ≤ 10000 := by
  unfold ladsL
  split
  · have h1 := rowsL_len (mayPut s f o js) s.toNat (s.toNat - 1)
    have h2 : (s.toNat - 1) * s.toNat ≤ 100 * 100 := Nat.mul_le_mul (by omega) (by omega)
    omega
  · simp
end Go.Proofs.Ytndodohngeaklaa

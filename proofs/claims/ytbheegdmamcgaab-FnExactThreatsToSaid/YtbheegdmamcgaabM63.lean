/-
  Plain mathematics of chapter 7: a state with one token moved. Nothing of the program.
-/
import Derived.Test.YtbheegdmamcgaabM62
namespace Go.Proofs.Ytbheegdmamcgaab

def upL (L : List (List Int)) (p t : Nat) (y : Int) : List (List Int) := L.set p ((L.getD p []).set t y)
section
variable {L : List (List Int)} {p t : Nat} {y q k : Int} {n : Nat}
theorem upL_len : (upL L p t y).length = L.length := by simp [upL]
theorem upL_at {z : Nat} (hz : z < L.length) (hz' : z < (upL L p t y).length) : (upL L p t y)[z] = if p = z then L[z].set t y else L[z] := by
  have h2 : z < (L.set p ((L.getD p []).set t y)).length := hz'
  have e0 : (upL L p t y)[z] = (L.set p ((L.getD p []).set t y))[z]'h2 := rfl
  refine e0.trans ?_
  rw [List.getElem_set]
  split
  · rename_i e
    subst e
    rw [List.getD_eq_getElem?_getD, List.getElem?_eq_getElem hz]
    rfl
  · rfl
theorem upL_row {z : Nat} (hz : z < L.length) (hz' : z < (upL L p t y).length) : (upL L p t y)[z].length = L[z].length := by
  rw [upL_at hz hz']
  split <;> simp
theorem upL_val {z b : Nat} (hz : z < L.length) (hz' : z < (upL L p t y).length) (hb : b < L[z].length) (hb' : b < (upL L p t y)[z].length) : (upL L p t y)[z][b] = if z = p ∧ b = t then y else L[z][b] := by
  have h : (upL L p t y)[z][b]? = (if p = z then L[z].set t y else L[z])[b]? := by rw [upL_at hz hz']
  rw [List.getElem?_eq_getElem hb'] at h
  by_cases e : p = z
  · rw [if_pos e, List.getElem?_set] at h
    by_cases e2 : t = b
    · rw [if_pos e2, if_pos (by omega)] at h
      rw [if_pos ⟨e.symm, e2.symm⟩]
      injection h
    · rw [if_neg e2, List.getElem?_eq_getElem hb] at h
      rw [if_neg (by omega)]
      injection h
  · rw [if_neg e, List.getElem?_eq_getElem hb] at h
    rw [if_neg (by omega)]
    injection h
theorem stF_upL (hp : p < L.length) (ht : t < L[p].length) : stF q (upL L p t y) = updX (stF q L) p t y := by
  funext a b
  unfold updX
  by_cases ha : a < L.length
  · have ha' : a < (upL L p t y).length := by rw [upL_len]; exact ha
    by_cases hb : b < L[a].length
    · have hb' : b < (upL L p t y)[a].length := by rw [upL_row ha]; exact hb
      rw [stF_at ha' hb', upL_val ha ha' hb hb', stF_at ha hb]
    · have hb' : ¬ b < (upL L p t y)[a].length := by rw [upL_row ha]; exact hb
      rw [if_neg (by rintro ⟨rfl, rfl⟩; exact hb ht)]
      simp only [stF, ha, ha', hb, hb', dif_pos, dif_neg, not_false_eq_true]
  · have ha' : ¬ a < (upL L p t y).length := by rw [upL_len]; exact ha
    rw [if_neg (by omega)]
    simp only [stF, ha, ha', dif_neg, not_false_eq_true]
theorem sta_upL (h : Sta q k n L) (hy : -1 ≤ y ∧ y ≤ q) : Sta q k n (upL L p t y) := by
  refine ⟨by rw [upL_len]; exact h.len, fun z hz => ?_, fun z hz b hb => ?_⟩
  · rw [upL_row (by rw [upL_len] at hz; exact hz)]
    exact h.row z (by rw [upL_len] at hz; exact hz)
  · have hz' : z < L.length := by rw [upL_len] at hz; exact hz
    have hb' : b < L[z].length := by rw [upL_row hz'] at hb; exact hb
    rw [upL_val hz' hz hb' hb]
    split
    · exact hy
    · exact h.val z hz' b hb'
end
/-- The first tokens of a list that are another player's. -/
def othL (P : List (Int × Int)) (p : Int) : List (Int × Int) := P.filter (fun a => !(a.1 == p))
theorem othL_yes {P : List (Int × Int)} {p : Int} {j : Nat} (h : j < P.length) (e : (P[j].1 == p) = false) : othL (P.take (j + 1)) p = othL (P.take j) p ++ [P[j]] := by
  unfold othL
  rw [List.take_succ_eq_append_getElem h, List.filter_append]
  simp [e]
theorem othL_no {P : List (Int × Int)} {p : Int} {j : Nat} (h : j < P.length) (e : (P[j].1 == p) = true) : othL (P.take (j + 1)) p = othL (P.take j) p := by
  unfold othL
  rw [List.take_succ_eq_append_getElem h, List.filter_append]
  simp [e]
end Go.Proofs.Ytbheegdmamcgaab

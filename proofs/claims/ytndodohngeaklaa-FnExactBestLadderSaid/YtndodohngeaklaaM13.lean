/-
  Plain mathematics: what sorted jumps give, against jumps put, taken out and turned.
-/
import Derived.Test.YtndodohngeaklaaM12
namespace Go.Proofs.Ytndodohngeaklaa

theorem sorted_of {s f o : Int} {L L' : List (Int × Int)} (hu : L'.Pairwise Up) (hv : L.Pairwise Up) (hp : L'.Perm L) (R : BdR) (hR : R = if good ⟨s, f, o, L⟩ then ((s, f, o, L), true) else noBd) :
    (if good ⟨s, f, o, L'⟩ then ((s, f, o, L'), true) else noBd) = R := by
  obtain ⟨h1, h2⟩ := good_same (s := s) (f := f) (o := o) hu hv hp
  rw [hR, h1]
  cases h : good ⟨s, f, o, L⟩
  · rfl
  · rw [h2 h]
theorem addR_sorted {s f o : Int} {js L' : List (Int × Int)} {j : Int × Int} (hg : good ⟨s, f, o, js⟩ = true) (hp : L'.Perm (js ++ [j])) (hu : L'.Pairwise Up) :
    (if good ⟨s, f, o, L'⟩ then ((s, f, o, L'), true) else noBd) = addR s f o js j := by
  refine sorted_of hu (put_up (upS_up (good_upS hg)) j) (hp.trans ?_) _ ?_
  · exact (List.perm_append_comm.trans (put_perm js j).symm)
  · rw [addR, hg, Bool.true_and]
theorem dropR_sorted {s f o x : Int} {js L' : List (Int × Int)} (hg : good ⟨s, f, o, js⟩ = true) (hx : js.any (fun j => j.1 == x) = true) (hp : L'.Perm (js.filter (notFrom x))) (hu : L'.Pairwise Up) :
    (if good ⟨s, f, o, L'⟩ then ((s, f, o, L'), true) else noBd) = dropR s f o js x := by
  refine sorted_of hu (upS_up ((good_upS hg).sublist List.filter_sublist)) hp _ ?_
  rw [dropR, hg, hx, good_part hg]; rfl
theorem turnR_sorted {s f o : Int} {js L' : List (Int × Int)} (hg : good ⟨s, f, o, js⟩ = true) (hp : L'.Perm (js.map turnOf)) (hu : L'.Pairwise Up) :
    (if good ⟨s, f, o, L'⟩ then ((s, f, o, L'), true) else noBd) = turnR s f o js := by
  refine sorted_of hu (turned_up js) (hp.trans (turned_perm js).symm) _ ?_
  rw [turnR, hg, Bool.true_and]
end Go.Proofs.Ytndodohngeaklaa

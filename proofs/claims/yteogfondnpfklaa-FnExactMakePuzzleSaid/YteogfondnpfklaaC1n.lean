/-
  How far squares are from the end, the model's: sqFar.
-/
import Derived.Test.YteogfondnpfklaaC1k
import Derived.Test.YteogfondnpfklaaWRows
import Derived.Test.YteogfondnpfklaaM8
import Derived.Maps.AppendAt
namespace Go.Proofs.Yteogfondnpfklaa
open Go.RowKit

/-- Who leads to a square by one throw, told by now: all squares before k, and k by the first j faces. -/
def Preds (s f o : Int) (js : List (Int × Int)) (k j : Nat) (Lst : Nat → List Nat) : Prop :=
  (∀ y x, x ∈ Lst y ↔ okB s js x ∧ ((x < k ∧ eB s f o js x y) ∨ (x = k ∧ ∃ face, 1 ≤ face ∧ face ≤ j ∧ nxB s o js x face = y))) ∧ ∀ y, (Lst y).length ≤ k * 8 + j
theorem Preds.zero (s f o : Int) (js : List (Int × Int)) : Preds s f o js 0 0 (fun _ => []) :=
  ⟨fun y x => by
    constructor
    · intro h; simp at h
    · rintro ⟨_, ⟨h, _⟩ | ⟨_, face, h1, h2, _⟩⟩ <;> omega, fun _ => by simp⟩
theorem Preds.step {s f o : Int} {js : List (Int × Int)} {k j y : Nat} {Lst : Nat → List Nat} (h : Preds s f o js k j Lst) (hk : okB s js k) (hy : nxB s o js k (j + 1) = y) : Preds s f o js k (j + 1) (fun z => if z = y then Lst y ++ [k] else Lst z) := by
  refine ⟨fun z x => ?_, fun z => ?_⟩
  · by_cases e : z = y
    · subst e
      simp only [if_true, List.mem_append, List.mem_singleton]
      rw [h.1 z x]
      constructor
      · rintro (⟨h1, h2 | ⟨h2, face, h3, h4, h5⟩⟩ | rfl)
        · exact ⟨h1, .inl h2⟩
        · exact ⟨h1, .inr ⟨h2, face, h3, by omega, h5⟩⟩
        · exact ⟨hk, .inr ⟨rfl, j + 1, by omega, by omega, hy⟩⟩
      · rintro ⟨h1, h2 | ⟨h2, face, h3, h4, h5⟩⟩
        · exact .inl ⟨h1, .inl h2⟩
        · exact .inr h2
    · simp only [e, if_false]
      rw [h.1 z x]
      constructor
      · rintro ⟨h1, h2 | ⟨h2, face, h3, h4, h5⟩⟩
        · exact ⟨h1, .inl h2⟩
        · exact ⟨h1, .inr ⟨h2, face, h3, by omega, h5⟩⟩
      · rintro ⟨h1, h2 | ⟨h2, face, h3, h4, h5⟩⟩
        · exact ⟨h1, .inl h2⟩
        · refine ⟨h1, .inr ⟨h2, face, h3, ?_, h5⟩⟩
          rcases Nat.lt_or_ge face (j + 1) with h6 | h6
          · omega
          · obtain rfl : face = j + 1 := by omega
            subst h2
            exact absurd (h5.symm.trans hy) e
  · have h1 := h.2 z
    have h2 := h.2 y
    by_cases e : z = y
    · simp only [e, if_true, List.length_append, List.length_singleton]; omega
    · simp only [e, if_false]; omega
theorem Preds.done {s f o : Int} {js : List (Int × Int)} {k j : Nat} {Lst : Nat → List Nat} (h : Preds s f o js k j Lst) (hj : j ≤ 8) (hd : j = f.toNat ∨ ¬ okB s js k) : Preds s f o js (k + 1) 0 Lst := by
  refine ⟨fun y x => ?_, fun y => by have := h.2 y; omega⟩
  rw [h.1 y x]
  constructor
  · rintro ⟨h1, ⟨h2, h3⟩ | ⟨h2, face, h3, h4, h5⟩⟩
    · exact ⟨h1, .inl ⟨by omega, h3⟩⟩
    · subst h2
      rcases hd with hd | hd
      · exact ⟨h1, .inl ⟨by omega, face, h3, by omega, h5⟩⟩
      · exact absurd h1 hd
  · rintro ⟨h1, ⟨h2, h3⟩ | ⟨_, face, h3, h4, _⟩⟩
    · rcases Nat.lt_or_ge x k with h6 | h6
      · exact ⟨h1, .inl ⟨h6, h3⟩⟩
      · obtain rfl : x = k := by omega
        rcases hd with hd | hd
        · subst hd
          exact ⟨h1, .inr ⟨rfl, h3⟩⟩
        · exact absurd h1 hd
    · omega
/-- .. what a row holds in the end. -/
theorem Preds.all {s f o : Int} {js : List (Int × Int)} {S : Nat} {Lst : Nat → List Nat} (hS : s = (S : Int)) (h : Preds s f o js S 0 Lst) (y x : Nat) : x ∈ Lst y ↔ rB s f o js y x := by
  rw [h.1 y x, rB]
  constructor
  · rintro ⟨h1, ⟨h2, h3⟩ | ⟨_, face, h3, h4, _⟩⟩
    · exact ⟨by omega, h1, h3⟩
    · omega
  · rintro ⟨h1, h2, h3⟩
    exact ⟨h2, .inl ⟨by omega, h3⟩⟩

/-- What is far, as the model tells it. -/
def farF (F : Nat → Bool) (L : Nat → Nat) (i : Nat) : Int := if F i then (L i : Int) else -1
theorem own_slice {w : World} {base e size n : Nat} {v : Value} {xs : List Value} (h : w.ownsRow base e size v n xs) : ∃ A c, v = .slice A n c := by
  rcases h.2 with ⟨rfl, h0⟩ | ⟨g', cap, cs, rfl, _⟩
  · exact ⟨none, 0, by rw [h0]⟩
  · exact ⟨_, _, rfl⟩
theorem Rows2.look {w : World} {base g n : Nat} {t te : TypeId} {Lst : Nat → List Nat} (h : Rows2 w base g t te n Lst) {y : Nat} (hy : y < n) : ∃ A c, w.cell? ⟨g, y, none⟩ = some (.slice A (Lst y).length c) ∧
    ∀ i (hi : i < (Lst y).length), ∃ b, A = some ⟨b, 0, none⟩ ∧ base ≤ b ∧ b < w.heap.size ∧ w.cell? ⟨b, i, none⟩ = some (.int .i64 ((Lst y)[i] : Nat)) := by
  obtain ⟨v, v1, _, v3, _⟩ := h.row hy
  by_cases h0 : 0 < (Lst y).length
  · obtain ⟨b, c, rfl, h1, _, h3, h4⟩ := own_open v3 rfl h0
    exact ⟨_, c, v1, fun i hi => ⟨b, rfl, h1, h3, h4 i hi⟩⟩
  · obtain ⟨A, c, rfl⟩ := own_slice v3
    exact ⟨A, c, v1, fun i hi => by omega⟩
theorem farF_yes {F : Nat → Bool} {L : Nat → Nat} {i : Nat} (h : F i = true) : farF F L i = (L i : Int) := by simp [farF, h]
theorem farF_no {F : Nat → Bool} {L : Nat → Nat} {i : Nat} (h : F i = false) : farF F L i = -1 := by simp [farF, h]
theorem farF_set {F : Nat → Bool} {L : Nat → Nat} {y v : Nat} (i : Nat) : (if i = y then (v : Int) else farF F L i) = farF (setB F y) (setN L y v) i := by
  unfold farF setB setN
  by_cases e : i = y <;> simp [e]
theorem infoRow1 : (Try.prog.info? 54).map (fun i => (i.zero, i.size, i.bytes)) = some (some (.slice none 0 0), 1, 24) := by kernel_rfl
def FarIs (w : World) (s f o : Int) (js : List (Int × Int)) (e : Ending) (w' : World) : Prop :=
  ∃ g F L, e = .returned (.slice (some ⟨g, 0, none⟩) (s.toNat + 1) (s.toNat + 1)) ∧ w.heap.size ≤ g ∧ RowI w' g 3 (s.toNat + 1) (farF F L) ∧
    (∀ z, F z = true → okB s js z ∧ Least (fun t => Way (eB s f o js) z t s.toNat) (L z)) ∧ (∀ z, okB s js z → F z = false → ∀ t, ¬ Way (eB s f o js) z t s.toNat) ∧ (∀ z, L z ≤ 101) ∧ Below w.heap.size w w'
set_option maxRecDepth 100000 in
set_option maxHeartbeats 4000000 in
theorem sqFar_any (s f o : Int) (A : Option Addr) (c : Nat) (js : List (Int × Int)) (w : World) (hj : RJ w w.heap.size A js) (hg : good ⟨s, f, o, js⟩ = true) :
    Calls Try.prog 115 #[.agg #[.int .i64 s, .int .i64 f, .int .i64 o, .slice A js.length c]] w (FarIs w s f o js) := by
  have hl := hj.1
  have hz := good_sizes hg
  obtain ⟨S, rfl⟩ := Int.eq_ofNat_of_zero_le (show 0 ≤ s by omega)
  have hokE : okB S js S := ⟨Int.le_refl _, good_end hg⟩
  have HG := Lib.hid hg; have HOKE := Lib.hid hokE; clear hg hokE
  have iw : IntKind.i64.wrap ((S : Int) + 1) = ((S + 1 : Nat) : Int) := by rw [IntWalk.i64_in _ (by omega)]; omega
  obtain ⟨n, hn⟩ : ∃ n : Nat, S + 1 = n := ⟨_, rfl⟩
  rw [hn] at iw
  have hn1 : n ≤ 101 := by omega
  have iS : (S : Int) < (n : Int) := by omega
  have iSn : S < n := by omega
  have iS0 : (0 : Int) ≤ (S : Int) := by omega
  have HN := Lib.hid hn; clear hn
  obtain ⟨j0, hji, hjz0, hjz1, hjz2⟩ := info_parts infoInt1
  obtain ⟨r0, hri, hrz0, hrz1, hrz2⟩ := info_parts infoRow1
  go_enter Try.func115, Try.ntmps115
  go_wp2_with (at_make; refine wpList_make_full _ rfl _ _ 54 rfl (w.heap.size + 1) 3 j0 _ 1 Try.underlying54 hji hjz0 hjz1 _ _ _ _ n rfl rfl rfl rfl (by rw [hjz2]; omega) (by unfold maxLen; omega) (by simp) ?_; intro w1 hown hgrow)
  have hrow1 := madeI hown rfl
  simp only [World.size_alloc] at hrow1
  have hB1 : Below (w.heap.size + 1) (w.alloc (.cells #[.int .i64 S, .int .i64 f, .int .i64 o, .slice A js.length c] 33)) w1 := (Below.refl _ _).grown hgrow (by simp) (fun k e => by cases e)
  clear hown hgrow
  go_wp2_with fail
  go_loopw [4, 19] (fun _ i wr => ∃ k : Nat, k ≤ n ∧ i = .int .i64 (k : Int) ∧ RowI wr (w.heap.size + 1) 3 n (fun i => if i < k then -1 else 0) ∧ Below (w.heap.size + 1) (w.alloc (.cells #[.int .i64 S, .int .i64 f, .int .i64 o, .slice A js.length c] 33)) wr) (fun _ i _ => n - (intOf i).toNat)
  case atStart => exact ⟨0, Nat.zero_le _, rfl, hrow1.congr (fun i _ => by simp), hB1⟩
  case round =>
    clear hrow1 hB1
    obtain ⟨k, hk, rfl, hrow, hB⟩ := hrel
    by_cases hlt : k < n
    · have h3 : (k : Int) < (n : Int) := by omega
      have d1 := hrow.cell hlt
      have d2 := hrow.free k
      go_wp2
      go_roundw
      case rel => exact ⟨k + 1, hlt, by go_num, (hrow.set hlt (-1)).congr (fun i _ => by by_cases e : i = k; (subst e; simp); (have e2 : (i < k + 1) = (i < k) := by apply propext; omega); simp [e, e2]), hB.setCell (by simp) _⟩
      case measure => simp [intOf]; omega
    · have h3 : ¬ (k : Int) < (n : Int) := by omega
      obtain rfl : n = k := by omega
      have d1 := hrow.cell iSn
      have d2 := hrow.free S
      have bc := boxcells hB
      have hs1 := hrow.lt
      have hB2 := hB.setCell (p := ⟨w.heap.size + 1, S, none⟩) (by simp) (.int .i64 0)
      have hrow2 : RowI (wr.setCell ⟨w.heap.size + 1, S, none⟩ (.int .i64 0)) (w.heap.size + 1) 3 n (farF (fun i => i == S) (fun _ => 0)) := (hrow.set iSn 0).congr (fun i hi => by unfold farF; by_cases e : i = S <;> simp [e, hi])
      have bc2 := boxcells hB2
      clear hrow hB
      go_wp2_with (at_make; go_loud (refine wpList_make_full _ rfl _ _ 66 rfl (w.heap.size + 2) 54 r0 _ 1 Try.underlying66 hri hrz0 hrz1 _ _ _ _ n rfl rfl rfl rfl (by rw [hrz2]; omega) (by unfold maxLen; omega) (by simp; omega) ?_; intro w3 hown hgrow))
      obtain ⟨gb, hgb⟩ : ∃ gb, gb = wr.heap.size := ⟨_, rfl⟩
      have hR3 : Rows2 w3 (gb + 1) gb 54 3 n (fun _ => []) := Rows2.made hown (by rw [hgb]; simp) (by omega)
      have hrow3 := hrow2.grown hgrow (by simp)
      have hB3 := hB2.grown hgrow (by simp; omega) (fun k e => by cases e)
      have hs3 := hR3.lt
      simp only [World.size_setCell] at *
      rw [← hgb] at hs1 ⊢
      clear hown hgrow hrow2 hB2 bc bc2 d1 d2 hgb h3
      go_wp2_with fail
      go_loopw [6, 7, 8] (fun sq _ _ wr => ∃ (k : Nat) (Lst : Nat → List Nat), k ≤ S ∧ sq = .int .i64 (k : Int) ∧ RowI wr (w.heap.size + 1) 3 n (farF (fun i => i == S) (fun _ => 0)) ∧ Rows2 wr (gb + 1) gb 54 3 n Lst ∧ Preds S f o js k 0 Lst ∧ Below (w.heap.size + 1) (w.alloc (.cells #[.int .i64 S, .int .i64 f, .int .i64 o, .slice A js.length c] 33)) wr ∧ gb + 1 ≤ wr.heap.size) (fun sq _ _ _ => S - (intOf sq).toNat)
      case atStart => exact ⟨0, _, Nat.zero_le _, rfl, hrow3, hR3, Preds.zero _ _ _ _, hB3, by omega⟩
      case round =>
        clear hrow3 hR3 hB3 hs3
        obtain ⟨k, Lst, hkS, rfl, hrow, hR, hP, hB, hsz⟩ := hrel
        have bc := boxcells hB
        by_cases hlt : k < S
        · have h3 : (k : Int) < (S : Int) := by omega
          have HP := Lib.hid hP; clear hP
          go_wp2_with fail
          go_loopw [7, 8] (fun fc _ wi => ∃ (j : Nat) (Lst : Nat → List Nat), j ≤ f.toNat ∧ fc = .int .i64 ((j : Int) + 1) ∧ RowI wi (w.heap.size + 1) 3 n (farF (fun i => i == S) (fun _ => 0)) ∧ Rows2 wi (gb + 1) gb 54 3 n Lst ∧ Preds S f o js k j Lst ∧ Below (w.heap.size + 1) (w.alloc (.cells #[.int .i64 S, .int .i64 f, .int .i64 o, .slice A js.length c] 33)) wi ∧ gb + 1 ≤ wi.heap.size) (fun fc _ _ => f.toNat + 1 - (intOf fc).toNat)
          case atStart => exact ⟨0, Lst, Nat.zero_le _, rfl, hrow, hR, HP.out, hB, hsz⟩
          case round =>
            clear hrow hR HP hB hsz bc
            obtain ⟨j, Lst, hjf, rfl, hrow, hR, hP, hB, hsz⟩ := hrel
            have bc := boxcells hB
            have hBw := (below1 w (.cells #[.int .i64 S, .int .i64 f, .int .i64 o, .slice A js.length c] 33)).trans (hB.mono (by omega))
            by_cases hlj : j < f.toNat
            · have h4 : (j : Int) + 1 ≤ f := by omega
              cases hon : onSq S js k
              · have HON := Lib.hid hon; have HP := Lib.hid hP; clear hon hP
                go_wp2_with (go_at_call 86; refine (sqSquare_any _ _ _ _ _ _ _ _ (hj.go hBw)).mono ?_; rintro e w5 ⟨rfl, hx5⟩; rw [HON.out])
                go_roundw
                case rel =>
                  refine ⟨k + 1, Lst, hlt, by go_num, hrow.below hx5 hrow.lt, hR.below hx5, HP.out.done (by omega) (.inr fun hok => ?_), box_on hB hx5 (by have := hB.size; simpa using this), Nat.le_trans hsz hx5.size⟩
                  have : onSq S js k = true := by
                    rw [onSq, inB_iff.2 ⟨by omega, hok.1⟩, Bool.true_and, hok.2]; simp
                  rw [HON.out] at this; cases this
                case measure => simp [intOf]; omega
              · have hok := okB_of hon
                have HON := Lib.hid hon; have HP := Lib.hid hP
                have hth := nxB_eq (o := o) HG.out hok.1 (show 1 ≤ j + 1 by omega)
                have hoky := okB_next (o := o) HG.out f.toNat k hok (j + 1) (by omega) (by omega)
                obtain ⟨y, hy⟩ : ∃ y, nxB S o js k (j + 1) = y := ⟨_, rfl⟩
                have hyn : y < n := by have := okB_lt _ hoky; have := HN.out; omega
                rw [hy] at hth
                have hcast : (((j + 1 : Nat) : Int)) = (j : Int) + 1 := by omega
                rw [hcast] at hth
                have hyi : (y : Int) < (n : Int) := by omega
                have HTH := Lib.hid hth; have HY := Lib.hid hy; have HOK := Lib.hid hok
                have hlen := hP.2 y
                have hk0 : (0 : Int) ≤ (k : Int) := by omega
                have hks : (k : Int) ≤ (S : Int) := by omega
                clear hon hP hth hy hcast hok hoky
                go_wp2_with fail
                refine (sqSquare_any _ _ _ _ _ _ _ _ (hj.go hBw)).mono ?_
                rintro e w5 ⟨rfl, hx5⟩
                rw [HON.out]
                have hrow5 := hrow.below hx5 hrow.lt
                have hR5 := hR.below hx5
                have hB5 := box_on hB hx5 (by have := hB.size; simpa using this)
                have hsz5 := Nat.le_trans hsz hx5.size
                have bc5 := boxcells hB5
                have hBw5 := (below1 w (.cells #[.int .i64 S, .int .i64 f, .int .i64 o, .slice A js.length c] 33)).trans (hB5.mono (by omega))
                clear hrow hR hB hsz bc hBw hx5
                go_wp2_with fail
                refine (sqThrow_any _ _ _ _ _ _ _ _ _ (hj.go hBw5) hz.1.1 hz.1.2 hz.2.2.1.1 hz.2.2.1.2 hk0 hks (by omega) (by omega)).mono ?_
                rintro e w6 ⟨rfl, hx6⟩
                rw [HTH.out]
                have hrow6 := hrow5.below hx6 hrow5.lt
                have hR6 := hR5.below hx6
                have hB6 := box_on hB5 hx6 (by have := hB5.size; simpa using this)
                have hsz6 := Nat.le_trans hsz5 hx6.size
                clear hrow5 hR5 hB5 hsz5 bc5 hBw5 hx6
                obtain ⟨v, v1, v2, v3, v4⟩ := hR6.row hyn
                have V4 := Lib.hid v4; clear v4
                go_wp2_with (at_builtin; go_loud (refine wpList_append_own_at _ rfl _ _ 54 rfl (gb + 1) 3 j0 (.int .i64 0) 1 8 Try.underlying54 hji hjz0 hjz1 hjz2 rfl (by decide) _ _ _ rfl (v3.alloc _) ⟨w6.heap.size, 0, none⟩ 1 1 [.int .i64 (k : Int)] rfl rfl (cell_new1 _ _ _) (one_int _) (by unfold maxLen; omega) (by omega) (by simp; omega) ?_; intro v' w7 hown7 hg7 _ hat7; obtain ⟨A7, c7', rfl⟩ := own_slice hown7; have hb7 := hg7.block gb (by simp; omega) (fun e => by have := own_from (v3.alloc (.cells #[.int .i64 (k : Int)] 3)) gb e.symm; omega); have c7 : w7.cell? ⟨gb, y, none⟩ = some v := (World.cell?_of_block (a := ⟨gb, y, none⟩) hb7).trans ((bcell (below1 _ _) (by omega)).trans v1); have f7 : w7.frozen? ⟨gb, y, none⟩ = false := (World.frozen?_of_block (a := ⟨gb, y, none⟩) hb7).trans ((World.frozen?_of_block (a := ⟨gb, y, none⟩) (Below.heap_alloc w6 _ gb (by omega))).trans v2)))
                have hR8 := V4.out (.cells #[.int .i64 (k : Int)] 3) w7 _ k hg7 hown7 hat7 (by omega)
                have hrow8 := ((hrow6.alloc (.cells #[.int .i64 (k : Int)] 3)).grown hg7 (fun e => by have := own_from v3 _ e.symm; omega)).far (p := ⟨gb, y, none⟩) (by simp; omega) (.slice A7 ((Lst y).length + 1) c7')
                have hB8 := ((hB6.alloc (by omega) (.cells #[.int .i64 (k : Int)] 3)).grown hg7 (by simp; omega) (fun q e => by have := own_from v3 _ e; omega)).setCell (p := ⟨gb, y, none⟩) (by simp; omega) (.slice A7 ((Lst y).length + 1) c7')
                have hs8 := hg7.size
                go_roundw
                case rel => exact ⟨j + 1, _, hlj, by go_num, hrow8, hR8, HP.out.step HOK.out HY.out, hB8, by simp at hs8 ⊢; omega⟩
                case measure => simp [intOf]; omega
            · have h4 : ¬ (j : Int) + 1 ≤ f := by omega
              obtain rfl : j = f.toNat := by omega
              have HP := Lib.hid hP; clear hP
              go_wp2
              go_roundw
              case rel => exact ⟨k + 1, Lst, hlt, by go_num, hrow, hR, HP.out.done (by omega) (.inl rfl), hB, hsz⟩
              case measure => simp [intOf]; omega
        · have h3 : ¬ (k : Int) < (S : Int) := by omega
          obtain rfl : S = k := by omega
          have HP := Lib.hid hP
          obtain ⟨wq, hwq⟩ : ∃ wq : World, wq = wr := ⟨_, rfl⟩
          rw [← hwq] at hrow hR hB hsz bc ⊢
          clear hwq hP
          obtain ⟨B3, hB3⟩ : ∃ B3, wq.heap.size = B3 := ⟨_, rfl⟩
          have hgbB : gb < B3 := by omega
          have hB4 := hB.alloc (by omega) (.cells #[.int .i64 (S : Int)] 3)
          have hrow4 := hrow.alloc (.cells #[.int .i64 (S : Int)] 3)
          have hO4 : (wq.alloc (.cells #[.int .i64 (S : Int)] 3)).ownsRow B3 3 1 (.slice (some ⟨wq.heap.size, 0, none⟩) 1 1) 1 (natC ([] ++ [S])) := ⟨rfl, .inr ⟨wq.heap.size, 1, #[.int .i64 (S : Int)], rfl, by omega, heap_alloc_at _ _ _ rfl, Nat.le_refl _, by decide, rfl, rfl⟩⟩
          have hS4 : Bfs (rB S f o js) (okB S js) S (fun i => i == S) (fun _ => 0) [] [S] := Bfs.start HOKE.out
          have hU4 : ∀ b, b < B3 → b ≠ w.heap.size + 1 → (wq.alloc (.cells #[.int .i64 (S : Int)] 3)).heap[b]? = wq.heap[b]? := fun b h1 _ => Below.heap_alloc _ _ _ (by omega)
          have HLK := Lib.hid (fun (y : Nat) (hy : y < n) => hR.look hy)
          have HB3 := Lib.hid hB3
          have hfar : w.heap.size + 1 < gb := by omega
          clear hR hrow hB
          go_wp2_with fail
          try rw [hB3]
          rw [hB3] at hO4
          clear hB3
          go_loopw [9, 10, 12] (fun v k _ wi => ∃ (D T : List Nat) (F : Nat → Bool) (L : Nat → Nat) (d Lq : Nat), D.length = d ∧ (D ++ T).length = Lq ∧ k = .int .i64 (d : Int) ∧ wi.ownsRow B3 3 1 v Lq (natC (D ++ T)) ∧ RowI wi (w.heap.size + 1) 3 n (farF F L) ∧ Bfs (rB S f o js) (okB S js) S F L D T ∧ (∀ z, F z = true → Least (fun t => Way (rB S f o js) S t z) (L z)) ∧ (∀ z, L z + 1 ≤ Lq) ∧
            (∀ b, b < B3 → b ≠ w.heap.size + 1 → wi.heap[b]? = wq.heap[b]?) ∧ Below (w.heap.size + 1) (w.alloc (.cells #[.int .i64 S, .int .i64 f, .int .i64 o, .slice A js.length c] 33)) wi ∧ B3 + 1 ≤ wi.heap.size) (fun _ k _ _ => n - (intOf k).toNat)
          case atStart => exact ⟨[], [S], _, _, 0, 1, rfl, rfl, rfl, hO4, hrow4, hS4, fun z hz => least_start _ _ _ hz, fun _ => Nat.le_refl _, hU4, hB4, by simp; have := HB3.out; omega⟩
          case round =>
            clear hO4 hrow4 hS4 hU4 hB4
            obtain ⟨D, T, F, L, d, Lq, hd, hLq, rfl, hown, hrow, hSr, hLst, hLB, hU, hB, hsz⟩ := hrel
            have hlen := hSr.len (n := n) (fun x hx => by have := okB_lt x hx; have := HN.out; omega)
            have hL2 : Lq = d + T.length := by rw [← hLq, ← hd]; simp
            have hpos : 0 < Lq := by have := hLB 0; omega
            obtain ⟨gq, cq, rfl, hgq, hcq, hlq, hcell⟩ := own_open hown hLq hpos
            cases T with
            | nil =>
              obtain rfl : Lq = d := by simpa using hL2
              have t1 : ¬ (Lq : Int) < (Lq : Int) := by omega
              have hLn : Lq ≤ n := by simp at hlen; omega
              have HALL := Lib.hid (fun z => hSr.all hLst z)
              have HON := Lib.hid (fun x h => hSr.on x h)
              have HSEEN := Lib.hid hSr.seen
              have HLST := Lib.hid hLst; have HLB := Lib.hid hLB
              clear hcell hown hSr hlen hpos hd hLq hL2 hLst hLB hU
              go_wp2
              go_ret
              have en : (S : Int).toNat + 1 = n := by have := HN.out; omega
              refine ⟨w.heap.size + 1, F, L, by rw [en]; rfl, by omega, by rw [en]; exact hrow, fun z hz => ?_, fun z hok hz t => ?_, fun z => by have := HLB.out z; omega, (below1 _ _).trans (hB.mono (by omega))⟩
              · have hok := (HON.out z ((HSEEN.out z).1 hz)).1
                exact ⟨hok, by rw [Int.toNat_natCast]; exact (least_both HG.out rfl hok _).1 (HLST.out z hz)⟩
              · rw [Int.toNat_natCast]
                rcases HALL.out z with ⟨h1, _⟩ | ⟨_, h2⟩
                · rw [h1] at hz; cases hz
                · exact (none_both HG.out rfl hok).1 h2 t
            | cons x T =>
              have t1 : (d : Int) < (Lq : Int) := by simp at hL2; omega
              have cx := hcell d (by rw [hLq]; omega)
              have ex : (D ++ x :: T)[d]'(by rw [hLq]; omega) = x := by subst hd; simp
              rw [ex] at cx
              have hxn : x < n := by have := okB_lt x (hSr.on x (.inr (by simp))).1; have := HN.out; omega
              have ix : (x : Int) < (n : Int) := by omega
              obtain ⟨Ax, cxx, hbx, hrx⟩ := HLK.out x hxn
              have hbx' : wr.cell? ⟨gb, x, none⟩ = some (.slice Ax (Lst x).length cxx) := (World.cell?_of_block (a := ⟨gb, x, none⟩) (hU gb hgbB (by omega))).trans hbx
              have hRP : ∀ y, y ∈ Lst x ↔ rB S f o js x y := fun y => HP.out.all rfl x y
              have hRl := HP.out.2 x
              generalize Lst x = R at hbx' hbx hrx hRP hRl
              obtain ⟨m, hm⟩ : ∃ m, R.length = m := ⟨_, rfl⟩
              rw [hm] at hbx' hRl
              have hRlen : m ≤ 1000 := by omega
              have HRX := Lib.hid hrx; have HRP := Lib.hid hRP; have HM := Lib.hid hm; have HD := Lib.hid hd; have HL := Lib.hid hLq
              have HLST := Lib.hid hLst; have HLB := Lib.hid hLB; have HU := Lib.hid hU
              clear hcell ex hbx hrx hRP hRl hm hpos hL2 hLq hd hlen hLst hLB hU
              go_wp2_with fail
              go_loopw [9, 12, 82] (fun v _ i wj => ∃ (p : Nat) (T : List Nat) (F : Nat → Bool) (L : Nat → Nat) (Lq : Nat), p ≤ m ∧ i = .int .i64 (p : Int) ∧ (D ++ x :: T).length = Lq ∧ wj.ownsRow B3 3 1 v Lq (natC (D ++ x :: T)) ∧ RowI wj (w.heap.size + 1) 3 n (farF F L) ∧ Bfs (rB S f o js) (okB S js) S F L D (x :: T) ∧ (∀ z, F z = true → Least (fun t => Way (rB S f o js) S t z) (L z)) ∧ (∀ z, L z + 1 ≤ Lq) ∧
                (∀ r (hr : r < R.length), r < p → F R[r] = true) ∧ (∀ b, b < B3 → b ≠ w.heap.size + 1 → wj.heap[b]? = wq.heap[b]?) ∧ Below (w.heap.size + 1) (w.alloc (.cells #[.int .i64 S, .int .i64 f, .int .i64 o, .slice A js.length c] 33)) wj ∧ B3 + 1 ≤ wj.heap.size) (fun _ _ i _ => m - (intOf i).toNat)
              case atStart => exact ⟨0, T, F, L, Lq, Nat.zero_le _, rfl, HL.out, hown, hrow, hSr, HLST.out, HLB.out, fun r hr h => by omega, HU.out, hB, hsz⟩
              case round =>
                clear hown hrow hSr HLST HLB HU hB hsz hbx' cx t1 hcq HL
                obtain ⟨p, T, F, L, Lq, hpm, rfl, hLq, hown, hrow, hSr, hLst, hLB, hF, hU, hB, hsz⟩ := hrel
                have hd := HD.out
                have hlen := hSr.len (n := n) (fun x hx => by have := okB_lt x hx; have := HN.out; omega)
                simp only [List.length_cons] at hlen
                have hL2 : Lq = d + (T.length + 1) := by rw [← hLq, ← hd]; simp
                have hLn : Lq ≤ n := by omega
                have hdl : d < n := by omega
                by_cases hpl : p < m
                · have h4 : (p : Int) < (m : Int) := by omega
                  have hpR : p < R.length := by rw [HM.out]; exact hpl
                  obtain ⟨b, rfl, hb1, hb2, hcb⟩ := HRX.out p hpR
                  have hmem : R[p] ∈ R := List.getElem_mem hpR
                  have hry := (HRP.out _).1 hmem
                  obtain ⟨y, hy⟩ : ∃ y, R[p] = y := ⟨_, rfl⟩
                  rw [hy] at hcb hry
                  have cy : wr.cell? ⟨b, p, none⟩ = some (.int .i64 (y : Int)) := (World.cell?_of_block (a := ⟨b, p, none⟩) (hU b (by have := HB3.out; omega) (by omega))).trans hcb
                  have hyn : y < n := by have := okB_lt y hry.2.1; have := HN.out; omega
                  have iy : (y : Int) < (n : Int) := by omega
                  obtain ⟨gq, cq, rfl, hgq, hcq, hlq, hcell⟩ := own_open hown hLq (by omega)
                  have cx := hcell d (by rw [hLq]; omega)
                  have ex : (D ++ x :: T)[d]'(by rw [hLq]; omega) = x := by subst hd; simp
                  rw [ex] at cx
                  have t1 : (d : Int) < (Lq : Int) := by omega
                  have hFx : F x = true := (hSr.seen x).2 (.inr (by simp))
                  have dx := hrow.cell hxn
                  rw [farF_yes hFx] at dx
                  have hLx := hLB x
                  have dy := hrow.cell hyn
                  have fy := hrow.free y
                  have HLQ := Lib.hid hLq; have HF := Lib.hid hF; have HU := Lib.hid hU; have HY := Lib.hid hy
                  clear hcell ex hcb hmem hd hLq hF hU hy hL2 hlen
                  cases hFy : F y
                  · rw [farF_no hFy] at dy
                    have HLST := Lib.hid (fun z hz => hSr.push_least hry hFy hLst z hz)
                    have HSR := Lib.hid (hSr.push hry hry.2.1 hFy)
                    have HLB := Lib.hid (show ∀ z, setN L y (L x + 1) z + 1 ≤ Lq + 1 by intro z; unfold setN; have := hLB z; split <;> omega)
                    have hwr : IntKind.i64.wrap ((L x : Int) + 1) = ((L x + 1 : Nat) : Int) := by rw [IntWalk.i64_in _ (by omega)]; omega
                    have hrow6 := ((hrow.set hyn ((L x + 1 : Nat) : Int)).congr (h' := farF (setB F y) (setN L y (L x + 1))) (fun i _ => farF_set i)).alloc (.cells #[.int .i64 (y : Int)] 3)
                    have hown6 := (ownsRow_setCell_below hown (a := ⟨w.heap.size + 1, y, none⟩) (by simp; omega) (.int .i64 ((L x + 1 : Nat) : Int))).alloc (.cells #[.int .i64 (y : Int)] 3)
                    have hB6 := (hB.setCell (p := ⟨w.heap.size + 1, y, none⟩) (by simp) (.int .i64 ((L x + 1 : Nat) : Int))).alloc (by simp; omega) (.cells #[.int .i64 (y : Int)] 3)
                    have hU6 := Lib.hid (show ∀ b, b < B3 → b ≠ w.heap.size + 1 → ((wr.setCell ⟨w.heap.size + 1, y, none⟩ (.int .i64 ((L x + 1 : Nat) : Int))).alloc (.cells #[.int .i64 (y : Int)] 3)).heap[b]? = wq.heap[b]? from fun b h1 h2 => (Below.heap_alloc _ _ _ (by simp; omega)).trans ((Below.heap_setCell _ _ _ _ h2).trans (HU.out b h1 h2)))
                    have hcst : ((L x + 1 : Nat) : Int) = (L x : Int) + 1 := by omega
                    have HFX := Lib.hid hFx; have HFY := Lib.hid hFy
                    rw [hcst] at hwr hrow6 hown6 hB6
                    clear hrow hown hSr hLst hLB hFx hFy hcst HU hwr
                    go_wp2_with (at_builtin; go_loud (refine wpList_append_own _ rfl _ _ 54 rfl B3 3 j0 (.int .i64 0) 1 8 Try.underlying54 hji hjz0 hjz1 hjz2 rfl (by decide) _ _ _ rfl hown6 ⟨wr.heap.size, 0, none⟩ 1 1 [.int .i64 (y : Int)] rfl rfl (cell_new1' _ _ _ (by simp)) (one_int _) (by unfold maxLen; omega) (by omega) (by simp; omega) ?_; intro v1 w7 hown7 hg7 _))
                    have hf := own_from hown6
                    go_roundw
                    case rel =>
                      have hs7 := hg7.size
                      simp at hs7
                      refine ⟨p + 1, T ++ [y], setB F y, setN L y (L x + 1), Lq + 1, hpl, by go_num, by rw [← HLQ.out]; simp; omega, by rw [← List.cons_append, ← List.append_assoc, natC_snoc]; exact hown7, hrow6.grown hg7 (fun e => by have := hf _ e.symm; omega), HSR.out, HLST.out, HLB.out, fun r hr hrp => ?_, fun b h1 h2 => ?_, hB6.grown hg7 (by simp; omega) (fun j e => by have := hf _ e; omega), by omega⟩
                      · unfold setB
                        by_cases e : R[r] = y
                        · rw [if_pos e]
                        · rw [if_neg e]
                          by_cases e2 : r = p
                          · subst e2; exact absurd HY.out e
                          · exact HF.out r hr (by omega)
                      · exact (hg7.block b (by simp; omega) (fun e => by have := hf _ e.symm; omega)).trans (hU6.out b h1 h2)
                    case measure => simp [intOf]; omega
                  · rw [farF_yes hFy] at dy
                    have t2 : ¬ (L y : Int) < 0 := by omega
                    have HFX := Lib.hid hFx; have HFY := Lib.hid hFy; have HLST := Lib.hid hLst; have HLB := Lib.hid hLB
                    clear hFx hFy hLst hLB
                    go_wp2
                    go_roundw
                    case rel =>
                      refine ⟨p + 1, T, F, L, Lq, hpl, by go_num, HLQ.out, hown, hrow, hSr, HLST.out, HLB.out, fun r hr hrp => ?_, HU.out, hB, hsz⟩
                      by_cases e2 : r = p
                      · subst e2; rw [HY.out]; exact HFY.out
                      · exact HF.out r hr (by omega)
                    case measure => simp [intOf]; omega
                · have h4 : ¬ (p : Int) < (m : Int) := by omega
                  obtain rfl : m = p := by omega
                  have HSR := Lib.hid (hSr.finish fun y hy => by
                    obtain ⟨r, hr, e⟩ := List.getElem_of_mem ((HRP.out y).2 hy)
                    rw [← e]
                    exact hF r hr (by rw [← HM.out]; exact hr))
                  have HLQ := Lib.hid hLq; have HLST := Lib.hid hLst; have HLB := Lib.hid hLB; have HU := Lib.hid hU
                  clear hSr hLq hLst hLB hF hU hd hL2 hlen
                  go_wp2
                  go_roundw
                  case rel => exact ⟨D ++ [x], T, F, L, d + 1, Lq, by rw [← HD.out]; simp, by rw [← HLQ.out]; simp, by go_num, by simpa using hown, hrow, HSR.out, HLST.out, HLB.out, HU.out, hB, hsz⟩
                  case measure => simp [intOf]; omega
end Go.Proofs.Yteogfondnpfklaa

/- Several texts, one behind the other: C5z. -/
import Derived.Deep.CutRange
import Derived.RegionCalls
import Derived.Deep.RegionWith
import Derived.Test.YtmiefdjbhcpnbaaZPPak

namespace Go.Proofs.Ytmiefdjbhcpnbaa
open Go.RowKit

theorem WhoS.congr {w : World} {gw n f base : Nat} {D D' : Nat → Bool} {F F' : Nat → Nat → Int} (h : WhoS w gw n f base D F) (he : ∀ i < n, D' i = true → D i = true ∧ ∀ k < f, F i k = F' i k) : WhoS w gw n f base D' F' := by
  obtain ⟨cs, V, h1, h2, h3, h4⟩ := h
  refine ⟨cs, V, h1, h2, h3, fun i hi hd => ?_⟩
  obtain ⟨e1, e2⟩ := he i hi hd
  obtain ⟨b, c, e, hb, hr⟩ := h4 i hi e1
  exact ⟨b, c, e, hb, hr.congr e2⟩
theorem infoIntS : (Try.prog.info? 3).map (fun i => (i.zero, i.size, i.bytes)) = some (some (.int .i64 0), 1, 8) := by kernel_rfl
/-- Who moves from the i-th square, by each face. -/
def whoF (ch : Tab → Nat → Nat → Nat → Nat) (T : Tab) (s i k : Nat) : Int := whoI (movP ch (partS T s (i / (s + 1) + i % (s + 1)) (i / (s + 1))) s (i / (s + 1)) (i % (s + 1)) (k + 1))
/-- The squares done, when the sums above m are and of m itself the squares below x. -/
def doneS (s m x i : Nat) : Bool := decide (m < i / (s + 1) + i % (s + 1)) || (decide (i / (s + 1) + i % (s + 1) = m) && decide (i / (s + 1) < x))
theorem l1In_pair (n lo hi : Int) (w : World) : Calls Try.prog 33 #[.int .i64 n, .int .i64 lo, .int .i64 hi] w fun e w' => e = .returned (.bool (inB n lo hi)) ∧ w = w' := by
  go_enter Try.func33, Try.ntmps33
  by_cases h : lo ≤ n
  · have h1 : decide (lo ≤ n) = true := by simpa using h
    go_wp2
    go_ret
    exact ⟨ret_bool (by simp [inB, h1]), rfl⟩
  · have h1 : decide (lo ≤ n) = false := by simpa using h
    go_wp2
    go_ret
    exact ⟨ret_bool (by simp [inB, h1]), rfl⟩
theorem doneS_mono {s m x m' x' i : Nat} (h : ∀ u v, u ≤ s → v ≤ s → (m' < u + v ∨ u + v = m' ∧ u < x') → (m < u + v ∨ u + v = m ∧ u < x)) (hu : i / (s + 1) ≤ s ∧ i % (s + 1) ≤ s) (hd : doneS s m' x' i = true) : doneS s m x i = true := by
  simp only [doneS, Bool.or_eq_true, Bool.and_eq_true, decide_eq_true_eq] at hd ⊢
  exact h _ _ hu.1 hu.2 hd
theorem doneS_mono' {s m x x' j : Nat} (h : j / (s + 1) + j % (s + 1) = m → j / (s + 1) < x' → j / (s + 1) < x) (hd : doneS s m x' j = true) : doneS s m x j = true := by
  simp only [doneS, Bool.or_eq_true, Bool.and_eq_true, decide_eq_true_eq] at hd ⊢
  exact hd.imp id (fun h' => ⟨h'.1, h h'.1 h'.2⟩)
theorem setT_setT (P : Tab) (x y : Nat) (p q : Fr) : setT (setT P x y p) x y q = setT P x y q := by
  funext u v
  unfold setT
  by_cases h : u = x ∧ v = y <;> simp [h]
theorem doneS_none {s m x i : Nat} (h : ∀ u v, u ≤ s → v ≤ s → ¬ (m < u + v ∨ u + v = m ∧ u < x)) (hu : i / (s + 1) ≤ s ∧ i % (s + 1) ≤ s) : doneS s m x i = true → False := by
  intro hd
  simp only [doneS, Bool.or_eq_true, Bool.and_eq_true, decide_eq_true_eq] at hd
  exact h _ _ hu.1 hu.2 hd
theorem doneS_all {s i : Nat} (hu : i / (s + 1) ≤ s ∧ i % (s + 1) ≤ s) : doneS s 0 (s + 1) i = true := by
  simp only [doneS, Bool.or_eq_true, Bool.and_eq_true, decide_eq_true_eq]
  obtain ⟨u, hu'⟩ : ∃ u, u = i / (s + 1) := ⟨_, rfl⟩
  obtain ⟨v, hv'⟩ : ∃ v, v = i % (s + 1) := ⟨_, rfl⟩
  rw [← hu', ← hv'] at *
  omega
theorem movP_in {ch : Tab → Nat → Nat → Nat → Nat} {P : Tab} {s x y face tok : Nat} (hx : x ≤ s) (hy : y ≤ s) (h : movP ch P s x y face = some tok) :
    (if tok = 0 then x + face else x) ≤ s ∧ (if tok = 0 then y else y + face) ≤ s ∧ behP P x y tok face = P (if tok = 0 then x + face else x) (if tok = 0 then y else y + face) := by
  unfold movP at h
  unfold behP
  by_cases h1 : x + face ≤ s <;> by_cases h2 : y + face ≤ s <;> simp only [h1, h2, if_true, if_false] at h
  · by_cases e : tok = 0 <;> simp [e] <;> omega
  · cases h; simp; omega
  · cases h; simp; omega
  · cases h
/-- A box of two numbers. -/
def BoxF (w : World) (g : Nat) (p : Fr) : Prop := w.heap[g]? = some (.cells #[.int .i64 (p.1 : Nat), .int .i64 (p.2 : Nat)] 96 (0, 0))
theorem BoxF.set {w : World} {g : Nat} {p : Fr} (h : BoxF w g p) (q : Fr) : BoxF ((w.setCell ⟨g, 0, none⟩ (.int .i64 (q.1 : Nat))).setCell ⟨g, 1, none⟩ (.int .i64 (q.2 : Nat))) g q := heap_set _ _ _ _ _ _ (heap_set _ _ _ _ _ _ h)

set_option maxRecDepth 100000 in
set_option maxHeartbeats 4000000 in
theorem oiTable_any (r : Int) (ch : Tab → Nat → Nat → Nat → Nat) (G : Tab → Nat → Nat → Nat → Prop) (s f : Nat) (T : Tab) (w : World) (hR : RuleS r s ch G) (hT : TabOkS ch s f T) (hG : GoodS G s f T) (hb : ∀ u v, (T u v).1 ≤ 10000000 ∧ (T u v).2 ≤ 10000000) (hs : s ≤ 6) (hf1 : 1 ≤ f) (hf : f ≤ 8) :
    Calls Try.prog 39 #[.int .i64 s, .int .i64 f, .int .i64 r] w fun e w' => ∃ gw, e = .returned (.tuple #[.slice (some ⟨w.heap.size, 0, none⟩) ((s + 1) * (s + 1)) ((s + 1) * (s + 1)), .slice (some ⟨gw, 0, none⟩) ((s + 1) * (s + 1)) ((s + 1) * (s + 1))]) ∧ Below w.heap.size w w' ∧ TabS w' w.heap.size s (allT T s) ∧ WhoS w' gw ((s + 1) * (s + 1)) f (gw + 1) (fun _ => true) (whoF ch T s) := by
  have ws : IntKind.i64.wrap ((s : Int) + 1) = ((s + 1 : Nat) : Int) := by rw [IntWalk.i64_in _ (by omega)]; omega
  have wn : IntKind.i64.wrap (((s + 1 : Nat) : Int) * ((s + 1 : Nat) : Int)) = (((s + 1) * (s + 1) : Nat) : Int) := by
    rw [← Int.natCast_mul]
    have : (s + 1) * (s + 1) ≤ 7 * 7 := Nat.mul_le_mul (by omega) (by omega)
    exact IntWalk.i64_in _ (by omega)
  have w2 : IntKind.i64.wrap (2 * (s : Int)) = ((2 * s : Nat) : Int) := by rw [IntWalk.i64_in _ (by omega)]; omega
  obtain ⟨n, hn⟩ : ∃ n : Nat, n = (s + 1) * (s + 1) := ⟨_, rfl⟩
  have hn49 : n ≤ 7 * 7 := by rw [hn]; exact Nat.mul_le_mul (by omega) (by omega)
  have hTS : ∀ (W : World) (g : Nat) (T' : Tab), TabS W g s T' ↔ RowJ W g 96 n (fun i => (((T' (i / (s + 1)) (i % (s + 1))).1 : Int), ((T' (i / (s + 1)) (i % (s + 1))).2 : Int))) := fun W g T' => by rw [hn]; rfl
  rw [← hn] at wn ⊢
  obtain ⟨S, hS⟩ : ∃ S : Nat, S = s + 1 := ⟨_, rfl⟩
  rw [← hS] at ws wn
  have HN := Lib.hid hn; have HS := Lib.hid hS
  clear hn hS
  obtain ⟨j0, hji, hjz0, hjz1, hjz2⟩ := info_parts infoFrS
  obtain ⟨r0, hri, hrz0, hrz1, hrz2⟩ := info_parts infoSlS
  go_enter Try.func39, Try.ntmps39
  go_wp2_with (first | (at_make; refine wpList_make_full _ rfl _ _ 70 rfl w.heap.size 96 j0 _ 2 Try.underlying70 hji hjz0 hjz1 _ _ _ _ n rfl rfl rfl rfl (by rw [hjz2]; omega) (by unfold maxLen; omega) (Nat.le_refl _) ?_; intro w1 hown hgrow) | (at_make; go_loud (refine wpList_make_full _ rfl _ _ 26 rfl w1.heap.size 25 r0 _ 1 Try.underlying26 hri hrz0 hrz1 _ _ _ _ n rfl rfl rfl rfl (by rw [hrz2]; omega) (by unfold maxLen; omega) (Nat.le_refl _) ?_; intro w3 hown3 hgrow3)))
  have hrow1 := madeJ hown rfl
  have hB1 : Below w.heap.size w w1 := (Below.refl _ _).grown hgrow (Nat.le_refl _) (fun k e => by cases e)
  have hsz1 := hrow1.lt
  have hW3 : WhoS w3 w1.heap.size n f (w1.heap.size + 1) (fun _ => false) (whoF ch T s) := WhoS.made hown3 rfl
  have hrow3 := hrow1.grown hgrow3 (fun e => by cases e)
  have hB3 : Below w.heap.size w w3 := hB1.grown hgrow3 (by omega) (fun k e => by cases e)
  have hsz3 := hW3.lt
  have hlt49 : ∀ i < n, i / (s + 1) ≤ s ∧ i % (s + 1) ≤ s := fun i hi => by
    rw [HN.out] at hi
    exact ⟨by have := Nat.div_lt_of_lt_mul hi; omega, by have := Nat.mod_lt i (show s + 1 > 0 by omega); omega⟩
  have HLT := Lib.hid hlt49
  have t0 : TabS w3 w.heap.size s (partS T s (2 * s + 1) (s + 1)) := (hTS _ _ _).2 (hrow3.congr (fun i _ => by rw [partS_row, partS_start]; rfl))
  have d0 : WhoS w3 w1.heap.size n f (w1.heap.size + 1) (doneS s (2 * s + 1) (s + 1)) (whoF ch T s) := hW3.congr (fun i hi hd => (doneS_none (fun u v _ _ => by omega) (hlt49 i hi) hd).elim)
  obtain ⟨gt, hgt⟩ : ∃ gt, gt = w.heap.size := ⟨_, rfl⟩
  obtain ⟨gw, hgw⟩ : ∃ gw, gw = w1.heap.size := ⟨_, rfl⟩
  rw [← hgt]
  rw [← hgt] at t0 hB3
  rw [← hgw] at d0 hsz3 ⊢
  have HTS := Lib.hid hTS
  have HGT := Lib.hid hgt
  have hgg : gt < gw := by omega
  clear hgt hgw hrow1 hrow3 hB1 hgrow hown hgrow3 hown3 hW3 hjz0 hjz1 hjz2 hji hrz0 hrz1 hrz2 hri hTS hlt49
  go_loopw [11, 12, 13, 14, 15, 16, 17, 18, 19, 20, 21] (fun sm _ _ _ _ _ _ _ _ _ _ wr => ∃ k : Nat, k ≤ 2 * s + 1 ∧ sm = .int .i64 (((2 * s : Nat) : Int) - (k : Int)) ∧ TabS wr gt s (partS T s (2 * s + 1 - k) (s + 1)) ∧ WhoS wr gw n f (gw + 1) (doneS s (2 * s + 1 - k) (s + 1)) (whoF ch T s) ∧ Below gt w wr ∧ gw < wr.heap.size) (fun sm _ _ _ _ _ _ _ _ _ _ _ => (intOf sm + 1).toNat)
  case atStart => exact ⟨0, by omega, by simp, t0, d0, hB3, hsz3⟩
  case round =>
    clear t0 d0 hB3 hsz3
    obtain ⟨k, hk, rfl, hTab, hWho, hB, hsz⟩ := hrel
    by_cases hlt : k ≤ 2 * s
    · obtain ⟨m, hm⟩ : ∃ m, m = 2 * s - k := ⟨_, rfl⟩
      have e1 : ((2 * s : Nat) : Int) - (k : Int) = (m : Int) := by omega
      have e2 : 2 * s + 1 - k = m + 1 := by omega
      rw [e1]
      rw [e2, partS_row] at hTab
      rw [e2] at hWho
      have hm12 : m ≤ 12 := by omega
      have HM := Lib.hid hm
      have hm2 : m ≤ 2 * s := by omega
      have hpos : (0 : Int) ≤ (m : Int) := by omega
      have d1 : WhoS wr gw n f (gw + 1) (doneS s m 0) (whoF ch T s) := hWho.congr (fun i hi hd => ⟨doneS_mono (fun u v _ _ _ => by omega) (HLT.out i hi) hd, fun _ _ => rfl⟩)
      clear hWho hm e1 e2
      go_wp2_with fail
      go_loopw [12, 13, 14, 15, 16, 17, 18, 19, 20, 21] (fun a _ _ _ _ _ _ _ _ _ wi => ∃ x : Nat, x ≤ s + 1 ∧ a = .int .i64 x ∧ TabS wi gt s (partS T s m x) ∧ WhoS wi gw n f (gw + 1) (doneS s m x) (whoF ch T s) ∧ Below gt w wi ∧ gw < wi.heap.size) (fun a _ _ _ _ _ _ _ _ _ _ => s + 1 - (intOf a).toNat)
      case atStart => exact ⟨0, by omega, rfl, hTab, d1, hB, hsz⟩
      case round =>
        clear hTab d1 hB hsz
        obtain ⟨x, hx, rfl, hTab, hWho, hB, hsz⟩ := hrel
        by_cases hx2 : x ≤ s
        · have h1 : (x : Int) ≤ (s : Int) := by omega
          obtain ⟨b, hb'⟩ : ∃ b : Int, b = (m : Int) - (x : Int) := ⟨_, rfl⟩
          have wb : IntKind.i64.wrap ((m : Int) - (x : Int)) = b := by rw [← hb']; exact IntWalk.i64_in _ (by omega)
          have hin : inB b 0 (s : Int) = decide (x ≤ m ∧ m - x ≤ s) := by
            rw [Bool.eq_iff_iff]
            simp only [inB, Bool.and_eq_true, decide_eq_true_eq]
            omega
          have HB' := Lib.hid hb'
          by_cases hok : x ≤ m ∧ m - x ≤ s
          · obtain ⟨y, hy⟩ : ∃ y : Nat, y = m - x := ⟨_, rfl⟩
            have hby : b = (y : Int) := by omega
            have HY := Lib.hid hy
            clear hy hb'
            subst hby
            rw [decide_eq_true hok] at hin
            -- the square's number
            have hbP : ∀ u v, (partS T s m x u v).1 ≤ 10000000 ∧ (partS T s m x u v).2 ≤ 10000000 := fun u v => by unfold partS; by_cases h : u ≤ s ∧ v ≤ s ∧ (m < u + v ∨ u + v = m ∧ u < x) <;> simp [h]; exact hb u v
            have hys : y ≤ s := by have := HY.out; omega
            have hid : (x * (s + 1) + y) / (s + 1) = x := by rw [Nat.mul_comm, Nat.mul_add_div (by omega), Nat.div_eq_of_lt (by omega)]; omega
            have him : (x * (s + 1) + y) % (s + 1) = y := by rw [Nat.mul_comm, Nat.mul_add_mod, Nat.mod_eq_of_lt (by omega)]
            have hxS : x * (s + 1) ≤ 6 * 7 := Nat.mul_le_mul (by omega) (by omega)
            have wxS : IntKind.i64.wrap ((x : Int) * (S : Int)) = ((x * (s + 1) : Nat) : Int) := by rw [HS.out, ← Int.natCast_mul]; exact IntWalk.i64_in _ (by omega)
            have hIn := (hTab.at_ hx2 hys).1
            rw [← HN.out] at hIn
            obtain ⟨I1, hI1⟩ : ∃ I1, I1 = x * (s + 1) := ⟨_, rfl⟩
            rw [← hI1] at wxS hxS hid him hIn
            obtain ⟨I, hI⟩ : ∃ I, I = I1 + y := ⟨_, rfl⟩
            have wI : IntKind.i64.wrap ((I1 : Int) + (y : Int)) = (I : Int) := by rw [hI, IntWalk.i64_in _ (by omega)]; omega
            rw [← hI] at hid him hIn
            have HI := Lib.hid (show I = x * (s + 1) + y by rw [hI, hI1])
            clear hI hI1
            have bI : (I : Int) < (n : Int) := by omega
            obtain ⟨P, hP⟩ : ∃ P, P = partS T s m x := ⟨_, rfl⟩
            rw [← hP] at hbP hTab
            have HP := Lib.hid hP; clear hP
            obtain ⟨i0, hii, hiz0, hiz1, hiz2⟩ := info_parts infoIntS
            go_wp2_with (first | (go_at_call 33; refine (l1In_pair _ _ _ _).mono ?_; rintro e w' ⟨rfl, rfl⟩; rw [hin]) | (at_make; go_loud (refine wpList_make_full _ rfl _ _ 25 rfl (wr.heap.size + 1) 3 i0 _ 1 Try.underlying25 hii hiz0 hiz1 _ _ _ _ f rfl rfl rfl rfl (by rw [hiz2]; omega) (by unfold maxLen; omega) (by simp) ?_; intro w4 hown4 hgrow4)))
            obtain ⟨gb, hgb⟩ : ∃ gb, gb = wr.heap.size := ⟨_, rfl⟩
            have hB4 : Below gb wr w4 := by rw [hgb]; exact (below1 _ _).grown hgrow4 (by simp) (fun k e => by cases e)
            have k4 : BoxF w4 gb (f, 1) := by rw [hgb]; exact (hgrow4.block _ (by simp) (fun e => by cases e)).trans (heap_alloc_at _ _ _ rfl)
            have hrow4 := madeI hown4 rfl
            simp only [World.size_alloc] at hrow4
            rw [← hgb] at hrow4 hsz ⊢
            have hgtl := RowJ.lt hTab
            have hBg : gt < gb := by rw [hgb]; exact hgtl
            have HGB := Lib.hid hgb
            have HB9 := Lib.hid hB
            clear hgb hown4 hgrow4 hii hiz0 hiz1 hiz2
            have hGP : ∀ face, 1 ≤ face → face ≤ f → x + face ≤ s → y + face ≤ s → G P x y face := fun face h1 h2 h3 h4 => by have := hG x y face hx2 hys h1 h2 h3 h4; rwa [show x + y = m by have := HY.out; omega, ← HP.out] at this
            have hRn := fun (face : Nat) (W : World) (h : TabS W gt s P) (h1 : 1 ≤ face) (h2 : face ≤ f) => hR gt x y face n P W h hx2 hys h1 (by omega) hbP (hGP face h1 h2)
            rw [← HN.out] at hRn
            have HRN := Lib.hid hRn; clear hRn
            have hok2 := hT x y hx2 hys
            rw [show x + y = m by have := HY.out; omega, ← HP.out] at hok2
            have HOK := Lib.hid hok2; clear hok2
            have hTabB := fun (W : World) (h : Below gb wr W) => show TabS W gt s P from RowJ.below hTab h hBg
            have HTB := Lib.hid hTabB; clear hTabB
            have hWhoB := fun (W : World) (h : Below gb wr W) => WhoS.below hWho (by rw [← HGB.out]; exact h)
            have HWB := Lib.hid hWhoB; clear hWhoB
            have hne1 : gt ≠ gw := by omega
            have hne2 : gw ≠ gt := by omega
            have hne3 : gb ≠ gw := by omega
            have hne4 : gb ≠ gt := by omega
            have hgs : gb ≤ wr.heap.size := by rw [HGB.out]; exact Nat.le_refl _
            go_loopw [16, 18, 19, 20, 21] (fun cnt fc _ _ _ wi => ∃ k : Nat, k ≤ f ∧ cnt = .int .i64 ((behL ch P s x y k).length : Nat) ∧ fc = .int .i64 ((k + 1 : Nat) : Int) ∧ BoxF wi gb (totS ch P s f x y k) ∧ RowI wi (gb + 1) 3 f (fun j => if j < k then whoI (movP ch P s x y (j + 1)) else 0) ∧ Below gb wr wi) (fun _ fc _ _ _ _ => f + 1 - (intOf fc).toNat)
            case atStart => exact ⟨0, Nat.zero_le _, rfl, rfl, k4, hrow4.congr (fun i _ => by simp), hB4⟩
            case round =>
              clear k4 hrow4 hB4
              obtain ⟨k, hk, rfl, rfl, hbox, hrow, hBw⟩ := hrel
              have hgbl := heap_lt hbox
              have hrl := hrow.lt
              by_cases hkf : k < f
              · have h5 : ((k + 1 : Nat) : Int) ≤ (f : Int) := by omega
                have wk : IntKind.i64.wrap (((k + 1 : Nat) : Int) - 1) = (k : Int) := by rw [IntWalk.i64_in _ (by omega)]; omega
                have bk : (k : Int) < (f : Int) := by omega
                have hcw := HRN.out (k + 1) wr (HTB.out _ hBw) (by omega) (by omega)
                have HCW := Lib.hid hcw; clear hcw
                have HKF := Lib.hid hkf
                cases hmv : movP ch P s x y (k + 1) with
                | none =>
                  have HMV := Lib.hid hmv; clear hmv
                  go_wp2_with (go_at_call 51; go_loud (refine HCW.out.mono ?_; rintro e w5 ⟨rfl, hx5⟩; rw [HMV.out]; have hrow5 := hrow.below hx5 hrl; have c5 := hrow5.cell HKF.out; have f5 := hrow5.free k; simp only [whoI]))
                  go_roundw
                  case rel =>
                    have htn := totS_none (f := f) HMV.out
                    refine ⟨k + 1, HKF.out, by rw [htn.2], by go_num, ?_, ?_, ?_⟩
                    · rw [htn.1]
                      exact (Below.heap_setCell _ _ _ _ (by simp)).trans ((hx5.block _ hgbl).trans hbox)
                    · exact (hrow5.set HKF.out (-1)).congr (fun j hj => by by_cases e : j = k; (subst e; simp [HMV.out, whoI]); (have e2 : (j < k + 1) = (j < k) := by apply propext; omega); simp [e, e2])
                    · exact (hBw.trans (hx5.mono (by have := hBw.size; omega))).setCell (by simp) _
                  case measure => have := HKF.out; simp [intOf]; omega
                | some tok =>
                  obtain ⟨hX, hY, hbeh⟩ := movP_in hx2 hys hmv
                  have hadd := okTotS_at (f := f) (by have := HOK.out.1; simp only [okMeanS, Bool.and_eq_true] at this; exact this.1) hkf hmv
                  have hts := totS_some (f := f) hmv
                  rw [hbeh] at hadd hts
                  have HMV := Lib.hid hmv; clear hmv hbeh
                  have hnext := fun W => oiNext_any x y tok (k + 1) W (by omega) (by omega) (by omega)
                  obtain ⟨X, hXe⟩ : ∃ X, X = if tok = 0 then x + (k + 1) else x := ⟨_, rfl⟩
                  obtain ⟨Y, hYe⟩ : ∃ Y, Y = if tok = 0 then y else y + (k + 1) := ⟨_, rfl⟩
                  simp only [← hXe, ← hYe] at hnext
                  rw [← hXe] at hX hadd hts
                  rw [← hYe] at hY hadd hts
                  have HNX := Lib.hid hnext
                  have HTS2 := Lib.hid hts
                  clear hXe hYe hnext hts
                  obtain ⟨p, hp⟩ : ∃ p, p = totS ch P s f x y k := ⟨_, rfl⟩
                  obtain ⟨q, hq⟩ : ∃ q, q = P X Y := ⟨_, rfl⟩
                  rw [← hp] at hbox hadd
                  rw [← hq] at hadd
                  have HPP := Lib.hid hp; have HQ := Lib.hid hq
                  clear hp
                  have hXS : X * (s + 1) ≤ 6 * 7 := Nat.mul_le_mul (by omega) (by omega)
                  have wX : IntKind.i64.wrap ((X : Int) * (S : Int)) = ((X * (s + 1) : Nat) : Int) := by rw [HS.out, ← Int.natCast_mul]; exact IntWalk.i64_in _ (by omega)
                  have hat := fun W h => TabS.at_ (HTB.out W h) hX hY
                  simp only [← HN.out, ← hq] at hat
                  clear hq
                  obtain ⟨J1, hJ1⟩ : ∃ J1, J1 = X * (s + 1) := ⟨_, rfl⟩
                  simp only [← hJ1] at wX hXS hat
                  obtain ⟨J, hJ⟩ : ∃ J, J = J1 + Y := ⟨_, rfl⟩
                  have wJ : IntKind.i64.wrap ((J1 : Int) + (Y : Int)) = (J : Int) := by rw [hJ, IntWalk.i64_in _ (by omega)]; omega
                  simp only [← hJ] at hat
                  have bJ : (J : Int) < (n : Int) := by have := (hat _ hBw).1; omega
                  have HAT := Lib.hid hat
                  clear hat hJ hJ1
                  have hlen := behL_len ch P s x y k
                  have wl : IntKind.i64.wrap (((behL ch P s x y k).length : Int) + 1) = ((behL ch P s x y k).length : Int) + 1 := IntWalk.i64_in _ (by omega)
                  have h6 : ¬ (tok : Int) < 0 := by omega
                  have HAD := Lib.hid (fun W => oiAdd_any p q W hadd)
                  clear hadd
                  go_wp2_with (first | (go_at_call 51; go_loud (refine HCW.out.mono ?_; rintro e w5 ⟨rfl, hx5⟩; rw [HMV.out]; have hrow5 := hrow.below hx5 hrl; have c5 := hrow5.cell HKF.out; have f5 := hrow5.free k; simp only [whoI])) | (go_at_call 40; go_loud (refine (HNX.out _).mono ?_; rintro e w7 ⟨rfl, hx7⟩)))
                  have hrow7 := (hrow5.set HKF.out (tok : Int)).below hx7 (by simpa using hrow5.lt)
                  have hB5 := hBw.trans (hx5.mono (by have := hBw.size; omega))
                  have hs5 := hrow5.lt
                  have hB6 := hB5.setCell (p := ⟨gb + 1, k, none⟩) (by simp) (.int .i64 (tok : Int))
                  have hB7 := hB6.trans (hx7.mono (by simp; omega))
                  have kb7 : BoxF w7 gb p := (hx7.block _ (by simp; omega)).trans ((Below.heap_setCell _ _ _ _ (by simp)).trans ((hx5.block _ hgbl).trans hbox))
                  have hg7 := heap_lt kb7
                  obtain ⟨_, c1, c2⟩ := HAT.out _ hB7
                  have q7 := fun i => cell_of_row w7 gb i _ _ _ kb7
                  have HR7 := Lib.hid hrow7; have HB7 := Lib.hid hB7; have HK7 := Lib.hid kb7
                  clear hB5 hB6 hx7 c5 f5 hrow5 hx5 hrow hrow7 hB7 kb7
                  go_region_with (first | (go_at_call 52; refine (HAD.out _).mono ?_; rintro e w8 ⟨rfl, hx8⟩; have kb8 : BoxF w8 gb p := (hx8.block _ hg7).trans HK7.out; have f8 := fun i => frozen_row (i := i) kb8; have q8 := fun i => cell_of_row w8 gb i _ _ _ kb8))
                  all_goals
                    have hB8 := HB7.out.drew.trans (hx8.mono (Nat.le_of_lt hg7))
                    have hrow8 := HR7.out.drew.below hx8 HR7.out.lt
                    go_wp2
                    go_roundw
                    case rel =>
                      have hts := HTS2.out
                      refine ⟨k + 1, HKF.out, by rw [hts.2]; go_num, by go_num, ?_, ?_, ?_⟩
                      · rw [hts.1, ← HPP.out, ← HQ.out]
                        exact kb8.set (addS p q)
                      · exact ((hrow8.far (by simp) _).far (by simp) _).congr (fun j hj => by by_cases e : j = k; (subst e; simp [HMV.out, whoI]); (have e2 : (j < k + 1) = (j < k) := by apply propext; omega); simp [e, e2])
                      · exact (hB8.setCell (by simp) _).setCell (by simp) _
                    case measure => have := HKF.out; simp [intOf]; omega
              · obtain rfl : k = f := by omega
                have h5 : ¬ ((k + 1 : Nat) : Int) ≤ (k : Int) := by omega
                have hTw := HTB.out _ hBw
                have hWw := HWB.out _ hBw
                obtain ⟨⟨v0, cw⟩, fw⟩ := hWw.cell hIn
                obtain ⟨_, c1, c2⟩ := hTw.at_ hx2 hys
                have ft := RowJ.free hTw
                rw [← HI.out] at c1 c2
                have kb := fun i => cell_of_row wr gb i _ _ _ hbox
                have hxy : x + y = m := by have := HY.out; omega
                have hWp : WhoS (wr.setCell ⟨gw, I, none⟩ (.slice (some ⟨gb + 1, 0, none⟩) k k)) gw n k (gw + 1) (doneS s m (x + 1)) (whoF ch T s) :=
                  (hWw.put (Nat.lt_succ_self gw) hIn (by omega) hrow).congr (fun j hj hd => by
                    by_cases e : j = I
                    · rw [e]
                      refine ⟨by simp, fun i hi => ?_⟩
                      simp only [if_true, hi]
                      unfold whoF
                      rw [hid, him, hxy, ← HP.out]
                    · simp only [e, if_false]
                      refine ⟨?_, fun _ _ => trivial⟩
                      have hdm := Nat.div_add_mod j (s + 1)
                      have hnot : ¬ (j / (s + 1) = x ∧ j % (s + 1) = y) := fun h => e (by rw [← hdm, h.1, h.2, HI.out, Nat.mul_comm])
                      refine doneS_mono' ?_ hd
                      intro h1 h2
                      omega)
                have hTp : TabS (((wr.setCell ⟨gw, I, none⟩ (.slice (some ⟨gb + 1, 0, none⟩) k k)).setCell ⟨gt, I * 2, none⟩ (.int .i64 0)).setCell ⟨gt, I * 2 + 1, none⟩ (.int .i64 1)) gt s (setT P x y (0, 1)) := by
                  have h := TabS.set (RowJ.far hTw (p := ⟨gw, I, none⟩) hne1 (.slice (some ⟨gb + 1, 0, none⟩) k k)) hx2 hys (0, 1)
                  rw [← HI.out] at h
                  exact h
                have hWq := (hWp.far (p := ⟨gt, I * 2, none⟩) (by simp; omega) hne1 (.int .i64 0)).far (p := ⟨gt, I * 2 + 1, none⟩) (by simp; omega) hne1 (.int .i64 1)
                have hBq := ((((HB9.out.trans (hBw.mono (by rw [HGB.out] at hgs ⊢; omega))).setCell (p := ⟨gw, I, none⟩) (by simp; omega) (.slice (some ⟨gb + 1, 0, none⟩) k k)).setCell (p := ⟨gt, I * 2, none⟩) (by simp) (.int .i64 0)).setCell (p := ⟨gt, I * 2 + 1, none⟩) (by simp) (.int .i64 1))
                have hstep := partS_step T hx2 (show x ≤ m by omega) (show m - x ≤ s by omega)
                rw [show m - x = y by omega, ← HP.out] at hstep
                obtain ⟨hok1, hok2⟩ := HOK.out
                have HWP := Lib.hid hWq; have HTP := Lib.hid hTp; have HBQ := Lib.hid hBq; have HST := Lib.hid hstep
                have hsz9 := hWw.lt
                by_cases hmx : m < 2 * s
                · have h7 : (m : Int) < 2 * (s : Int) := by omega
                  simp only [okMeanS, Bool.and_eq_true, Bool.or_eq_true, decide_eq_true_eq, hxy] at hok1
                  obtain ⟨_, hok1⟩ := hok1
                  have hok3 := hok1.resolve_left (by omega)
                  unfold meanS at hok2
                  rw [if_pos (by omega)] at hok2
                  have hll := behL_len ch P s x y k
                  have HOV := Lib.hid (fun W => oiOver_any (totS ch P s k x y k) (behL ch P s x y k).length W hok3.1.1 hok3.1.2 (by omega) hok3.2)
                  have HO2 := Lib.hid hok2
                  clear hWp hTp hWq hBq hstep hok2 hok1 hok3 hll
                  go_wp2_with (go_at_call 53; go_loud (refine (HOV.out _).mono ?_; rintro e w9 ⟨rfl, hx9⟩; rw [HO2.out]; have hT9 := RowJ.below HTP.out hx9 (RowJ.lt HTP.out); have hf9 := RowJ.free hT9; obtain ⟨_, c91, c92⟩ := TabS.at_ hT9 hx2 hys; rw [← HI.out] at c91 c92))
                  go_roundw
                  case rel =>
                    refine ⟨x + 1, by omega, by go_num, ?_, ?_, ?_, ?_⟩
                    · have h := TabS.set hT9 hx2 hys (T x y)
                      rw [← HI.out, setT_setT, HST.out] at h
                      exact h
                    · exact ((HWP.out.below hx9).far (by simp; omega) hne1 _).far (by simp; omega) hne1 _
                    · exact ((HBQ.out.trans (hx9.mono (Nat.le_trans (Nat.le_of_eq HGT.out) HBQ.out.size))).setCell (by simp) _).setCell (by simp) _
                    · have := hx9.size; simp at this ⊢; omega
                  case measure => simp [intOf]; omega
                · have h7 : ¬ (m : Int) < 2 * (s : Int) := by omega
                  unfold meanS at hok2
                  rw [if_neg (by omega)] at hok2
                  have HO2 := Lib.hid hok2
                  clear hWp hTp hWq hBq hstep hok2 hok1
                  go_wp2_with fail
                  go_roundw
                  case rel => exact ⟨x + 1, by omega, by go_num, by have h := HTP.out; rw [HO2.out, HST.out] at h; exact h, HWP.out, HBQ.out, by simp; omega⟩
                  case measure => simp [intOf]; omega
          · rw [decide_eq_false hok] at hin
            clear hb'
            go_wp2_with (go_at_call 33; go_loud (refine (l1In_pair _ _ _ _).mono ?_; rintro e w' ⟨rfl, rfl⟩; rw [hin]))
            go_roundw
            case rel => exact ⟨x + 1, by omega, by go_num, by rw [partS_skip T hok]; exact hTab, hWho.congr (fun i hi hd => ⟨doneS_mono (fun u v _ _ _ => by omega) (HLT.out i hi) hd, fun _ _ => rfl⟩), hB, hsz⟩
            case measure => simp [intOf]; omega
        · obtain rfl : x = s + 1 := by omega
          have h1 : ¬ ((s + 1 : Nat) : Int) ≤ (s : Int) := by omega
          go_wp2
          go_roundw
          case rel => exact ⟨k + 1, by omega, by have := HM.out; congr 1; omega, by rw [show 2 * s + 1 - (k + 1) = m by have := HM.out; omega]; exact hTab, by rw [show 2 * s + 1 - (k + 1) = m by have := HM.out; omega]; exact hWho, hB, hsz⟩
          case measure => simp [intOf]
    · obtain rfl : k = 2 * s + 1 := by omega
      have e1 : ((2 * s : Nat) : Int) - ((2 * s + 1 : Nat) : Int) = -1 := by omega
      rw [e1]
      rw [show 2 * s + 1 - (2 * s + 1) = 0 by omega] at hTab hWho
      rw [partS_end] at hTab
      go_wp2
      go_ret2
      rw [HGT.out] at hB hTab ⊢
      exact ⟨gw, rfl, hB, hTab, hWho.congr (fun i hi _ => ⟨doneS_all (HLT.out i hi), fun _ _ => rfl⟩)⟩
end Go.Proofs.Ytmiefdjbhcpnbaa

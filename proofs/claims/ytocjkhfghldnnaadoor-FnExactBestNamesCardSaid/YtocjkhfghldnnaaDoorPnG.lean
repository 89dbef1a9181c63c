/- CountSingles in the model. -/
import Derived.Test.YtocjkhfghldnnaaDoorPnF
import Derived.Test.YtocjkhfghldnnaaDoorCdA
namespace Go.Proofs.YtocjkhfghldnnaaDoor
open Go.ChangeShapes Go.WideShapes Go.ChangeAt Go.RowKit Go.PlainAid
set_option linter.unusedVariables false

theorem pnAsked_any (A L : Option Addr) (c d : Nat) (x : Cd) (n : Int) (w : World) (hr : CdAt w A L x) (hl : CdFits x) :
    Calls Tryd.prog 36 #[x.val A c L d, .int .i64 n] w fun e w' => e = .returned (.bool (pB (NmbOk x n))) ∧ Below w.heap.size w w' := by
  obtain ⟨W, hW, hB⟩ := boxed 31 w A c L d x
  have HB := Lib.hid hB
  have HR := Lib.hid (hr.below hB.below)
  have HL := Lib.hid hl
  clear hr hl hB
  unfold boxCd at hW
  unfold Cd.val
  go_enter Tryd.func36, Tryd.ntmps36
  go_wp2_with fail
  rw [← hW]
  clear hW
  refine (cdGood_any A L c d x W HR.out HL.out).mono ?_
  rintro e w1 ⟨he, hb1⟩
  have HB1 := Lib.hid (Below_next HB.out.below hb1)
  clear hb1
  by_cases hok : CdOk x
  · rw [pB_yes hok] at he
    subst he
    by_cases hf : 1 ≤ n ∧ n ≤ 14
    · have HV := Lib.hid (pB_yes (show NmbOk x n from ⟨hok, hf.1, hf.2⟩))
      obtain ⟨h1, h2⟩ := hf
      clear hok
      go_wp2_with (first | (go_at_call 47; refine (l1In_yes _ _ _ _ (by omega) (by omega)).mono ?_; rintro e w2 ⟨rfl, rfl⟩))
      go_ret
      exact ⟨by rw [HV.out]; rfl, HB1.out⟩
    · have HV := Lib.hid (pB_no (fun h : NmbOk x n => hf ⟨h.lo, h.hi⟩))
      clear hok
      go_wp2_with (first | (go_at_call 47; refine (l1In_no _ _ _ _ (by omega)).mono ?_; rintro e w2 ⟨rfl, rfl⟩))
      go_ret
      exact ⟨by rw [HV.out]; rfl, HB1.out⟩
  · rw [pB_no hok] at he
    subst he
    have HV := Lib.hid (pB_no (fun h : NmbOk x n => hok h.cd))
    clear hok
    go_wp2
    go_ret
    exact ⟨by rw [HV.out]; rfl, HB1.out⟩
theorem l1Least_any (a b : Nat) (w : World) : Calls Tryd.prog 37 #[.int .i64 a, .int .i64 b] w fun e w' => e = .returned (.int .i64 (min a b : Nat)) ∧ w = w' := by
  rcases Nat.lt_or_ge a b with h | h
  · have HV := Lib.hid (Nat.min_eq_left (Nat.le_of_lt h))
    go_enter Tryd.func37, Tryd.ntmps37
    go_wp2
    go_ret
    exact ⟨by rw [HV.out]; rfl, rfl⟩
  · have HV := Lib.hid (Nat.min_eq_right h)
    go_enter Tryd.func37, Tryd.ntmps37
    go_wp2
    go_ret
    exact ⟨by rw [HV.out]; rfl, rfl⟩

/-- A list of n + 1 numbers. -/
def nL (n : Nat) (f : Nat → Int) : List Int := (List.range (n + 1)).map f
theorem nL_len (n : Nat) (f : Nat → Int) : (nL n f).length = n + 1 := by simp [nL]
theorem nL_it (n : Nat) (f : Nat → Int) (t : Nat) (h : t ≤ n) : it (nL n f) t = f t := by
  have := it_get (nL n f) t (by rw [nL_len]; omega)
  rw [nL, List.getElem?_map, List.getElem?_range (by omega)] at this
  simp only [Option.map_some, Option.some.injEq] at this
  exact this.symm
theorem nL_congr {n : Nat} {f g : Nat → Int} (h : ∀ t, t ≤ n → f t = g t) : nL n f = nL n g := it_ext _ _ (by rw [nL_len, nL_len]) (fun t ht => by
  rw [nL_len] at ht
  rw [nL_it n f t (by omega), nL_it n g t (by omega), h t (by omega)])
theorem nL_set {n : Nat} {f g : Nat → Int} {k : Nat} {v : Int} (hk : k ≤ n) (h : ∀ t, t ≤ n → g t = if t = k then v else f t) : (nL n f).set k v = nL n g := it_ext _ _ (by rw [List.length_set, nL_len, nL_len]) (fun t ht => by
  rw [List.length_set, nL_len] at ht
  rw [it_set _ _ _ _ (by rw [nL_len]; omega), nL_it n g t (by omega), h t (by omega), nL_it n f t (by omega)])
theorem nL_zero (n : Nat) : List.replicate (n + 1) (0 : Int) = nL n (fun _ => 0) := it_ext _ _ (by rw [List.length_replicate, nL_len]) (fun t ht => by
  rw [List.length_replicate] at ht
  rw [nL_it n _ t (by omega)]
  have := it_get (List.replicate (n + 1) (0 : Int)) t (by rw [List.length_replicate]; exact ht)
  rw [List.getElem?_replicate, if_pos ht] at this
  simp only [Option.some.injEq] at this
  exact this.symm)
/-- The choices out of m elements, on the way to those out of one more, from the last place down to k. -/
def owF (m k t : Nat) : Int := if k < t then bin (m + 1) t else bin m t
theorem owF_start (m n : Nat) : nL n (bin m) = nL n (owF m n) := nL_congr (fun t ht => by unfold owF; rw [if_neg (by omega)])
theorem owF_end (m n : Nat) : nL n (owF m 0) = nL n (bin (m + 1)) := nL_congr (fun t ht => by
  unfold owF
  split
  · rfl
  · obtain rfl : t = 0 := by omega
    rw [bin_zero, bin_zero])
theorem owF_step (m n k : Nat) (hk : k + 1 ≤ n) : (nL n (owF m (k + 1))).set (k + 1) (it (nL n (owF m (k + 1))) (k + 1) + it (nL n (owF m (k + 1))) k) = nL n (owF m k) := nL_set hk (fun t ht => by
  rw [nL_it _ _ _ hk, nL_it _ _ _ (by omega)]
  unfold owF
  by_cases e : t = k + 1
  · subst e
    rw [if_pos (by omega), if_pos rfl, if_neg (by omega), if_neg (by omega), bin]
  · rw [if_neg e]
    by_cases h : k < t
    · rw [if_pos h, if_pos (by omega)]
    · rw [if_neg h, if_neg (by omega)])
theorem owF_le (m k t : Nat) (h : m < 24) : 0 ≤ owF m k t ∧ owF m k t ≤ 16777216 := by
  unfold owF
  split
  · exact ⟨bin_nn _ _, Int.le_trans (bin_le _ _) (pow24 (by omega))⟩
  · exact ⟨bin_nn _ _, Int.le_trans (bin_le _ _) (pow24 (by omega))⟩
/-- The ways of one more family, on the way: all places below k, and the first j terms at k. -/
def nxF (x : Cd) (f k j t : Nat) : Int := if t < k then cw x (f + 1) t else if t = k then smT (fun i => cw x f (k - i) * bin (fsz x f) i) j else 0
theorem nxF_start (x : Cd) (f n : Nat) : nL n (fun _ => 0) = nL n (nxF x f 0 0) := nL_congr (fun t ht => by
  unfold nxF
  rw [if_neg (by omega)]
  split <;> rfl)
theorem nxF_row (x : Cd) (f n k : Nat) : nL n (nxF x f k (min k (flm x f) + 1)) = nL n (nxF x f (k + 1) 0) := nL_congr (fun t ht => by
  unfold nxF
  by_cases e : t = k
  · subst e
    rw [if_neg (by omega), if_pos rfl, if_pos (by omega), cw]
  · by_cases h : t < k
    · rw [if_pos h, if_pos (by omega)]
    · rw [if_neg h, if_neg e, if_neg (by omega)]
      split <;> rfl)
theorem nxF_end (x : Cd) (f n : Nat) : nL n (nxF x f (n + 1) 0) = nL n (cw x (f + 1)) := nL_congr (fun t ht => by
  unfold nxF
  rw [if_pos (by omega)])
theorem nxF_step (x : Cd) (f n k j : Nat) (hk : k ≤ n) : (nL n (nxF x f k j)).set k (it (nL n (nxF x f k j)) k + cw x f (k - j) * bin (fsz x f) j) = nL n (nxF x f k (j + 1)) := nL_set hk (fun t ht => by
  rw [nL_it _ _ _ hk]
  by_cases e : t = k
  · subst e
    rw [if_pos rfl]
    unfold nxF
    rw [if_neg (by omega), if_pos rfl, if_neg (by omega), if_pos rfl, smT]
  · rw [if_neg e]
    unfold nxF
    by_cases h : t < k
    · rw [if_pos h, if_pos h]
    · rw [if_neg h, if_neg e, if_neg h, if_neg e])
theorem cwbin_le {x : Cd} (h : CdOk x) {f : Nat} (hf : f ≤ 5) (i j : Nat) : 0 ≤ cw x f i * bin (fsz x f) j ∧ cw x f i * bin (fsz x f) j ≤ 281474976710656 := by
  have h1 := cw_le x f i
  have h2 := Int.le_trans h1.2 (pow24 (fsum_le h hf))
  have h3 := Int.le_trans (bin_le (fsz x f) j) (pow24 (fsz_le h f))
  exact ⟨Int.mul_nonneg h1.1 (bin_nn _ _), Int.le_trans (Int.mul_le_mul h2 h3 (bin_nn _ _) (by omega)) (by omega)⟩
theorem nxF_le {x : Cd} (h : CdOk x) {f : Nat} (hf : f < 5) (k j : Nat) (hj : j ≤ 20) : 0 ≤ nxF x f k j k ∧ nxF x f k j k ≤ 281474976710656 * 20 := by
  unfold nxF
  rw [if_neg (by omega), if_pos rfl]
  refine ⟨smT_nn _ (fun i _ => (cwbin_le h (by omega) _ _).1), Int.le_trans (smT_most 281474976710656 j (fun i _ => (cwbin_le h (by omega) _ _).2)) ?_⟩
  omega
theorem szF_yes {x : Cd} {f : Int} {k : Nat} (h : (it x.els k).fam = f) : szF x f (k + 1) = szF x f k + 1 := by rw [szF, if_pos h]
theorem szF_no {x : Cd} {f : Int} {k : Nat} (h : ¬ (it x.els k).fam = f) : szF x f (k + 1) = szF x f k := by rw [szF, if_neg h]

theorem made_nL {w1 : World} {g base n : Nat} (h : w1.ownsRow base 3 1 (.slice (some ⟨g, 0, none⟩) (n + 1) (n + 1)) (n + 1) (madeCells #[.int .i64 0] ((n + 1) * 1)).toList) : OwnAt w1 g 0 (nL n (fun _ => 0)) := by
  have HZ := made_flat (α := Int) #[.int .i64 0] 0 (n + 1) rfl (by decide)
  rw [← nL_zero]
  exact own_of_row (α := Int) (cap := n + 1) (e := 3) (base := base) (List.replicate (n + 1) (0 : Int)) (by rw [← HZ, List.length_replicate]; exact h)
theorem first_cw (x : Cd) (n : Nat) : (nL n (fun _ => 0)).set 0 1 = nL n (cw x 0) := nL_set (Nat.zero_le _) (fun t _ => by rw [cw])
theorem first_bin (n : Nat) : (nL n (fun _ => 0)).set 0 1 = nL n (bin 0) := nL_set (Nat.zero_le _) (fun t _ => by
  cases t with
  | zero => rfl
  | succ t => rfl)
/-- A list of numbers in a block. -/
structure Nums1 (w : World) (g n : Nat) (f : Nat → Int) : Prop where
  own : OwnAt w g 0 (nL n f)
  lt : g < w.heap.size
theorem Nums1.put {w : World} {g n k : Nat} {f h : Nat → Int} {v : Int} (q : Nums1 w g n f) (hk : k ≤ n) (e : (nL n f).set k v = nL n h) : Nums1 (w.setCell ⟨g, k, none⟩ (.int .i64 v)) g n h :=
  ⟨e ▸ q.own.putInt0 k v (by rw [nL_len]; omega), by simpa [World.setCell] using q.lt⟩
theorem Nums1.cell {w : World} {g n k : Nat} {f : Nat → Int} (q : Nums1 w g n f) (hk : k ≤ n) : IntOwn w g k (f k) := by
  have := q.own.int0 k (by rw [nL_len]; omega)
  rwa [nL_it n f k hk] at this
theorem Nums1.next {w w' : World} {g n : Nat} {f : Nat → Int} (q : Nums1 w g n f) (hb : Below w.heap.size w w') : Nums1 w' g n f := ⟨q.own.block (hb.block g q.lt), Nat.lt_of_lt_of_le q.lt hb.size⟩
theorem Nums1.over {B : Nat} {w w' : World} {g n : Nat} {f : Nat → Int} (q : Nums1 w g n f) (hb : Below B w w') (hg : g < B) : Nums1 w' g n f := ⟨q.own.block (hb.block g hg), Nat.lt_of_lt_of_le q.lt hb.size⟩
theorem Nums1.drew {w : World} {g n : Nat} {f : Nat → Int} (q : Nums1 w g n f) : Nums1 w.drew g n f := ⟨q.own.block rfl, q.lt⟩
theorem Nums1.congr {w : World} {g n : Nat} {f h : Nat → Int} (q : Nums1 w g n f) (e : nL n f = nL n h) : Nums1 w g n h := ⟨e ▸ q.own, q.lt⟩

set_option maxRecDepth 20000 in
set_option maxHeartbeats 8000000 in
theorem sCountSingles_any (A L : Option Addr) (c d : Nat) (x : Cd) (n : Int) (w : World) (hr : CdAt w A L x) (hl : CdFits x) :
    Calls Tryd.prog 18 #[x.val A c L d, .int .i64 n] w fun e w' => e = .returned (csV x n) ∧ Below w.heap.size w w' := by
  obtain ⟨W, hW, hB⟩ := boxed 31 w A c L d x
  have HB := Lib.hid hB
  have HX := Lib.hid hB.at_
  have HR := Lib.hid (hr.below hB.below)
  have HL := Lib.hid hl
  clear hr hl hB
  unfold boxCd at hW
  unfold Cd.val
  obtain ⟨i0, hi, hz0, hz1, hz2⟩ := info_parts Tryd.infoInt
  go_enter Tryd.func18, Tryd.ntmps18
  go_wp2_with fail
  rw [← hW]
  clear hW
  refine (pnAsked_any A L c d x n W HR.out HL.out).mono ?_
  rintro e w1 ⟨he, hb1⟩
  have HB1 := Lib.hid (Below_next HB.out.below hb1)
  have HX1 := Lib.hid (HX.out.next hb1)
  have HR1 := Lib.hid (HR.out.below hb1)
  clear hb1
  by_cases hok : NmbOk x n
  rotate_left
  · rw [pB_no hok] at he
    subst he
    have HV := Lib.hid (show csV x n = _ from pnV_no hok)
    clear hok
    go_wp2
    go_returns
    exact ⟨by rw [HV.out] <;> rfl, HB1.out⟩
  rw [pB_yes hok] at he
  subst he
  have HK := Lib.hid hok.cd
  have HV := Lib.hid (show csV x n = _ from pnV_yes hok)
  obtain ⟨n', rfl⟩ : ∃ n' : Nat, n = (n' : Int) := ⟨n.toNat, by have := hok.lo; omega⟩
  have hn1 : 1 ≤ n' := by have := hok.lo; omega
  have hn2 : n' ≤ 14 := by have := hok.hi; omega
  have hnn : ((n' : Int)).toNat = n' := rfl
  rw [hnn] at HV
  have hN := hok.cd.els.hi
  clear hok hnn
  go_wp2_with (first | (at_make; refine wpList_make_full _ rfl (.tmp 20) (.tmp 20) 23 rfl w1.heap.size 3 i0 (.int .i64 0) 1 Tryd.underlying23 hi hz0 hz1 .i64 .i64 _ _ (n' + 1) rfl rfl (by omega) (by omega) (by rw [hz2]; omega) (by unfold maxLen; omega) (Nat.le_refl _) ?_; intro w2 hown hgrow; have HO2 := Lib.hid (show Nums1 w2 w1.heap.size n' (fun _ => 0) from ⟨made_nL hown, (hown.lt w1.heap.size rfl).2⟩); have HB2 := Lib.hid (show Below w1.heap.size w1 w2 from (Below.refl _ _).grown hgrow (Nat.le_refl _) (fun k e => by cases e)); obtain ⟨d0, f0⟩ := HO2.out.cell (Nat.zero_le n'); clear hown hgrow))
  clear d0 f0
  have HO3 := Lib.hid (HO2.out.put (k := 0) (Nat.zero_le _) (first_cw x n'))
  have HB3 := Lib.hid (HB2.out.setCell (p := ⟨w1.heap.size, 0, none⟩) (Nat.le_refl _) (.int .i64 1))
  revert HO3 HB3
  generalize World.setCell w2 _ _ = w3
  intro HO3 HB3
  clear HO2 HB2
  go_loopw [6, 7] (fun s v wr => ∃ (f g : Nat), f ≤ 5 ∧ v = .int .i64 f ∧ s = .slice (some ⟨g, 0, none⟩) (n' + 1) (n' + 1) ∧ Hid (Nums1 wr g n' (cw x f)) ∧ Hid (Below w1.heap.size w1 wr)) (fun _ v _ => 5 - (intOf v).toNat)
  case atStart => exact ⟨0, _, Nat.zero_le _, rfl, rfl, HO3, HB3⟩
  case round =>
    clear HO3 HB3
    obtain ⟨f, g, hf, rfl, rfl, HG, HBR⟩ := hrel
    obtain ⟨wo, rfl⟩ : ∃ wo : World, wo = wr := ⟨_, rfl⟩
    have hglt := HG.out.lt
    by_cases hf5 : f < 5
    rotate_left
    · obtain rfl : f = 5 := by omega
      obtain ⟨d0, f0⟩ := HG.out.cell (Nat.le_refl n')
      go_wp2
      go_returns
      exact ⟨by rw [HV.out] <;> rfl, Below_next HB1.out HBR.out⟩
    have HXo := Lib.hid (HX1.out.next HBR.out)
    have HRo := Lib.hid (HR1.out.below HBR.out)
    go_wp2_with (first | (at_make; refine wpList_make_full _ rfl (.tmp 29) (.tmp 29) 23 rfl wo.heap.size 3 i0 (.int .i64 0) 1 Tryd.underlying23 hi hz0 hz1 .i64 .i64 _ _ (n' + 1) rfl rfl (by omega) (by omega) (by rw [hz2]; omega) (by unfold maxLen; omega) (Nat.le_refl _) ?_; intro w4 hown hgrow; have HO4 := Lib.hid (show Nums1 w4 wo.heap.size n' (fun _ => 0) from ⟨made_nL hown, (hown.lt wo.heap.size rfl).2⟩); have HB4 := Lib.hid (show Below wo.heap.size wo w4 from (Below.refl _ _).grown hgrow (Nat.le_refl _) (fun k e => by cases e)); obtain ⟨d0, f0⟩ := HO4.out.cell (Nat.zero_le n'); obtain ⟨x0, x1, x2, x3, x4, x5⟩ := (HXo.out.next (HB4.out.setCell (p := ⟨wo.heap.size, 0, none⟩) (Nat.le_refl _) (.int .i64 1))).box; clear hown hgrow))
    clear d0 f0 x0 x1 x2 x3 x4 x5
    have HO5 := Lib.hid (HO4.out.put (k := 0) (Nat.zero_le _) (first_bin n'))
    have HB5 := Lib.hid (HB4.out.setCell (p := ⟨wo.heap.size, 0, none⟩) (Nat.le_refl _) (.int .i64 1))
    revert HO5 HB5
    generalize World.setCell w4 _ _ = w5
    intro HO5 HB5
    clear HO4 HB4
    go_loopw [36] (fun v wr => ∃ e : Nat, e ≤ x.els.length ∧ v = .int .i64 e ∧ Hid (Nums1 wr wo.heap.size n' (bin (szF x (f : Int) e))) ∧ Hid (Below wo.heap.size wo wr)) (fun v _ => x.els.length - (intOf v).toNat)
    case atStart => exact ⟨0, Nat.zero_le _, rfl, HO5, HB5⟩
    case round =>
      clear HO5 HB5
      obtain ⟨e, he, rfl, HO, HBW⟩ := hrel
      obtain ⟨wp, rfl⟩ : ∃ wp : World, wp = wr := ⟨_, rfl⟩
      by_cases hlt : e < x.els.length
      · obtain ⟨b, o, rfl, hbl, hc⟩ := HRo.out.els.el (by omega)
        obtain ⟨c0, c1, c2, c3⟩ := (hc e hlt).below HBW.out hbl
        have hsm : szF x (f : Int) e < 24 := by have := szF_le x (f : Int) e; omega
        clear hc
        go_wp2
        clear c0 c1 c2 c3
        have HE6 := Lib.hid (show (wp.alloc (.cells #[.string (it x.els e).name, .int .i64 (it x.els e).fam, .int .i64 (it x.els e).lev, .int .i64 (it x.els e).base] 50)).cell? ⟨wp.heap.size, 1, none⟩ = some (.int .i64 (it x.els e).fam) from by simp)
        have hb6 := below_alloc wp (.cells #[.string (it x.els e).name, .int .i64 (it x.els e).fam, .int .i64 (it x.els e).lev, .int .i64 (it x.els e).base] 50)
        have hs6 : wp.heap.size < (wp.alloc (.cells #[.string (it x.els e).name, .int .i64 (it x.els e).fam, .int .i64 (it x.els e).lev, .int .i64 (it x.els e).base] 50)).heap.size := by simp
        have hol := HO.out.lt
        generalize hw6 : World.alloc wp _ = w6 at HE6 hb6 hs6 ⊢
        have HO6 := Lib.hid (HO.out.next hb6)
        have HB6 := Lib.hid (Below_next HBW.out hb6)
        have hne : wo.heap.size ≠ wp.heap.size := by omega
        clear hw6 hb6
        by_cases hfam : (it x.els e).fam = (f : Int)
        · have HN := Lib.hid (szF_yes hfam)
          rw [hfam] at HE6
          clear hfam
          go_loopw [11] (fun v wr => ∃ k : Nat, k ≤ n' ∧ v = .int .i64 k ∧ Hid (Nums1 wr wo.heap.size n' (owF (szF x (f : Int) e) k)) ∧ Hid (wr.cell? ⟨wp.heap.size, 1, none⟩ = some (.int .i64 (f : Int))) ∧ Hid (Below wo.heap.size wo wr)) (fun v _ => (intOf v).toNat)
          case atStart => exact ⟨n', Nat.le_refl _, rfl, Lib.hid (HO6.out.congr (owF_start _ _)), HE6, HB6⟩
          case round =>
            clear HO6 HB6 HE6
            obtain ⟨k, hk, rfl, HO, HE, HBV⟩ := hrel
            have e1 := HE.out
            rcases Nat.eq_zero_or_pos k with hk0 | hk0
            · subst hk0
              have HO2 := Lib.hid (HO.out.congr (owF_end _ _))
              rw [← HN.out] at HO2
              go_wp2
              go_roundw
              case rel => exact ⟨e + 1, by omega, by go_num, HO2, HBV⟩
              case measure => simp [intOf]; omega
            · obtain ⟨k', rfl⟩ : ∃ k', k = k' + 1 := ⟨k - 1, by omega⟩
              obtain ⟨d0, f0⟩ := HO.out.cell hk
              obtain ⟨d1, f1⟩ := HO.out.cell (show k' ≤ n' by omega)
              have hv0 := owF_le (szF x (f : Int) e) (k' + 1) (k' + 1) hsm
              have hv1 := owF_le (szF x (f : Int) e) (k' + 1) k' hsm
              have HP := Lib.hid (HO.out.put hk (owF_step (szF x (f : Int) e) n' k' hk))
              rw [nL_it _ _ _ hk, nL_it _ _ _ (by omega)] at HP
              have HEP := Lib.hid ((World.cell?_setCell_other wr ⟨wo.heap.size, k' + 1, none⟩ ⟨wp.heap.size, 1, none⟩ (.int .i64 (owF (szF x (f : Int) e) (k' + 1) (k' + 1) + owF (szF x (f : Int) e) (k' + 1) k')) (by first | (simp; done) | (simp; omega))).trans e1)
              have HBP := Lib.hid (HBV.out.setCell (p := ⟨wo.heap.size, k' + 1, none⟩) (Nat.le_refl _) (.int .i64 (owF (szF x (f : Int) e) (k' + 1) (k' + 1) + owF (szF x (f : Int) e) (k' + 1) k')))
              clear HO HE HBV
              go_wp2_with fail
              go_region
              all_goals
                go_wp2
                go_roundw
                case rel => exact ⟨k', by omega, by go_num, Lib.hid (HP.out.drew), Lib.hid HEP.out, Lib.hid (HBP.out.trans (below_drewM _ _ 1))⟩
                case measure => first | (simp [intOf]; done) | (simp [intOf]; omega)
        · have HN := Lib.hid (szF_no hfam)
          have q1 : (it x.els e).fam < (f : Int) ∨ (f : Int) < (it x.els e).fam := by omega
          clear hfam
          go_loopw [11] (fun v wr => v = .int .i64 n' ∧ wr = w6) (fun v _ => 0)
          case atStart => exact ⟨rfl, rfl⟩
          case round =>
            obtain ⟨rfl, rfl⟩ := hrel
            have e1 := HE6.out
            rcases q1 with q1 | q1
            all_goals
              go_wp2
              go_roundw
              case rel => exact ⟨e + 1, by omega, by go_num, by rw [HN.out]; exact HO6, HB6⟩
              case measure => simp [intOf]; omega
      · obtain rfl : e = x.els.length := by omega
        have hol := HO.out.lt
        have HX8 := Lib.hid (HXo.out.next HBW.out)
        have HR8 := Lib.hid (HRo.out.below HBW.out)
        have HG8 := Lib.hid (HG.out.over HBW.out hglt)
        go_wp2_with (first | (at_make; refine wpList_make_full _ rfl (.tmp 64) (.tmp 64) 23 rfl wp.heap.size 3 i0 (.int .i64 0) 1 Tryd.underlying23 hi hz0 hz1 .i64 .i64 _ _ (n' + 1) rfl rfl (by omega) (by omega) (by rw [hz2]; omega) (by unfold maxLen; omega) (Nat.le_refl _) ?_; intro w8 hown hgrow; have HO8 := Lib.hid (show Nums1 w8 wp.heap.size n' (fun _ => 0) from ⟨made_nL hown, (hown.lt wp.heap.size rfl).2⟩); have HB8 := Lib.hid (show Below wp.heap.size wp w8 from (Below.refl _ _).grown hgrow (Nat.le_refl _) (fun k e => by cases e)); clear hown hgrow))
        have HOS := Lib.hid (HO8.out.congr (nxF_start x f n'))
        clear HO8
        have HOW := Lib.hid (show Nums1 wp wo.heap.size n' (bin (fsz x f)) from HO.out)
        clear HO
        have hlim := flm_le HK.out hf5
        obtain ⟨bL, oL, rfl, hbL, hcL⟩ := HR8.out.lims.int (by have := HK.out.lims.len; omega)
        have HLIM := Lib.hid (show wp.cell? ⟨bL, oL + f, none⟩ = some (.int .i64 (flm x f : Int)) from by rw [hcL f (by have := HK.out.lims.len; omega), hlim.2])
        have hlim1 := hlim.1
        have hll1 : 5 ≤ x.lims.length := by rw [HK.out.lims.len]; omega
        have hll2 : x.lims.length ≤ 5 := by rw [HK.out.lims.len]; omega
        clear hcL hlim
        go_loopw [68] (fun v wr => ∃ k : Nat, k ≤ n' + 1 ∧ v = .int .i64 k ∧ Hid (Nums1 wr wp.heap.size n' (nxF x f k 0)) ∧ Hid (Below wp.heap.size wp wr)) (fun v _ => n' + 1 - (intOf v).toNat)
        case atStart => exact ⟨0, by omega, rfl, HOS, HB8⟩
        case round =>
          clear HOS HB8
          obtain ⟨k, hk, rfl, HO, HBV⟩ := hrel
          obtain ⟨wq, rfl⟩ : ∃ wq : World, wq = wr := ⟨_, rfl⟩
          by_cases hlk : k < n' + 1
          · have hlk1 : (k : Int) < (n' : Int) + 1 := by omega
            go_wp2
            go_loopw [14] (fun v wr => ∃ j : Nat, j ≤ min k (flm x f) + 1 ∧ v = .int .i64 j ∧ Hid (Nums1 wr wp.heap.size n' (nxF x f k j)) ∧ Hid (Below wp.heap.size wp wr)) (fun v _ => min k (flm x f) + 1 - (intOf v).toNat)
            case atStart => exact ⟨0, Nat.zero_le _, rfl, HO, HBV⟩
            case round =>
              clear HO HBV
              obtain ⟨j, hj, rfl, HO, HBV⟩ := hrel
              obtain ⟨x0, x1, x2, x3, x4, x5⟩ := (HX8.out.next HBV.out).box
              have l0 := (HBV.out.cell (p := ⟨bL, oL + f, none⟩) hbL).trans HLIM.out
              have HML := Lib.hid (Nat.min_le_left k (flm x f))
              have HMR := Lib.hid (Nat.min_le_right k (flm x f))
              by_cases hlj : j ≤ min k (flm x f)
              · have hjk : j ≤ k := Nat.le_trans hlj HML.out
                have HMIN := Lib.hid hlj
                obtain ⟨m, hm⟩ : ∃ m, m = min k (flm x f) := ⟨_, rfl⟩
                have HM := Lib.hid hm
                have hjm : j ≤ m := by rw [hm]; exact hlj
                rw [← hm] at hj hlj
                clear hm
                obtain ⟨d0, f0⟩ := HO.out.cell (show k ≤ n' by omega)
                obtain ⟨d1, f1⟩ := (HG8.out.over HBV.out (Nat.lt_of_lt_of_le hglt (Nat.le_trans HBW.out.size (Nat.le_refl _)))).cell (show k - j ≤ n' by omega)
                obtain ⟨d2, f2⟩ := (HOW.out.over HBV.out hol).cell (show j ≤ n' by omega)
                have hv0 := nxF_le HK.out hf5 k j (by omega)
                have hv1 := cwbin_le HK.out (show f ≤ 5 by omega) (k - j) j
                have hv2 := cw_le x f (k - j)
                have hv3 := Int.le_trans hv2.2 (pow24 (fsum_le HK.out (show f ≤ 5 by omega)))
                have hv4 := bin_nn (fsz x f) j
                have hv5 := Int.le_trans (bin_le (fsz x f) j) (pow24 (fsz_le HK.out f))
                have hv2' := hv2.1
                obtain ⟨kj, hkj⟩ : ∃ kj, kj = k - j := ⟨_, rfl⟩
                have hkj2 : k ≤ kj + j := by omega
                have hkj3 : kj + j ≤ k := by omega
                have HKJ := Lib.hid hkj
                have HP := Lib.hid (HO.out.put (show k ≤ n' by omega) (nxF_step x f n' k j (show k ≤ n' by omega)))
                rw [nL_it _ _ _ (show k ≤ n' by omega)] at HP
                rw [← hkj] at d1 f1 hv1 hv2' hv3 HP
                clear hkj hv2
                have HBP := Lib.hid (HBV.out.setCell (p := ⟨wp.heap.size, k, none⟩) (Nat.le_refl _) (.int .i64 (nxF x f k j k + cw x f kj * bin (fsz x f) j)))
                have hx1 : ((k : Int) - (j : Int)).toNat = kj := by omega
                have hx2 : (0 : Int) ≤ (k : Int) - (j : Int) := by omega
                have hx3 : (k : Int) - (j : Int) < (n' : Int) + 1 := by omega
                clear HO HBV
                go_wp2_with (first | (go_at_call 37; refine (l1Least_any k (flm x f) _).mono ?_; rintro e w9 ⟨rfl, rfl⟩; rw [← HM.out]))
                clear x0 x1 x2 x3 x4 x5 l0
                go_region
                all_goals
                  go_wp2
                  go_roundw
                  case rel => exact ⟨j + 1, by rw [← HM.out]; omega, by go_num, Lib.hid (HP.out.drew), Lib.hid (HBP.out.trans (below_drewM _ _ 1))⟩
                  case measure => rw [← HM.out]; first | (simp [intOf]; done) | (simp [intOf]; omega)
              · obtain rfl : j = min k (flm x f) + 1 := by omega
                obtain ⟨m, hm⟩ : ∃ m, m = min k (flm x f) := ⟨_, rfl⟩
                have HM := Lib.hid hm
                have HOE := Lib.hid (HO.out.congr (nxF_row x f n' k))
                rw [← hm]
                clear hm hj hlj HO
                go_wp2_with (first | (go_at_call 37; refine (l1Least_any k (flm x f) _).mono ?_; rintro e w9 ⟨rfl, rfl⟩; rw [← HM.out]))
                go_roundw
                case rel => exact ⟨k + 1, by omega, by go_num, HOE, HBV⟩
                case measure => simp [intOf]; omega
          · obtain rfl : k = n' + 1 := by omega
            have HOE := Lib.hid (HO.out.congr (nxF_end x f n'))
            clear HO
            go_wp2
            go_roundw
            case rel => exact ⟨f + 1, _, by omega, by go_num, rfl, HOE, Lib.hid (HBR.out.trans ((HBW.out.trans (HBV.out.mono HBW.out.size)).mono HBR.out.size))⟩
            case measure => simp [intOf]; omega
end Go.Proofs.YtocjkhfghldnnaaDoor

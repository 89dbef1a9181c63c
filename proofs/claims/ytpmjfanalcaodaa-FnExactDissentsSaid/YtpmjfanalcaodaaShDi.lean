/- Votes that differ from their calls: counted by the model. -/
import Derived.Test.YtpmjfanalcaodaaShW
import Derived.Test.YtpmjfanalcaodaaItemE
namespace Go.Proofs.Ytpmjfanalcaodaa
open Go.ChangeShapes Go.WideShapes Go.ChangeAt Go.RowKit Go.Lib Go.Proofs
set_option linter.unusedVariables false

/-- A vote of caller k that differs from the call. -/
def diD (x : Sh) (k i j : Nat) : Bool := decide (0 ≤ caI x i j) && (!decide (vt x.V k i j = -1) && !decide (vt x.V k i j = caI x i j))
def diN (x : Sh) (k : Nat) : Nat := (plI (nmN x.l) (diD x k) x.l.length).length
/-- The counts of the first callers. -/
def diK (x : Sh) : Nat → List Int
  | 0 => List.replicate 3 0
  | k + 1 => (diK x k).set k (diN x k : Int)
/-- How many of the first items and names. -/
def diC (x : Sh) (k i j : Nat) : Nat := (plI (nmN x.l) (diD x k) i).length + (plJ (diD x k) i j).length
def diS (x : Sh) (k i j : Nat) : List Int := (diK x k).set k (diC x k i j : Int)
noncomputable def diL (x : Sh) : List Int := @ite _ (ShOk x) (Classical.propDecidable _) (diK x 3) []
theorem diL_yes {x : Sh} (h : ShOk x) : diL x = diK x 3 := by unfold diL; rw [if_pos h]
theorem diL_no {x : Sh} (h : ¬ ShOk x) : diL x = [] := by unfold diL; rw [if_neg h]
theorem diK_len (x : Sh) : ∀ k, (diK x k).length = 3
  | 0 => rfl
  | k + 1 => by rw [diK, List.length_set, diK_len x k]
theorem diK_at (x : Sh) : ∀ k m, k ≤ m → m < 3 → it (diK x k) m = 0
  | 0, m, _, hm => by
    unfold it diK
    rw [List.getD_eq_getElem?_getD, List.getElem?_replicate, if_pos hm]
    rfl
  | k + 1, m, h, hm => by
    rw [diK, it_set _ _ _ _ (by rw [diK_len]; omega), if_neg (by omega)]
    exact diK_at x k m (by omega) hm
theorem diS_0 (x : Sh) (k : Nat) (hk : k < 3) : diS x k 0 0 = diK x k := by
  refine it_ext _ _ (by unfold diS; rw [List.length_set]) (fun i hi => ?_)
  unfold diS
  rw [it_set _ _ _ _ (by rw [diK_len]; exact hk)]
  by_cases e : i = k
  · rw [if_pos e, e, diK_at x k k (Nat.le_refl _) hk]
    rfl
  · rw [if_neg e]
theorem diS_len (x : Sh) (k i j : Nat) : (diS x k i j).length = 3 := by unfold diS; rw [List.length_set, diK_len]
theorem diS_it (x : Sh) (k i j : Nat) (hk : k < 3) : it (diS x k i j) k = (diC x k i j : Int) := by
  unfold diS
  rw [it_set _ _ _ _ (by rw [diK_len]; exact hk), if_pos rfl]
theorem diC_row (x : Sh) (k i : Nat) : diC x k i (nmN x.l i) = diC x k (i + 1) 0 := by
  unfold diC
  rw [plI, List.length_append]
  rfl
theorem diS_row (x : Sh) (k i : Nat) : diS x k i (nmN x.l i) = diS x k (i + 1) 0 := by unfold diS; rw [diC_row]
theorem diS_all (x : Sh) (k : Nat) : diS x k x.l.length 0 = diK x (k + 1) := rfl
theorem diC_yes {x : Sh} {k i j : Nat} (h : diD x k i j = true) : diC x k i (j + 1) = diC x k i j + 1 := by
  unfold diC
  rw [plJ_yes h, List.length_append]
  rfl
theorem diC_no {x : Sh} {k i j : Nat} (h : diD x k i j = false) : diC x k i (j + 1) = diC x k i j := by
  unfold diC
  rw [plJ_no h]
theorem diS_yes {x : Sh} {k i j : Nat} (h : diD x k i j = true) : (diS x k i j).set k ((diC x k i j : Int) + 1) = diS x k i (j + 1) := by
  unfold diS
  rw [List.set_set, diC_yes h]
  rfl
theorem diS_no {x : Sh} {k i j : Nat} (h : diD x k i j = false) : diS x k i (j + 1) = diS x k i j := by
  unfold diS
  rw [diC_no h]
theorem diC_le {x : Sh} {k i j : Nat} (hok : ShOk x) (hi : i < x.l.length) (hj : j ≤ nmN x.l i) : diC x k i j ≤ 60 := by
  have h1 := plI_len (n := nmN x.l) (D := diD x k) i (fun k hk => nmN_le hok k (by omega))
  have h2 := plJ_len (diD x k) i j
  have h3 := nmN_le hok i hi
  have h4 := hok.ls.len
  unfold diC
  omega
theorem diN_le {x : Sh} {k : Nat} (hok : ShOk x) : diN x k ≤ 60 := by
  have h1 := plI_len (n := nmN x.l) (D := diD x k) x.l.length (fun k hk => nmN_le hok k hk)
  have h4 := hok.ls.len
  unfold diN
  omega
theorem diD_iff {x : Sh} {k i j : Nat} : diD x k i j = true ↔ 0 ≤ caI x i j ∧ vt x.V k i j ≠ -1 ∧ vt x.V k i j ≠ caI x i j := by
  unfold diD
  simp
theorem diD_same {x y : Sh} (h : ShSame x y) (k i j : Nat) : diD y k i j = diD x k i j := by
  unfold diD
  rw [caI_same h, vt_same h.vo]
theorem diN_same {x y : Sh} (h : ShSame x y) (k : Nat) : diN y k = diN x k := by
  unfold diN
  rw [h.its.len, plI_congr (m := nmN x.l) (E := diD x k) _ (fun q hq => nmN_same h.its (by omega)) (fun q r _ _ => diD_same h k q r)]
theorem diK_same {x y : Sh} (h : ShSame x y) : ∀ k, diK y k = diK x k
  | 0 => rfl
  | k + 1 => by rw [diK, diK, diK_same h k, diN_same h k]
theorem diL_same {x y : Sh} (h : ShSame x y) : diL y = diL x := by
  by_cases k : ShOk x
  · rw [diL_yes k, diL_yes (k.same h), diK_same h]
  · rw [diL_no k, diL_no (fun q => k (q.same h.symm))]
theorem diL_few (x : Sh) : (diL x).length ≤ 3 := by
  by_cases k : ShOk x
  · rw [diL_yes k, diK_len]
    exact Nat.le_refl _
  · rw [diL_no k]
    simp
/-- An answer with ints. -/
structure IntsAns (l : List Int) (w w' : World) (y : Rw Int) : Prop where
  val : y.xs = l
  own : Nst.Own (iv w.heap.size w'.heap.size) w' y
theorem ints_eqv {l : List Int} {y z : Rw Int} (h : y.xs = l) (k : z.xs = l) : Nst.Eqv y z := k.trans h.symm
theorem ints_fit {l : List Int} {y : Rw Int} (h : y.xs = l) (k : l.length ≤ 3) : NFit y := by
  show y.xs.length ≤ 1048576
  rw [h]
  omega
theorem vote_lo {x : Sh} {i j : Nat} (hok : ShOk x) (hi : i < x.l.length) (hj : j < nmN x.l i) (k : Nat) (hk : k < 3) : -1 ≤ vt x.V k i j := by
  have h1 := hok.vo.each k (by rw [hok.vo.len]; exact hk)
  have h2 := h1.each i hi
  exact (h2.each j (by rw [h2.len]; exact hj)).1
set_option maxHeartbeats 8000000 in
set_option maxRecDepth 100000 in
theorem sDissents_any (x : Sh) (w : World) (hr : ShIn w w.heap.size x) (hl : ShFits x) :
    Calls Try.prog 41 #[x.val] w fun e w' => (∃ y : Rw Int, e = .returned (.tuple #[.slice y.A y.xs.length y.c, .bool (pB (ShOk x))]) ∧ IntsAns (diL x) w w' y) ∧ Below w.heap.size w w' := by
  have hb0 := below_alloc w (.cells #[.slice x.P x.l.length x.c, .slice x.V.A x.V.xs.length x.V.c, .slice x.R x.rv.length x.e] 32)
  have HR := Lib.hid (hr.next hb0)
  have HX := Lib.hid (imMem_new w _ 32 rfl (.slice x.P x.l.length x.c) (.slice x.V.A x.V.xs.length x.V.c) (.slice x.R x.rv.length x.e))
  have hsW : w.heap.size < (w.alloc (.cells #[.slice x.P x.l.length x.c, .slice x.V.A x.V.xs.length x.V.c, .slice x.R x.rv.length x.e] 32)).heap.size := by simp
  have HB0 := Lib.hid hb0
  have HF := Lib.hid hl
  have hll := hl.its.len
  clear hr hl hb0
  unfold Sh.val
  go_enter Try.func41, Try.ntmps41
  go_wp2_with fail
  generalize World.alloc w _ = W at HR HX HB0 hsW ⊢
  have HC := Lib.hid (caGood_any x W HR.out HF.out)
  by_cases h1 : ShOk x
  rotate_left
  · rw [pB_no h1] at HC
    have HP := Lib.hid (And.intro (pB_no h1) (diL_no h1))
    clear h1
    refine HC.out.mono ?_
    rintro e w1 ⟨rfl, hb1⟩
    have HB1 := Lib.hid (below_next HB0.out hb1)
    clear hb1
    go_wp2
    go_returns
    rw [HP.out.1, HP.out.2]
    exact ⟨⟨⟨none, 0, []⟩, rfl, rfl, Owned.nil _ _ _⟩, HB1.out⟩
  rw [pB_yes h1] at HC
  have HP := Lib.hid (And.intro (pB_yes h1) (diL_yes h1))
  have H1 := Lib.hid h1
  have HV3 := Lib.hid h1.vo.len
  clear h1
  refine HC.out.mono ?_
  rintro e w1 ⟨rfl, hb1⟩
  have HB1 := Lib.hid (below_next HB0.out hb1)
  have HX1 := Lib.hid (HX.out.below hb1 hsW)
  have HR1 := Lib.hid (HR.out.next hb1)
  have hs1 := Nat.lt_of_lt_of_le hsW hb1.size
  clear hb1 HC
  obtain ⟨bV, oV, hA, hbV, hcV⟩ := (show NIn w1 w1.heap.size x.V.A x.V.xs from HR1.out.vo).out.rw (by rw [HV3.out]; omega)
  have HCV := Lib.hid hcV
  have HXV := Lib.hid (show ImMem w1 w.heap.size (.slice x.P x.l.length x.c) (.slice (some ⟨bV, oV, none⟩) 3 x.V.c) (.slice x.R x.rv.length x.e) by have h := HX1.out; rw [hA, HV3.out] at h; exact h)
  have HA := Lib.hid (And.intro hA HV3.out)
  clear hcV hA HX1
  obtain ⟨i0, hi, hz0, hz1, hz2⟩ := info_parts Try.infoInt
  have HZ := Lib.hid (made_flat (α := Int) #[.int .i64 0] 0 3 rfl (by decide))
  obtain ⟨x0, x1, x2, xf⟩ := HXV.out
  go_wp2_with (at_make; refine wpList_make_full _ rfl (.const (.int .i64 3)) (.const (.int .i64 3)) 62 rfl w1.heap.size 3 i0 (.int .i64 0) 1 Try.underlying62 hi hz0 hz1 .i64 .i64 _ _ 3 rfl rfl rfl rfl (by rw [hz2]; omega) (by unfold maxLen; omega) (Nat.le_refl _) ?_; intro w2 hown hgrow; have hb2 : Below w1.heap.size w1 w2 := (Below.refl _ _).grown hgrow (Nat.le_refl _) (fun k e => by cases e); clear x0 x1 x2 xf; obtain ⟨x0, x1, x2, xf⟩ := HXV.out.below hb2 hs1)
  have HW := Lib.hid (show OwnAt w2 w1.heap.size 0 (diK x 0) from own_of_row (α := Int) (cap := 3) (e := 3) (base := w1.heap.size) (List.replicate 3 (0 : Int)) (by rw [← HZ.out]; exact hown))
  have hs2 := (hown.lt w1.heap.size rfl).2
  have HB2 := Lib.hid hb2
  clear hown hgrow hb2 x0 x1 x2 xf hi hz0 hz1 hz2
  go_loopw [19] (fun p wr => ∃ k : Nat, k ≤ 3 ∧ p = .int .i64 k ∧ Hid (OwnAt wr w1.heap.size 0 (diK x k)) ∧ w1.heap.size < wr.heap.size ∧ Hid (Below w1.heap.size w1 wr)) (fun p _ => 3 - (intOf p).toNat)
  case atStart => exact ⟨0, Nat.zero_le _, rfl, HW, hs2, HB2⟩
  case round =>
    obtain ⟨k, hk, rfl, HO, hsr, HB⟩ := hrel
    by_cases hlt : k < 3
    · have d0 := (HB.out.cell (p := ⟨bV, oV + k, none⟩) hbV).trans (HCV.out k (by rw [HV3.out]; exact hlt))
      have HV := Lib.hid (H1.out.vo.each k (by rw [HV3.out]; exact hlt))
      have HN := Lib.hid (show NIn w1 w1.heap.size (it x.V.xs k).A (it x.V.xs k).xs from (show NIn w1 w1.heap.size x.V.A x.V.xs from HR1.out.vo).each k (by rw [HV3.out]; exact hlt))
      rw [HV.out.len] at d0
      have HS0 := Lib.hid (show OwnAt wr w1.heap.size 0 (diS x k 0 0) from by rw [diS_0 x k hlt]; exact HO.out)
      go_wp2_with fail
      clear d0
      rw [show decide ((k : Int) < 3) = true from decide_eq_true (by omega)]
      go_loopw [26] (fun p wr => ∃ i : Nat, i ≤ x.l.length ∧ p = .int .i64 i ∧ Hid (OwnAt wr w1.heap.size 0 (diS x k i 0)) ∧ w1.heap.size < wr.heap.size ∧ Hid (Below w1.heap.size w1 wr)) (fun p _ => x.l.length - (intOf p).toNat)
      case atStart => exact ⟨0, Nat.zero_le _, rfl, HS0, hsr, HB⟩
      case round =>
        obtain ⟨i, hi, rfl, HO2, hsr2, HB2⟩ := hrel
        by_cases hil : i < x.l.length
        · obtain ⟨b, o, hB, hbl, hc⟩ := HN.out.out.rw (by rw [HV.out.len]; omega)
          have e0 := (HB2.out.cell (p := ⟨b, o + i, none⟩) hbl).trans (hc i (by rw [HV.out.len]; exact hil))
          have HI := Lib.hid (HV.out.each i hil)
          have HL := Lib.hid (show Lst w1 w1.heap.size (it (it x.V.xs k).xs i).A (it (it x.V.xs k).xs i).xs from HN.out.each i (by rw [HV.out.len]; exact hil))
          have HN3 := nmN_le H1.out i hil
          have HNL := Lib.hid (show (it (it x.V.xs k).xs i).xs.length = nmN x.l i from HI.out.len)
          obtain ⟨b', o', hB', hbl', hc'⟩ := HL.out.int (by rw [HNL.out]; have h1 : 1 ≤ nmN x.l i := (H1.out.ls.each i hil).lo; omega)
          have HC' := Lib.hid hc'
          rw [HNL.out, hB'] at e0
          rw [hB]
          clear hc hc' hB'
          go_wp2_with fail
          clear e0
          go_loopw [33] (fun p wr => ∃ j : Nat, j ≤ nmN x.l i ∧ p = .int .i64 j ∧ Hid (OwnAt wr w1.heap.size 0 (diS x k i j)) ∧ w1.heap.size < wr.heap.size ∧ Hid (Below w1.heap.size w1 wr)) (fun p _ => nmN x.l i - (intOf p).toNat)
          case atStart => exact ⟨0, Nat.zero_le _, rfl, HO2, hsr2, HB2⟩
          case round =>
            obtain ⟨j, hj, rfl, HO3, hsr3, HB3⟩ := hrel
            by_cases hjl : j < nmN x.l i
            · have g0 : wr.cell? ⟨b', o' + j, none⟩ = some (.int .i64 (vt x.V k i j)) := (HB3.out.cell (p := ⟨b', o' + j, none⟩) hbl').trans (HC'.out j (by rw [HNL.out]; exact hjl))
              have HCC := Lib.hid (caCall_any x i j wr (HR1.out.next HB3.out) HF.out H1.out hil hjl)
              unfold Sh.val at HCC
              rw [HA.out.1, HA.out.2] at HCC
              obtain ⟨x0, x1, x2, xf⟩ := HXV.out.below HB3.out hs1
              have hlo := vote_lo H1.out hil hjl k hlt
              have HD := Lib.hid (diD_iff (x := x) (k := k) (i := i) (j := j))
              have HIT := Lib.hid (diS_it x k i j hlt)
              have HLE := Lib.hid (diC_le (k := k) H1.out hil hj)
              generalize hv : vt x.V k i j = v at g0 hlo HD
              generalize hcc : caI x i j = c at HCC HD
              clear hv hcc
              by_cases hd : diD x k i j = true
              · obtain ⟨q1, q2, q3⟩ := HD.out.1 hd
                have HQ := Lib.hid (diS_yes hd)
                have q4 : 0 ≤ v := by omega
                have hne : (v == c) = false := by simpa using q3
                clear hd HD q2
                have hn60 : ((diC x k i j : Nat) : Int) ≤ 60 := by have := HLE.out; omega
                have hn0 : (0 : Int) ≤ ((diC x k i j : Nat) : Int) := by omega
                go_wp2_with (go_at_call 80; refine HCC.out.mono ?_; rintro e w4 ⟨rfl, hb4⟩; have HB4 := Lib.hid (below_next HB3.out hb4); have hsr4 := Nat.lt_of_lt_of_le hsr3 hb4.size; have HO4 := Lib.hid (HO3.out.block (hb4.block _ hsr3)); clear hb4; obtain ⟨u0, u1⟩ := HO4.out.int0 k (by rw [diS_len]; exact hlt); rw [HIT.out] at u0)
                have HP4 := Lib.hid (HO4.out.putInt0 k ((diC x k i j : Int) + 1) (by rw [diS_len]; exact hlt))
                rw [HQ.out] at HP4
                go_roundw
                case rel => exact ⟨j + 1, by omega, by go_num, HP4, by simpa [World.setCell] using hsr4, Lib.hid (HB4.out.setCell (Nat.le_refl _) _)⟩
                case measure => simp [intOf]; omega
              · have HQ := Lib.hid (diS_no (Bool.eq_false_iff.2 hd))
                have hcase : v < 0 ∨ (0 ≤ v ∧ c < 0) ∨ (0 ≤ v ∧ 0 ≤ c ∧ v = c) := by
                  by_cases q1 : v < 0
                  · exact .inl q1
                  · by_cases q2 : c < 0
                    · exact .inr (.inl ⟨by omega, q2⟩)
                    · by_cases q3 : v = c
                      · exact .inr (.inr ⟨by omega, by omega, q3⟩)
                      · exact absurd (HD.out.2 ⟨by omega, by omega, q3⟩) hd
                clear hd HD
                rcases hcase with q1 | ⟨q1, q2⟩ | ⟨q1, q2, q3⟩
                all_goals
                  try subst q3
                  go_wp2_with (go_at_call 80; refine HCC.out.mono ?_; rintro e w4 ⟨rfl, hb4⟩; have HB4 := Lib.hid (below_next HB3.out hb4); have hsr4 := Nat.lt_of_lt_of_le hsr3 hb4.size; have HO4 := Lib.hid (HO3.out.block (hb4.block _ hsr3)); clear hb4)
                  go_roundw
                  case rel => exact ⟨j + 1, by omega, by go_num, by rw [HQ.out]; exact HO4, hsr4, HB4⟩
                  case measure => simp [intOf]; omega
            · obtain rfl : j = nmN x.l i := by omega
              rw [diS_row] at HO3
              go_wp2
              go_roundw
              case rel => exact ⟨i + 1, by omega, by go_num, HO3, hsr3, HB3⟩
              case measure => simp [intOf]; omega
        · obtain rfl : i = x.l.length := by omega
          rw [diS_all] at HO2
          go_wp2
          go_roundw
          case rel => exact ⟨k + 1, by omega, by go_num, HO2, hsr2, HB2⟩
          case measure => simp [intOf]; omega
    · obtain rfl : k = 3 := by omega
      go_wp2
      go_returns
      rw [HP.out.1, HP.out.2]
      refine ⟨⟨⟨some ⟨w1.heap.size, 0, none⟩, 3, diK x 3⟩, ?_, rfl, fun _ => ⟨_, 0, rfl, ⟨Nat.le_of_lt hs1, hsr⟩, hsr, HO.out⟩⟩, below_next HB1.out HB.out⟩
      show _ = Ending.returned (Value.tuple #[Value.slice (some ⟨w1.heap.size, 0, none⟩) (diK x 3).length 3, Value.bool true])
      rw [diK_len]
      try rfl
end Go.Proofs.Ytpmjfanalcaodaa

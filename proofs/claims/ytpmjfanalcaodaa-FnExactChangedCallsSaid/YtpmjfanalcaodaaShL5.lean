/- The walk of the law ChangedCalls. -/
import Derived.Test.YtpmjfanalcaodaaShSa
import Derived.Deep.RegionHeld3
namespace Go.Proofs.Ytpmjfanalcaodaa
open Go.ChangeShapes Go.WideShapes Go.ChangeAt Go.RowKit Go.Lib Go.Proofs
set_option linter.unusedVariables false

theorem shK3_le {x : Sh} (hl : ShFits x) : 0 < shK3 x 1 ∧ shK3 x 1 ≤ 10000000000000 := by
  have h1 := kAt_le x.l 1 hl.its x.l.length (Nat.le_refl _)
  have h2 := hl.its.len
  have h3 := Nat.le_trans (Nst.cnt_le x.V) hl.vo
  have h4 := hl.re
  have h5 : shK3 x 1 = kAt x.l 1 x.l.length + Nst.cnt x.V + x.rv.length * 3 := rfl
  omega
theorem sChangedCalls_s (x u y v : Sh) (w : World) (hs : ShSame x y) (hs2 : ShSame u v) (hr : ShIn w w.heap.size y) (hr2 : ShIn w w.heap.size v) (hl : ShFits x) (hl2 : ShFits u) :
    Calls Try.prog 48 #[y.val, v.val] w fun e w' => (∃ r : Rw (Rw Int), e = .returned (.tuple #[.slice r.A r.xs.length r.c, .bool (pB (ChOk x u))]) ∧ PairsAns (chL x u) w w' r) ∧ Below w.heap.size w w' := by
  rw [← chL_same hs hs2, chOk_same hs hs2]
  exact sChangedCalls_any y v w hr hr2 (hs.fits hl) (hs2.fits hl2)
theorem iChangedCalls_s (x u y v : Sh) (w : World) (hs : ShSame x y) (hs2 : ShSame u v) (hr : ShIn w w.heap.size y) (hr2 : ShIn w w.heap.size v) (hl : ShFits x) (hl2 : ShFits u) :
    Calls Try.prog 49 #[y.val, v.val] w fun e w' => (∃ r : Rw (Rw Int), e = .returned (.tuple #[.slice r.A r.xs.length r.c, .bool (pB (ChOk x u))]) ∧ PairsAns (chL x u) w w' r) ∧ Below w.heap.size w w' := by
  rw [← chL_same hs hs2, chOk_same hs hs2]
  exact iChangedCalls_any y v w hr hr2 (hs.fits hl) (hs2.fits hl2)
set_option maxHeartbeats 8000000 in
set_option maxRecDepth 20000 in
theorem walkChangedCalls (x u : Sh) (w : World) (hr : ShIn w w.heap.size x) (hl : ShLen x) (hr2 : ShIn w w.heap.size u) (hl2 : ShLen u) :
    Calls Try.prog 12 #[x.val, u.val] w fun e w' => e = .returned (.bool true) ∧ Below w.heap.size w w' := by
  obtain ⟨W, hW, hB, hX, hY⟩ : ∃ W, W = (w.alloc (.cells #[.slice x.P x.l.length x.c, .slice x.V.A x.V.xs.length x.V.c, .slice x.R x.rv.length x.e] 26)).alloc (.cells #[.slice u.P u.l.length u.c, .slice u.V.A u.V.xs.length u.V.c, .slice u.R u.rv.length u.e] 26) ∧ Below w.heap.size w W ∧ ShBox W w.heap.size x ∧ ShBox W (w.heap.size + 1) u :=
    ⟨_, rfl, below_next (below_alloc _ _) (below_alloc _ _), (shBox_new w 26 x).next (below_alloc _ _), by have h := shBox_new (w.alloc (.cells #[.slice x.P x.l.length x.c, .slice x.V.A x.V.xs.length x.V.c, .slice x.R x.rv.length x.e] 26)) 26 u; simpa using h⟩
  have HB0 := Lib.hid hB
  have HX0 := Lib.hid hX
  have HX1 := Lib.hid hY
  have HR0 := Lib.hid (hr.next hB)
  have HR1 := Lib.hid (hr2.next hB)
  have HL := Lib.hid hl
  have HL2 := Lib.hid hl2
  have ZW := Lib.hid hY.lt
  clear hr hl hr2 hl2 hB hX hY
  have HCB := Lib.hid (fun w' (hb : Below W.heap.size W w') => shBox_cells (HX0.out.next hb).mem (HX1.out.next hb).mem)
  unfold Sh.val
  go_enter Try.func12, Try.ntmps12
  go_wp2_with fail
  rw [← hW]
  clear hW
  have HB_0 := Lib.hid (Below.refl W.heap.size W)
  refine (szSheet_any x _ W HR0.out HL.out (by omega) (by omega)).mono ?_
  rintro e w1 ⟨⟨q, rfl, hq⟩, hb⟩
  have Z1 := Lib.hid hb.size
  have HB_1 := Lib.hid (below_next HB_0.out hb)
  clear HB_0 hb
  rcases hq with hq | ⟨hq0, hq1, HF⟩
  · go_wp2
    go_ret
    exact ⟨rfl, below_next HB0.out HB_1.out⟩
  obtain ⟨c0, c1, c2, d0, d1, d2⟩ := HCB.out _ HB_1.out
  go_wp2_with fail
  clear c0 c1 c2 d0 d1 d2
  refine (szSheet_any u _ w1 (HR1.out.next HB_1.out) HL2.out hq0 (by omega)).mono ?_
  rintro e w2 ⟨⟨q2, rfl, hq⟩, hb⟩
  have Z2 := Lib.hid hb.size
  have HB_2 := Lib.hid (below_next HB_1.out hb)
  clear HB_1 hb
  rcases hq with hq | ⟨hq20, hq21, HG⟩
  · go_wp2
    go_ret
    exact ⟨rfl, below_next HB0.out HB_2.out⟩
  have HVL := Lib.hid (chL_few x u)
  go_wp2_with fail
  have hb := below_drew w2
  have Z3 := Lib.hid hb.size
  have HB_3 := Lib.hid (below_next HB_2.out hb)
  clear HB_2 hb
  go_region_held3 (fun w' => w'.cell? ⟨w.heap.size, 0, none⟩ = some (.slice x.P x.l.length x.c) ∧ w'.cell? ⟨w.heap.size, 1, none⟩ = some (.slice x.V.A x.V.xs.length x.V.c) ∧ w'.cell? ⟨w.heap.size, 2, none⟩ = some (.slice x.R x.rv.length x.e) ∧ w'.cell? ⟨w.heap.size + 1, 0, none⟩ = some (.slice u.P u.l.length u.c) ∧ w'.cell? ⟨w.heap.size + 1, 1, none⟩ = some (.slice u.V.A u.V.xs.length u.V.c) ∧ w'.cell? ⟨w.heap.size + 1, 2, none⟩ = some (.slice u.R u.rv.length u.e))
    (first | exact HCB.out _ HB_3.out | exact HCB.out _ HB_4.out | exact HCB.out _ HB_5.out | exact HCB.out _ HB_6.out)
    (first
      | (go_at_call 15; (with_reducible refine (toSheet_c x _ (HR0.out.next HB_3.out) HF.out).mono ?_); rintro e w4 ⟨⟨ya, rfl, hs, hy⟩, hb⟩; have Z4 := Lib.hid hb.size; have HB_4 := Lib.hid (below_next HB_3.out hb); have HSya := Lib.hid hs; have HNya_4 := Lib.hid hy; unfold Sh.val; clear hb hs hy)
      | (go_at_call 15; (with_reducible refine (toSheet_c u _ (HR1.out.next HB_4.out) HG.out).mono ?_); rintro e w5 ⟨⟨va, rfl, hs, hy⟩, hb⟩; have Z5 := Lib.hid hb.size; have HB_5 := Lib.hid (below_next HB_4.out hb); have HNya_5 := Lib.hid (HNya_4.out.next hb); have HSva := Lib.hid hs; have HC := Lib.hid (sChangedCalls_s x u ya va w5 HSya.out hs HNya_5.out.sh hy.sh HF.out HG.out); unfold Sh.val at HC ⊢; clear hb hs hy)
      | (go_at_call 48; refine HC.out.mono ?_; rintro e w6 ⟨⟨aV, rfl, ha⟩, hb⟩; have Z6 := Lib.hid hb.size; have HB_6 := Lib.hid (below_next HB_5.out hb); have HPV := Lib.hid ha.prs; have HV_6 := Lib.hid ha.own; clear hb ha)
      )
  clear HC HSya HSva HNya_4 HNya_5 HB_3 HB_4 HB_5
  obtain ⟨c0, c1, c2, d0, d1, d2⟩ := HCB.out _ HB_6.out
  go_wp2_with fail
  clear c0 c1 c2 d0 d1 d2
  refine (toSheet_c x w6 (HR0.out.next HB_6.out) HF.out).mono ?_
  rintro e w7 ⟨⟨y, rfl, hs, hy⟩, hb⟩
  have Z7 := Lib.hid hb.size
  have HB_7 := Lib.hid (below_next HB_6.out hb)
  have HV_7 := Lib.hid (Nst.keepB HV_6.out hb)
  clear HB_6 HV_6 hb
  have HSy := Lib.hid hs
  clear hs
  have HOy_7 := Lib.hid (hy)
  clear hy
  obtain ⟨w8, hW⟩ : ∃ W', W' = w7.alloc (.cells #[.slice y.P y.l.length y.c, .slice y.V.A y.V.xs.length y.V.c, .slice y.R y.rv.length y.e] 32) := ⟨_, rfl⟩
  have hb : Below w7.heap.size w7 w8 := by rw [hW]; exact below_alloc _ _
  have Z8 := Lib.hid hb.size
  have HB_8 := Lib.hid (below_next HB_7.out hb)
  have HV_8 := Lib.hid (Nst.keepB HV_7.out hb)
  have HOy_8 := Lib.hid (HOy_7.out.next hb)
  clear HB_7 HV_7 HOy_7 hb
  have HYy_8 := Lib.hid (show ShBox w8 w7.heap.size y by rw [hW]; exact shBox_new _ _ _)
  obtain ⟨c0, c1, c2, d0, d1, d2⟩ := HCB.out _ HB_8.out
  rw [hW] at c0 c1 c2 d0 d1 d2
  go_wp2_with fail
  rw [← hW]
  clear hW c0 c1 c2 d0 d1 d2
  refine (toSheet_c u w8 (HR1.out.next HB_8.out) HG.out).mono ?_
  rintro e w9 ⟨⟨v, rfl, hs, hy⟩, hb⟩
  have Z9 := Lib.hid hb.size
  have HB_9 := Lib.hid (below_next HB_8.out hb)
  have HV_9 := Lib.hid (Nst.keepB HV_8.out hb)
  have HOy_9 := Lib.hid (HOy_8.out.next hb)
  have HYy_9 := Lib.hid (HYy_8.out.next hb)
  clear HB_8 HV_8 HOy_8 HYy_8 hb
  have HSv := Lib.hid hs
  clear hs
  have HOv_9 := Lib.hid (hy)
  clear hy
  obtain ⟨w10, hW⟩ : ∃ W', W' = w9.alloc (.cells #[.slice v.P v.l.length v.c, .slice v.V.A v.V.xs.length v.V.c, .slice v.R v.rv.length v.e] 32) := ⟨_, rfl⟩
  have hb : Below w9.heap.size w9 w10 := by rw [hW]; exact below_alloc _ _
  have Z10 := Lib.hid hb.size
  have HB_10 := Lib.hid (below_next HB_9.out hb)
  have HV_10 := Lib.hid (Nst.keepB HV_9.out hb)
  have HOy_10 := Lib.hid (HOy_9.out.next hb)
  have HYy_10 := Lib.hid (HYy_9.out.next hb)
  have HOv_10 := Lib.hid (HOv_9.out.next hb)
  clear HB_9 HV_9 HOy_9 HYy_9 HOv_9 hb
  have HYv_10 := Lib.hid (show ShBox w10 w9.heap.size v by rw [hW]; exact shBox_new _ _ _)
  obtain ⟨c0, c1, c2, cf⟩ := HYy_10.out.mem
  obtain ⟨d0, d1, d2, df⟩ := HYv_10.out.mem
  rw [hW] at c0 c1 c2 d0 d1 d2
  go_wp2_with fail
  rw [← hW]
  clear hW c0 c1 c2 d0 d1 d2 cf df
  have HC := Lib.hid (iChangedCalls_s x u y v w10 HSy.out HSv.out HOy_10.out.sh HOv_10.out.sh HF.out HG.out)
  unfold Sh.val at HC ⊢
  refine (HC.out).mono ?_
  rintro e w11 ⟨⟨aG, rfl, ha⟩, hb⟩
  have Z11 := Lib.hid hb.size
  have HB_11 := Lib.hid (below_next HB_10.out hb)
  have HV_11 := Lib.hid (Nst.keepB HV_10.out hb)
  have HOy_11 := Lib.hid (HOy_10.out.next hb)
  have HYy_11 := Lib.hid (HYy_10.out.next hb)
  have HOv_11 := Lib.hid (HOv_10.out.next hb)
  have HYv_11 := Lib.hid (HYv_10.out.next hb)
  clear HB_10 HV_10 HOy_10 HYy_10 HOv_10 HYv_10 hb
  have HPG := Lib.hid ha.prs
  have HG_11 := Lib.hid (ha.own)
  clear ha
  clear HC
  go_wp2_with fail
  refine (eqIntSS_r aG aV w11 (prs_eqv HPG.out HPV.out) (Nst.own_in HG_11.out) (Nst.own_in HV_11.out) (prs_fit HPG.out HVL.out)).mono ?_
  rintro e w12 ⟨rfl, hb⟩
  have Z12 := Lib.hid hb.size
  have HB_12 := Lib.hid (below_next HB_11.out hb)
  have HV_12 := Lib.hid (Nst.keepB HV_11.out hb)
  have HOy_12 := Lib.hid (HOy_11.out.next hb)
  have HYy_12 := Lib.hid (HYy_11.out.next hb)
  have HOv_12 := Lib.hid (HOv_11.out.next hb)
  have HYv_12 := Lib.hid (HYv_11.out.next hb)
  have HG_12 := Lib.hid (Nst.keepB HG_11.out hb)
  clear HB_11 HV_11 HOy_11 HYy_11 HOv_11 HYv_11 HG_11 hb
  go_wp2_with fail
  have hb := below_drew w12
  have Z13 := Lib.hid hb.size
  have HB_13 := Lib.hid (below_next HB_12.out hb)
  have HV_13 := Lib.hid (Nst.keepB HV_12.out hb)
  have HOy_13 := Lib.hid (HOy_12.out.next hb)
  have HYy_13 := Lib.hid (HYy_12.out.next hb)
  have HOv_13 := Lib.hid (HOv_12.out.next hb)
  have HYv_13 := Lib.hid (HYv_12.out.next hb)
  have HG_13 := Lib.hid (Nst.keepB HG_12.out hb)
  clear HB_12 HV_12 HOy_12 HYy_12 HOv_12 HYv_12 HG_12 hb
  go_region_held3 (fun w' => w'.cell? ⟨w.heap.size, 0, none⟩ = some (.slice x.P x.l.length x.c) ∧ w'.cell? ⟨w.heap.size, 1, none⟩ = some (.slice x.V.A x.V.xs.length x.V.c) ∧ w'.cell? ⟨w.heap.size, 2, none⟩ = some (.slice x.R x.rv.length x.e) ∧ w'.cell? ⟨w7.heap.size, 0, none⟩ = some (.slice y.P y.l.length y.c) ∧ w'.cell? ⟨w7.heap.size, 1, none⟩ = some (.slice y.V.A y.V.xs.length y.V.c) ∧ w'.cell? ⟨w7.heap.size, 2, none⟩ = some (.slice y.R y.rv.length y.e))
    (first | exact shBox_cells (HX0.out.next HB_13.out).mem HYy_13.out.mem | exact shBox_cells (HX0.out.next HB_14.out).mem HYy_14.out.mem | exact shBox_cells (HX0.out.next HB_15.out).mem HYy_15.out.mem)
    (first
      | (go_at_call 15; refine (toSheet_c x _ (HR0.out.next HB_13.out) HF.out).mono ?_; rintro e w14 ⟨⟨z, rfl, hz, hzi⟩, hb⟩; have Z14 := Lib.hid hb.size; have HB_14 := Lib.hid (below_next HB_13.out hb); have HV_14 := Lib.hid (Nst.keepB HV_13.out hb); have HOy_14 := Lib.hid (HOy_13.out.next hb); have HYy_14 := Lib.hid (HYy_13.out.next hb); have HOv_14 := Lib.hid (HOv_13.out.next hb); have HYv_14 := Lib.hid (HYv_13.out.next hb); have HG_14 := Lib.hid (Nst.keepB HG_13.out hb); have HC := Lib.hid (eqSheet_yes y z w14 (HSy.out.symm.trans hz) HOy_14.out.sh hzi.sh (HSy.out.fits HF.out)); unfold Sh.val at HC ⊢; clear hb hz hzi)
      | (go_at_call 17; refine HC.out.mono ?_; rintro e w15 ⟨rfl, hb⟩; have Z15 := Lib.hid hb.size; have HB_15 := Lib.hid (below_next HB_14.out hb); have HV_15 := Lib.hid (Nst.keepB HV_14.out hb); have HOy_15 := Lib.hid (HOy_14.out.next hb); have HYy_15 := Lib.hid (HYy_14.out.next hb); have HOv_15 := Lib.hid (HOv_14.out.next hb); have HYv_15 := Lib.hid (HYv_14.out.next hb); have HG_15 := Lib.hid (Nst.keepB HG_14.out hb); clear hb)
      )
  clear HC HB_13 HB_14 HV_13 HV_14 HOy_13 HOy_14 HYy_13 HYy_14 HOv_13 HOv_14 HYv_13 HYv_14 HG_13 HG_14
  go_wp2_with fail
  have hb := below_drew w15
  have Z16 := Lib.hid hb.size
  have HB_16 := Lib.hid (below_next HB_15.out hb)
  have HV_16 := Lib.hid (Nst.keepB HV_15.out hb)
  have HOy_16 := Lib.hid (HOy_15.out.next hb)
  have HYy_16 := Lib.hid (HYy_15.out.next hb)
  have HOv_16 := Lib.hid (HOv_15.out.next hb)
  have HYv_16 := Lib.hid (HYv_15.out.next hb)
  have HG_16 := Lib.hid (Nst.keepB HG_15.out hb)
  clear HB_15 HV_15 HOy_15 HYy_15 HOv_15 HYv_15 HG_15 hb
  go_region_held3 (fun w' => w'.cell? ⟨w.heap.size + 1, 0, none⟩ = some (.slice u.P u.l.length u.c) ∧ w'.cell? ⟨w.heap.size + 1, 1, none⟩ = some (.slice u.V.A u.V.xs.length u.V.c) ∧ w'.cell? ⟨w.heap.size + 1, 2, none⟩ = some (.slice u.R u.rv.length u.e) ∧ w'.cell? ⟨w9.heap.size, 0, none⟩ = some (.slice v.P v.l.length v.c) ∧ w'.cell? ⟨w9.heap.size, 1, none⟩ = some (.slice v.V.A v.V.xs.length v.V.c) ∧ w'.cell? ⟨w9.heap.size, 2, none⟩ = some (.slice v.R v.rv.length v.e))
    (first | exact shBox_cells (HX1.out.next HB_16.out).mem HYv_16.out.mem | exact shBox_cells (HX1.out.next HB_17.out).mem HYv_17.out.mem | exact shBox_cells (HX1.out.next HB_18.out).mem HYv_18.out.mem)
    (first
      | (go_at_call 15; refine (toSheet_c u _ (HR1.out.next HB_16.out) HG.out).mono ?_; rintro e w17 ⟨⟨z, rfl, hz, hzi⟩, hb⟩; have Z17 := Lib.hid hb.size; have HB_17 := Lib.hid (below_next HB_16.out hb); have HV_17 := Lib.hid (Nst.keepB HV_16.out hb); have HOy_17 := Lib.hid (HOy_16.out.next hb); have HYy_17 := Lib.hid (HYy_16.out.next hb); have HOv_17 := Lib.hid (HOv_16.out.next hb); have HYv_17 := Lib.hid (HYv_16.out.next hb); have HG_17 := Lib.hid (Nst.keepB HG_16.out hb); have HC := Lib.hid (eqSheet_yes v z w17 (HSv.out.symm.trans hz) HOv_17.out.sh hzi.sh (HSv.out.fits HG.out)); unfold Sh.val at HC ⊢; clear hb hz hzi)
      | (go_at_call 17; refine HC.out.mono ?_; rintro e w18 ⟨rfl, hb⟩; have Z18 := Lib.hid hb.size; have HB_18 := Lib.hid (below_next HB_17.out hb); have HV_18 := Lib.hid (Nst.keepB HV_17.out hb); have HOy_18 := Lib.hid (HOy_17.out.next hb); have HYy_18 := Lib.hid (HYy_17.out.next hb); have HOv_18 := Lib.hid (HOv_17.out.next hb); have HYv_18 := Lib.hid (HYv_17.out.next hb); have HG_18 := Lib.hid (Nst.keepB HG_17.out hb); clear hb)
      )
  clear HC HB_16 HB_17 HV_16 HV_17 HOy_16 HOy_17 HYy_16 HYy_17 HOv_16 HOv_17 HYv_16 HYv_17 HG_16 HG_17
  obtain ⟨c0, c1, c2, cf⟩ := HYy_18.out.mem
  go_wp2_with fail
  clear c0 c1 c2 cf
  refine (markSheet_any _ y _ 1 w18 rfl HOy_18.out (fun i hi => by have q2 := hi.2; have z1 := Z1.out; have z2 := Z2.out; have z3 := Z3.out; have z4 := Z4.out; have z5 := Z5.out; have z6 := Z6.out; have z7 := Z7.out; have z8 := Z8.out; have z9 := Z9.out; have z10 := Z10.out; have z11 := Z11.out; have z12 := Z12.out; have z13 := Z13.out; have z14 := Z14.out; have z15 := Z15.out; have z16 := Z16.out; have z17 := Z17.out; have z18 := Z18.out; omega) (HSy.out.fits HF.out) (by omega) (by omega)).mono ?_
  rintro e w19 ⟨rfl, _, hk⟩
  clear HOy_18
  clear HYy_18
  have Z19 := Lib.hid hk.size
  have HB_19 := Lib.hid (HB_18.out.trans (hk.below HB_18.out.size (fun i hi => by have q1 := hi.1; have z1 := Z1.out; have z2 := Z2.out; have z3 := Z3.out; have z4 := Z4.out; have z5 := Z5.out; have z6 := Z6.out; have z7 := Z7.out; have z8 := Z8.out; have z9 := Z9.out; have z10 := Z10.out; have z11 := Z11.out; have z12 := Z12.out; have z13 := Z13.out; have z14 := Z14.out; have z15 := Z15.out; have z16 := Z16.out; have z17 := Z17.out; have z18 := Z18.out; have z19 := Z19.out; omega)))
  have HV_19 := Lib.hid (Nst.own_keep HV_18.out hk (fun i h1 h2 => by have q1 := h1.1; have q2 := h1.2; have q3 := h2.1; have q4 := h2.2; have z1 := Z1.out; have z2 := Z2.out; have z3 := Z3.out; have z4 := Z4.out; have z5 := Z5.out; have z6 := Z6.out; have z7 := Z7.out; have z8 := Z8.out; have z9 := Z9.out; have z10 := Z10.out; have z11 := Z11.out; have z12 := Z12.out; have z13 := Z13.out; have z14 := Z14.out; have z15 := Z15.out; have z16 := Z16.out; have z17 := Z17.out; have z18 := Z18.out; have z19 := Z19.out; omega))
  have HOv_19 := Lib.hid (HOv_18.out.keep hk (fun i h1 h2 => by have q1 := h1.1; have q2 := h1.2; have q3 := h2.1; have q4 := h2.2; have z1 := Z1.out; have z2 := Z2.out; have z3 := Z3.out; have z4 := Z4.out; have z5 := Z5.out; have z6 := Z6.out; have z7 := Z7.out; have z8 := Z8.out; have z9 := Z9.out; have z10 := Z10.out; have z11 := Z11.out; have z12 := Z12.out; have z13 := Z13.out; have z14 := Z14.out; have z15 := Z15.out; have z16 := Z16.out; have z17 := Z17.out; have z18 := Z18.out; have z19 := Z19.out; omega))
  have HYv_19 := Lib.hid (HYv_18.out.only hk (fun hi => by have q1 := hi.1; have q2 := hi.2; have z1 := Z1.out; have z2 := Z2.out; have z3 := Z3.out; have z4 := Z4.out; have z5 := Z5.out; have z6 := Z6.out; have z7 := Z7.out; have z8 := Z8.out; have z9 := Z9.out; have z10 := Z10.out; have z11 := Z11.out; have z12 := Z12.out; have z13 := Z13.out; have z14 := Z14.out; have z15 := Z15.out; have z16 := Z16.out; have z17 := Z17.out; have z18 := Z18.out; have z19 := Z19.out; omega))
  have HG_19 := Lib.hid (Nst.own_keep HG_18.out hk (fun i h1 h2 => by have q1 := h1.1; have q2 := h1.2; have q3 := h2.1; have q4 := h2.2; have z1 := Z1.out; have z2 := Z2.out; have z3 := Z3.out; have z4 := Z4.out; have z5 := Z5.out; have z6 := Z6.out; have z7 := Z7.out; have z8 := Z8.out; have z9 := Z9.out; have z10 := Z10.out; have z11 := Z11.out; have z12 := Z12.out; have z13 := Z13.out; have z14 := Z14.out; have z15 := Z15.out; have z16 := Z16.out; have z17 := Z17.out; have z18 := Z18.out; have z19 := Z19.out; omega))
  clear HB_18 HV_18 HOv_18 HYv_18 HG_18 hk
  have HK3 := Lib.hid (shK3_le (HSy.out.fits HF.out))
  obtain ⟨c0, c1, c2, cf⟩ := HYv_19.out.mem
  go_wp2_with fail
  clear c0 c1 c2 cf
  refine (markSheet_any _ v _ (shK3 y 1) w19 rfl HOv_19.out (fun i hi => by have q2 := hi.2; have z1 := Z1.out; have z2 := Z2.out; have z3 := Z3.out; have z4 := Z4.out; have z5 := Z5.out; have z6 := Z6.out; have z7 := Z7.out; have z8 := Z8.out; have z9 := Z9.out; have z10 := Z10.out; have z11 := Z11.out; have z12 := Z12.out; have z13 := Z13.out; have z14 := Z14.out; have z15 := Z15.out; have z16 := Z16.out; have z17 := Z17.out; have z18 := Z18.out; have z19 := Z19.out; omega) (HSv.out.fits HG.out) HK3.out.1 HK3.out.2).mono ?_
  rintro e w20 ⟨rfl, _, hk⟩
  clear HOv_19
  clear HYv_19
  have Z20 := Lib.hid hk.size
  have HB_20 := Lib.hid (HB_19.out.trans (hk.below HB_19.out.size (fun i hi => by have q1 := hi.1; have z1 := Z1.out; have z2 := Z2.out; have z3 := Z3.out; have z4 := Z4.out; have z5 := Z5.out; have z6 := Z6.out; have z7 := Z7.out; have z8 := Z8.out; have z9 := Z9.out; have z10 := Z10.out; have z11 := Z11.out; have z12 := Z12.out; have z13 := Z13.out; have z14 := Z14.out; have z15 := Z15.out; have z16 := Z16.out; have z17 := Z17.out; have z18 := Z18.out; have z19 := Z19.out; have z20 := Z20.out; omega)))
  have HV_20 := Lib.hid (Nst.own_keep HV_19.out hk (fun i h1 h2 => by have q1 := h1.1; have q2 := h1.2; have q3 := h2.1; have q4 := h2.2; have z1 := Z1.out; have z2 := Z2.out; have z3 := Z3.out; have z4 := Z4.out; have z5 := Z5.out; have z6 := Z6.out; have z7 := Z7.out; have z8 := Z8.out; have z9 := Z9.out; have z10 := Z10.out; have z11 := Z11.out; have z12 := Z12.out; have z13 := Z13.out; have z14 := Z14.out; have z15 := Z15.out; have z16 := Z16.out; have z17 := Z17.out; have z18 := Z18.out; have z19 := Z19.out; have z20 := Z20.out; omega))
  have HG_20 := Lib.hid (Nst.own_keep HG_19.out hk (fun i h1 h2 => by have q1 := h1.1; have q2 := h1.2; have q3 := h2.1; have q4 := h2.2; have z1 := Z1.out; have z2 := Z2.out; have z3 := Z3.out; have z4 := Z4.out; have z5 := Z5.out; have z6 := Z6.out; have z7 := Z7.out; have z8 := Z8.out; have z9 := Z9.out; have z10 := Z10.out; have z11 := Z11.out; have z12 := Z12.out; have z13 := Z13.out; have z14 := Z14.out; have z15 := Z15.out; have z16 := Z16.out; have z17 := Z17.out; have z18 := Z18.out; have z19 := Z19.out; have z20 := Z20.out; omega))
  clear HB_19 HV_19 HG_19 hk
  go_wp2_with fail
  refine (eqIntSS_r aG aV w20 (prs_eqv HPG.out HPV.out) (Nst.own_in HG_20.out) (Nst.own_in HV_20.out) (prs_fit HPG.out HVL.out)).mono ?_
  rintro e w21 ⟨rfl, hb⟩
  have Z21 := Lib.hid hb.size
  have HB_21 := Lib.hid (below_next HB_20.out hb)
  have HV_21 := Lib.hid (Nst.keepB HV_20.out hb)
  have HG_21 := Lib.hid (Nst.keepB HG_20.out hb)
  clear HB_20 HV_20 HG_20 hb
  go_wp2_with fail
  refine (markIntSS_r _ aG _ 1 w21 rfl HG_21.out (prs_fit HPG.out HVL.out) (by omega)).mono ?_
  rintro e w22 ⟨rfl, hgo, hk⟩
  clear HG_21
  have Z22 := Lib.hid hk.size
  have HB_22 := Lib.hid (HB_21.out.trans (hk.below HB_21.out.size (fun i hi => by have q1 := hi.1; have z1 := Z1.out; have z2 := Z2.out; have z3 := Z3.out; have z4 := Z4.out; have z5 := Z5.out; have z6 := Z6.out; have z7 := Z7.out; have z8 := Z8.out; have z9 := Z9.out; have z10 := Z10.out; have z11 := Z11.out; have z12 := Z12.out; have z13 := Z13.out; have z14 := Z14.out; have z15 := Z15.out; have z16 := Z16.out; have z17 := Z17.out; have z18 := Z18.out; have z19 := Z19.out; have z20 := Z20.out; have z21 := Z21.out; have z22 := Z22.out; omega)))
  have HV_22 := Lib.hid (Nst.own_keep HV_21.out hk (fun i h1 h2 => by have q1 := h1.1; have q2 := h1.2; have q3 := h2.1; have q4 := h2.2; have z1 := Z1.out; have z2 := Z2.out; have z3 := Z3.out; have z4 := Z4.out; have z5 := Z5.out; have z6 := Z6.out; have z7 := Z7.out; have z8 := Z8.out; have z9 := Z9.out; have z10 := Z10.out; have z11 := Z11.out; have z12 := Z12.out; have z13 := Z13.out; have z14 := Z14.out; have z15 := Z15.out; have z16 := Z16.out; have z17 := Z17.out; have z18 := Z18.out; have z19 := Z19.out; have z20 := Z20.out; have z21 := Z21.out; have z22 := Z22.out; omega))
  clear HB_21 HV_21 hk
  have HG_22 := Lib.hid (hgo)
  clear hgo
  go_wp2_with fail
  refine (heldIntSS_r aG _ 1 w22 rfl (Nst.own_in HG_22.out) (prs_fit HPG.out HVL.out) (by omega)).mono ?_
  rintro e w23 ⟨rfl, hb⟩
  have Z23 := Lib.hid hb.size
  have HB_23 := Lib.hid (below_next HB_22.out hb)
  have HV_23 := Lib.hid (Nst.keepB HV_22.out hb)
  have HG_23 := Lib.hid (Nst.keepB HG_22.out hb)
  clear HB_22 HV_22 HG_22 hb
  go_wp2_with fail
  have hb := below_drew w23
  have Z24 := Lib.hid hb.size
  have HB_24 := Lib.hid (below_next HB_23.out hb)
  have HV_24 := Lib.hid (Nst.keepB HV_23.out hb)
  have HG_24 := Lib.hid (Nst.keepB HG_23.out hb)
  clear HB_23 HV_23 HG_23 hb
  go_region_held3 (fun w' => w'.cell? ⟨w.heap.size, 0, none⟩ = some (.slice x.P x.l.length x.c) ∧ w'.cell? ⟨w.heap.size, 1, none⟩ = some (.slice x.V.A x.V.xs.length x.V.c) ∧ w'.cell? ⟨w.heap.size, 2, none⟩ = some (.slice x.R x.rv.length x.e) ∧ w'.cell? ⟨w.heap.size + 1, 0, none⟩ = some (.slice u.P u.l.length u.c) ∧ w'.cell? ⟨w.heap.size + 1, 1, none⟩ = some (.slice u.V.A u.V.xs.length u.V.c) ∧ w'.cell? ⟨w.heap.size + 1, 2, none⟩ = some (.slice u.R u.rv.length u.e))
    (first | exact HCB.out _ HB_24.out | exact HCB.out _ HB_25.out | exact HCB.out _ HB_26.out | exact HCB.out _ HB_27.out)
    (first
      | (go_at_call 15; (with_reducible refine (toSheet_c x _ (HR0.out.next HB_24.out) HF.out).mono ?_); rintro e w25 ⟨⟨yc, rfl, hs, hy⟩, hb⟩; have Z25 := Lib.hid hb.size; have HB_25 := Lib.hid (below_next HB_24.out hb); have HV_25 := Lib.hid (Nst.keepB HV_24.out hb); have HG_25 := Lib.hid (Nst.keepB HG_24.out hb); have HSyc := Lib.hid hs; have HNyc_25 := Lib.hid hy; unfold Sh.val; clear hb hs hy)
      | (go_at_call 15; (with_reducible refine (toSheet_c u _ (HR1.out.next HB_25.out) HG.out).mono ?_); rintro e w26 ⟨⟨vc, rfl, hs, hy⟩, hb⟩; have Z26 := Lib.hid hb.size; have HB_26 := Lib.hid (below_next HB_25.out hb); have HV_26 := Lib.hid (Nst.keepB HV_25.out hb); have HG_26 := Lib.hid (Nst.keepB HG_25.out hb); have HNyc_26 := Lib.hid (HNyc_25.out.next hb); have HSvc := Lib.hid hs; have HC := Lib.hid (iChangedCalls_s x u yc vc w26 HSyc.out hs HNyc_26.out.sh hy.sh HF.out HG.out); unfold Sh.val at HC ⊢; clear hb hs hy)
      | (go_at_call 49; refine HC.out.mono ?_; rintro e w27 ⟨⟨aH, rfl, ha⟩, hb⟩; have Z27 := Lib.hid hb.size; have HB_27 := Lib.hid (below_next HB_26.out hb); have HV_27 := Lib.hid (Nst.keepB HV_26.out hb); have HG_27 := Lib.hid (Nst.keepB HG_26.out hb); have HPH := Lib.hid ha.prs; have HH_27 := Lib.hid ha.own; clear hb ha)
      )
  clear HC HSyc HSvc HNyc_25 HNyc_26 HB_24 HB_25 HB_26 HV_24 HV_25 HV_26 HG_24 HG_25 HG_26
  go_wp2_with fail
  refine (eqIntSS_r aH aV w27 (prs_eqv HPH.out HPV.out) (Nst.own_in HH_27.out) (Nst.own_in HV_27.out) (prs_fit HPH.out HVL.out)).mono ?_
  rintro e w28 ⟨rfl, hb⟩
  have Z28 := Lib.hid hb.size
  have HB_28 := Lib.hid (below_next HB_27.out hb)
  have HV_28 := Lib.hid (Nst.keepB HV_27.out hb)
  have HG_28 := Lib.hid (Nst.keepB HG_27.out hb)
  have HH_28 := Lib.hid (Nst.keepB HH_27.out hb)
  clear HB_27 HV_27 HG_27 HH_27 hb
  go_wp2_with fail
  refine (heldIntSS_r aG _ 1 w28 rfl (Nst.own_in HG_28.out) (prs_fit HPG.out HVL.out) (by omega)).mono ?_
  rintro e w29 ⟨rfl, hb⟩
  have Z29 := Lib.hid hb.size
  have HB_29 := Lib.hid (below_next HB_28.out hb)
  have HV_29 := Lib.hid (Nst.keepB HV_28.out hb)
  have HG_29 := Lib.hid (Nst.keepB HG_28.out hb)
  have HH_29 := Lib.hid (Nst.keepB HH_28.out hb)
  clear HB_28 HV_28 HG_28 HH_28 hb
  go_wp2
  go_ret
  exact ⟨rfl, below_next HB0.out HB_29.out⟩
end Go.Proofs.Ytpmjfanalcaodaa

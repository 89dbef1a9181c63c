/- The walk of the law JudgeMarks. -/
import Derived.Test.YtfeffkjmjkddnaaMrH
import Derived.Deep.RegionHeld3
namespace Go.Proofs.Ytfeffkjmjkddnaa
open Go.ChangeShapes Go.WideShapes Go.ChangeAt Go.RowKit Go.Lib Go.Proofs
set_option linter.unusedVariables false

theorem sJudgeMarks_s (x y : Mr) (j : Int) (w : World) (hs : MrSame x y) (hr : MrIn w w.heap.size y) (hl : MrFits x) :
    Calls Try.prog 19 #[y.val, .int .i64 j] w fun e w' => (∃ (y t : Rw Int) (S T : Nat → Prop), e = .returned (.tuple #[.slice y.A y.xs.length y.c, .slice t.A t.xs.length t.c, .bool (pB (MkHas (ctt x.G) (ctt x.C) j))]) ∧ Ints2Ans (jmG (ctt x.G) (ctt x.C) j) (jmC (ctt x.G) (ctt x.C) j) w w' y t S T) ∧ Below w.heap.size w w' := by
  have h := sJudgeMarks_any y j w hr (hs.fits hl)
  rw [hs.cg, hs.cc] at h
  exact h
theorem iJudgeMarks_s (x y : Mr) (j : Int) (w : World) (hs : MrSame x y) (hr : MrIn w w.heap.size y) (hl : MrFits x) :
    Calls Try.prog 20 #[y.val, .int .i64 j] w fun e w' => (∃ (y t : Rw Int) (S T : Nat → Prop), e = .returned (.tuple #[.slice y.A y.xs.length y.c, .slice t.A t.xs.length t.c, .bool (pB (MkHas (ctt x.G) (ctt x.C) j))]) ∧ Ints2Ans (jmG (ctt x.G) (ctt x.C) j) (jmC (ctt x.G) (ctt x.C) j) w w' y t S T) ∧ Below w.heap.size w w' := by
  have h := iJudgeMarks_any y j w hr (hs.fits hl)
  rw [hs.cg, hs.cc] at h
  exact h
set_option maxHeartbeats 4000000 in
set_option maxRecDepth 20000 in
theorem walkJudgeMarks (x : Mr) (j : Int) (w : World) (hr : MrIn w w.heap.size x) (hl : MrLen x) (hw0 : (Lit.int .i64 j).wf = true) :
    Calls Try.prog 5 #[x.val, .int .i64 j] w fun e w' => e = .returned (.bool true) ∧ Below w.heap.size w w' := by
  have hb0 := below_alloc w (.cells #[.slice x.G.A x.G.xs.length x.G.c, .slice x.C.A x.C.xs.length x.C.c] 24)
  have HB0 := Lib.hid hb0
  have HX0 := Lib.hid (mrBox_new w 24 x)
  have HR0 := Lib.hid (hr.next hb0)
  have HL := Lib.hid hl
  clear hr hl hb0
  unfold Mr.val
  go_enter Try.func5, Try.ntmps5
  go_wp2_with fail
  have zW := HB0.out.size
  have ZW := Lib.hid HX0.out.lt
  clear zW
  generalize World.alloc w _ = W at HB0 HX0 HR0 ZW ⊢
  have HB_0 := Lib.hid (Below.refl W.heap.size W)
  refine (szMarks_any x _ W HR0.out HL.out (by omega) (by omega)).mono ?_
  rintro e w1 ⟨⟨q, rfl, hq⟩, hb⟩
  have Z1 := Lib.hid hb.size
  have HB_1 := Lib.hid (below_next HB_0.out hb)
  clear HB_0 hb
  rcases hq with hq | ⟨hq0, hq1, HF⟩
  · go_wp2
    go_ret
    exact ⟨rfl, below_next HB0.out HB_1.out⟩
  have HVL0 := Lib.hid (jmG_small (ctt x.G) (ctt x.C) j)
  have HVL1 := Lib.hid (jmC_small (ctt x.G) (ctt x.C) j)
  obtain ⟨c0, c1, cf⟩ := (HX0.out.next HB_1.out).mem
  go_wp2_with fail
  clear c0 c1 cf
  refine (toMarks_c x w1 (HR0.out.next HB_1.out) HF.out).mono ?_
  rintro e w2 ⟨⟨ya, rfl, hs, hy⟩, hb⟩
  have Z2 := Lib.hid hb.size
  have HB_2 := Lib.hid (below_next HB_1.out hb)
  clear HB_1 hb
  have HSya := Lib.hid hs
  clear hs
  have HC := Lib.hid (sJudgeMarks_s x ya j w2 HSya.out hy.mr HF.out)
  clear hy
  unfold Mr.val at HC ⊢
  go_wp2_with fail
  refine (HC.out).mono ?_
  rintro e w3 ⟨⟨aV0, aV1, SV, TV, rfl, ha⟩, hb⟩
  have Z3 := Lib.hid hb.size
  have HB_3 := Lib.hid (below_next HB_2.out hb)
  clear HB_2 hb
  have HPV0 := Lib.hid ha.v0
  have HPV1 := Lib.hid ha.v1
  have HSV := Lib.hid ha.s
  have HTV := Lib.hid ha.t
  have HDV := Lib.hid ha.d
  have HV0_3 := Lib.hid (ha.o0)
  have HV1_3 := Lib.hid (ha.o1)
  clear ha
  clear HC HSya
  obtain ⟨c0, c1, cf⟩ := (HX0.out.next HB_3.out).mem
  go_wp2_with fail
  clear c0 c1 cf
  refine (toMarks_c x w3 (HR0.out.next HB_3.out) HF.out).mono ?_
  rintro e w4 ⟨⟨y, rfl, hs, hy⟩, hb⟩
  have Z4 := Lib.hid hb.size
  have HB_4 := Lib.hid (below_next HB_3.out hb)
  have HV0_4 := Lib.hid (Nst.keepB HV0_3.out hb)
  have HV1_4 := Lib.hid (Nst.keepB HV1_3.out hb)
  clear HB_3 HV0_3 HV1_3 hb
  have HSy := Lib.hid hs
  clear hs
  have HO_4 := Lib.hid (hy)
  clear hy
  obtain ⟨w5, hW⟩ : ∃ W', W' = w4.alloc (.cells #[.slice y.G.A y.G.xs.length y.G.c, .slice y.C.A y.C.xs.length y.C.c] 27) := ⟨_, rfl⟩
  have hb : Below w4.heap.size w4 w5 := by rw [hW]; exact below_alloc _ _
  have Z5 := Lib.hid hb.size
  have HB_5 := Lib.hid (below_next HB_4.out hb)
  have HV0_5 := Lib.hid (Nst.keepB HV0_4.out hb)
  have HV1_5 := Lib.hid (Nst.keepB HV1_4.out hb)
  have HO_5 := Lib.hid (HO_4.out.next hb)
  clear HB_4 HV0_4 HV1_4 HO_4 hb
  have HY_5 := Lib.hid (show MrBox w5 w4.heap.size y by rw [hW]; exact mrBox_new _ _ _)
  have HC := Lib.hid (iJudgeMarks_s x y j w5 HSy.out HO_5.out.mr HF.out)
  unfold Mr.val at HC ⊢
  go_wp2_with fail
  rw [← hW]
  clear hW
  refine (HC.out).mono ?_
  rintro e w6 ⟨⟨aG0, aG1, SG, TG, rfl, ha⟩, hb⟩
  have Z6 := Lib.hid hb.size
  have HB_6 := Lib.hid (below_next HB_5.out hb)
  have HV0_6 := Lib.hid (Nst.keepB HV0_5.out hb)
  have HV1_6 := Lib.hid (Nst.keepB HV1_5.out hb)
  have HO_6 := Lib.hid (HO_5.out.next hb)
  have HY_6 := Lib.hid (HY_5.out.next hb)
  clear HB_5 HV0_5 HV1_5 HO_5 HY_5 hb
  have HPG0 := Lib.hid ha.v0
  have HPG1 := Lib.hid ha.v1
  have HSG := Lib.hid ha.s
  have HTG := Lib.hid ha.t
  have HDG := Lib.hid ha.d
  have HG0_6 := Lib.hid (ha.o0)
  have HG1_6 := Lib.hid (ha.o1)
  clear ha
  clear HC
  go_wp2_with fail
  refine (eqIntS_r aG0 aV0 w6 (ints_eqv HPG0.out HPV0.out) (Nst.own_in HG0_6.out) (Nst.own_in HV0_6.out) (ints_fit HPG0.out HVL0.out)).mono ?_
  rintro e w7 ⟨rfl, hb⟩
  have Z7 := Lib.hid hb.size
  have HB_7 := Lib.hid (below_next HB_6.out hb)
  have HV0_7 := Lib.hid (Nst.keepB HV0_6.out hb)
  have HV1_7 := Lib.hid (Nst.keepB HV1_6.out hb)
  have HO_7 := Lib.hid (HO_6.out.next hb)
  have HY_7 := Lib.hid (HY_6.out.next hb)
  have HG0_7 := Lib.hid (Nst.keepB HG0_6.out hb)
  have HG1_7 := Lib.hid (Nst.keepB HG1_6.out hb)
  clear HB_6 HV0_6 HV1_6 HO_6 HY_6 HG0_6 HG1_6 hb
  go_wp2_with fail
  refine (eqIntS_r aG1 aV1 w7 (ints_eqv HPG1.out HPV1.out) (Nst.own_in HG1_7.out) (Nst.own_in HV1_7.out) (ints_fit HPG1.out HVL1.out)).mono ?_
  rintro e w8 ⟨rfl, hb⟩
  have Z8 := Lib.hid hb.size
  have HB_8 := Lib.hid (below_next HB_7.out hb)
  have HV0_8 := Lib.hid (Nst.keepB HV0_7.out hb)
  have HV1_8 := Lib.hid (Nst.keepB HV1_7.out hb)
  have HO_8 := Lib.hid (HO_7.out.next hb)
  have HY_8 := Lib.hid (HY_7.out.next hb)
  have HG0_8 := Lib.hid (Nst.keepB HG0_7.out hb)
  have HG1_8 := Lib.hid (Nst.keepB HG1_7.out hb)
  clear HB_7 HV0_7 HV1_7 HO_7 HY_7 HG0_7 HG1_7 hb
  go_wp2_with fail
  have hb := below_drew w8
  have Z9 := Lib.hid hb.size
  have HB_9 := Lib.hid (below_next HB_8.out hb)
  have HV0_9 := Lib.hid (Nst.keepB HV0_8.out hb)
  have HV1_9 := Lib.hid (Nst.keepB HV1_8.out hb)
  have HO_9 := Lib.hid (HO_8.out.next hb)
  have HY_9 := Lib.hid (HY_8.out.next hb)
  have HG0_9 := Lib.hid (Nst.keepB HG0_8.out hb)
  have HG1_9 := Lib.hid (Nst.keepB HG1_8.out hb)
  clear HB_8 HV0_8 HV1_8 HO_8 HY_8 HG0_8 HG1_8 hb
  go_region_held3 (fun w' => w'.cell? ⟨w.heap.size, 0, none⟩ = some (.slice x.G.A x.G.xs.length x.G.c) ∧ w'.cell? ⟨w.heap.size, 1, none⟩ = some (.slice x.C.A x.C.xs.length x.C.c) ∧ w'.cell? ⟨w4.heap.size, 0, none⟩ = some (.slice y.G.A y.G.xs.length y.G.c) ∧ w'.cell? ⟨w4.heap.size, 1, none⟩ = some (.slice y.C.A y.C.xs.length y.C.c))
    (first | exact mrBox_cells (HX0.out.next HB_9.out).mem HY_9.out.mem | exact mrBox_cells (HX0.out.next HB_10.out).mem HY_10.out.mem | exact mrBox_cells (HX0.out.next HB_11.out).mem HY_11.out.mem)
    (first
      | (go_at_call 14; refine (toMarks_c x _ (HR0.out.next HB_9.out) HF.out).mono ?_; rintro e w10 ⟨⟨z, rfl, hz, hzi⟩, hb⟩; have Z10 := Lib.hid hb.size; have HB_10 := Lib.hid (below_next HB_9.out hb); have HV0_10 := Lib.hid (Nst.keepB HV0_9.out hb); have HV1_10 := Lib.hid (Nst.keepB HV1_9.out hb); have HO_10 := Lib.hid (HO_9.out.next hb); have HY_10 := Lib.hid (HY_9.out.next hb); have HG0_10 := Lib.hid (Nst.keepB HG0_9.out hb); have HG1_10 := Lib.hid (Nst.keepB HG1_9.out hb); have HC := Lib.hid (eqMarks_yes y z w10 (HSy.out.symm.trans hz) HO_10.out.mr hzi.mr (HSy.out.fits HF.out)); unfold Mr.val at HC ⊢; clear hb hz hzi)
      | (go_at_call 16; refine HC.out.mono ?_; rintro e w11 ⟨rfl, hb⟩; have Z11 := Lib.hid hb.size; have HB_11 := Lib.hid (below_next HB_10.out hb); have HV0_11 := Lib.hid (Nst.keepB HV0_10.out hb); have HV1_11 := Lib.hid (Nst.keepB HV1_10.out hb); have HO_11 := Lib.hid (HO_10.out.next hb); have HY_11 := Lib.hid (HY_10.out.next hb); have HG0_11 := Lib.hid (Nst.keepB HG0_10.out hb); have HG1_11 := Lib.hid (Nst.keepB HG1_10.out hb); clear hb)
      )
  clear HC HB_9 HB_10 HV0_9 HV0_10 HV1_9 HV1_10 HO_9 HO_10 HY_9 HY_10 HG0_9 HG0_10 HG1_9 HG1_10
  obtain ⟨c0, c1, cf⟩ := HY_11.out.mem
  go_wp2_with fail
  clear c0 c1 cf
  refine (markMarks_any _ y _ 1 w11 rfl HO_11.out (fun i hi => by have q2 := hi.2; have z1 := Z1.out; have z2 := Z2.out; have z3 := Z3.out; have z4 := Z4.out; have z5 := Z5.out; have z6 := Z6.out; have z7 := Z7.out; have z8 := Z8.out; have z9 := Z9.out; have z10 := Z10.out; have z11 := Z11.out; omega) (HSy.out.fits HF.out) (by omega)).mono ?_
  rintro e w12 ⟨rfl, _, hk⟩
  clear HO_11
  clear HY_11
  have Z12 := Lib.hid hk.size
  have HB_12 := Lib.hid (HB_11.out.trans (hk.below HB_11.out.size (fun i hi => by have q1 := hi.1; have z1 := Z1.out; have z2 := Z2.out; have z3 := Z3.out; have z4 := Z4.out; have z5 := Z5.out; have z6 := Z6.out; have z7 := Z7.out; have z8 := Z8.out; have z9 := Z9.out; have z10 := Z10.out; have z11 := Z11.out; have z12 := Z12.out; omega)))
  have HV0_12 := Lib.hid (Nst.own_keep HV0_11.out hk (fun i h1 h2 => by replace h1 := HSV.out _ h1; have q1 := h1.1; have q2 := h1.2; have q3 := h2.1; have q4 := h2.2; have z1 := Z1.out; have z2 := Z2.out; have z3 := Z3.out; have z4 := Z4.out; have z5 := Z5.out; have z6 := Z6.out; have z7 := Z7.out; have z8 := Z8.out; have z9 := Z9.out; have z10 := Z10.out; have z11 := Z11.out; have z12 := Z12.out; omega))
  have HV1_12 := Lib.hid (Nst.own_keep HV1_11.out hk (fun i h1 h2 => by replace h1 := HTV.out _ h1; have q1 := h1.1; have q2 := h1.2; have q3 := h2.1; have q4 := h2.2; have z1 := Z1.out; have z2 := Z2.out; have z3 := Z3.out; have z4 := Z4.out; have z5 := Z5.out; have z6 := Z6.out; have z7 := Z7.out; have z8 := Z8.out; have z9 := Z9.out; have z10 := Z10.out; have z11 := Z11.out; have z12 := Z12.out; omega))
  have HG0_12 := Lib.hid (Nst.own_keep HG0_11.out hk (fun i h1 h2 => by replace h1 := HSG.out _ h1; have q1 := h1.1; have q2 := h1.2; have q3 := h2.1; have q4 := h2.2; have z1 := Z1.out; have z2 := Z2.out; have z3 := Z3.out; have z4 := Z4.out; have z5 := Z5.out; have z6 := Z6.out; have z7 := Z7.out; have z8 := Z8.out; have z9 := Z9.out; have z10 := Z10.out; have z11 := Z11.out; have z12 := Z12.out; omega))
  have HG1_12 := Lib.hid (Nst.own_keep HG1_11.out hk (fun i h1 h2 => by replace h1 := HTG.out _ h1; have q1 := h1.1; have q2 := h1.2; have q3 := h2.1; have q4 := h2.2; have z1 := Z1.out; have z2 := Z2.out; have z3 := Z3.out; have z4 := Z4.out; have z5 := Z5.out; have z6 := Z6.out; have z7 := Z7.out; have z8 := Z8.out; have z9 := Z9.out; have z10 := Z10.out; have z11 := Z11.out; have z12 := Z12.out; omega))
  clear HB_11 HV0_11 HV1_11 HG0_11 HG1_11 hk
  go_wp2_with fail
  refine (eqIntS_r aG0 aV0 w12 (ints_eqv HPG0.out HPV0.out) (Nst.own_in HG0_12.out) (Nst.own_in HV0_12.out) (ints_fit HPG0.out HVL0.out)).mono ?_
  rintro e w13 ⟨rfl, hb⟩
  have Z13 := Lib.hid hb.size
  have HB_13 := Lib.hid (below_next HB_12.out hb)
  have HV0_13 := Lib.hid (Nst.keepB HV0_12.out hb)
  have HV1_13 := Lib.hid (Nst.keepB HV1_12.out hb)
  have HG0_13 := Lib.hid (Nst.keepB HG0_12.out hb)
  have HG1_13 := Lib.hid (Nst.keepB HG1_12.out hb)
  clear HB_12 HV0_12 HV1_12 HG0_12 HG1_12 hb
  go_wp2_with fail
  refine (eqIntS_r aG1 aV1 w13 (ints_eqv HPG1.out HPV1.out) (Nst.own_in HG1_13.out) (Nst.own_in HV1_13.out) (ints_fit HPG1.out HVL1.out)).mono ?_
  rintro e w14 ⟨rfl, hb⟩
  have Z14 := Lib.hid hb.size
  have HB_14 := Lib.hid (below_next HB_13.out hb)
  have HV0_14 := Lib.hid (Nst.keepB HV0_13.out hb)
  have HV1_14 := Lib.hid (Nst.keepB HV1_13.out hb)
  have HG0_14 := Lib.hid (Nst.keepB HG0_13.out hb)
  have HG1_14 := Lib.hid (Nst.keepB HG1_13.out hb)
  clear HB_13 HV0_13 HV1_13 HG0_13 HG1_13 hb
  go_wp2_with fail
  refine (markIntS_r _ aG0 _ 1 w14 rfl HG0_14.out (ints_fit HPG0.out HVL0.out) (by omega)).mono ?_
  rintro e w15 ⟨rfl, hgo, hk⟩
  clear HG0_14
  have Z15 := Lib.hid hk.size
  have HB_15 := Lib.hid (HB_14.out.trans (hk.below HB_14.out.size (fun i hi => by replace hi := HSG.out _ hi; have q1 := hi.1; have z1 := Z1.out; have z2 := Z2.out; have z3 := Z3.out; have z4 := Z4.out; have z5 := Z5.out; have z6 := Z6.out; have z7 := Z7.out; have z8 := Z8.out; have z9 := Z9.out; have z10 := Z10.out; have z11 := Z11.out; have z12 := Z12.out; have z13 := Z13.out; have z14 := Z14.out; have z15 := Z15.out; omega)))
  have HV0_15 := Lib.hid (Nst.own_keep HV0_14.out hk (fun i h1 h2 => by replace h1 := HSV.out _ h1; replace h2 := HSG.out _ h2; have q1 := h1.1; have q2 := h1.2; have q3 := h2.1; have q4 := h2.2; have z1 := Z1.out; have z2 := Z2.out; have z3 := Z3.out; have z4 := Z4.out; have z5 := Z5.out; have z6 := Z6.out; have z7 := Z7.out; have z8 := Z8.out; have z9 := Z9.out; have z10 := Z10.out; have z11 := Z11.out; have z12 := Z12.out; have z13 := Z13.out; have z14 := Z14.out; have z15 := Z15.out; omega))
  have HV1_15 := Lib.hid (Nst.own_keep HV1_14.out hk (fun i h1 h2 => by replace h1 := HTV.out _ h1; replace h2 := HSG.out _ h2; have q1 := h1.1; have q2 := h1.2; have q3 := h2.1; have q4 := h2.2; have z1 := Z1.out; have z2 := Z2.out; have z3 := Z3.out; have z4 := Z4.out; have z5 := Z5.out; have z6 := Z6.out; have z7 := Z7.out; have z8 := Z8.out; have z9 := Z9.out; have z10 := Z10.out; have z11 := Z11.out; have z12 := Z12.out; have z13 := Z13.out; have z14 := Z14.out; have z15 := Z15.out; omega))
  have HG1_15 := Lib.hid (Nst.own_keep HG1_14.out hk (fun i h1 h2 => HDG.out i h2 h1))
  clear HB_14 HV0_14 HV1_14 HG1_14 hk
  have HG0_15 := Lib.hid (hgo)
  clear hgo
  go_wp2_with fail
  refine (markIntS_r _ aG1 _ (1 + Nst.cnt aG0) w15 rfl HG1_15.out (ints_fit HPG1.out HVL1.out) (by have h1 := Nst.cnt_le aG0; have h2 : Nst.wt aG0 ≤ 1048576 := ints_fit HPG0.out HVL0.out; omega)).mono ?_
  rintro e w16 ⟨rfl, hgo, hk⟩
  clear HG1_15
  have Z16 := Lib.hid hk.size
  have HB_16 := Lib.hid (HB_15.out.trans (hk.below HB_15.out.size (fun i hi => by replace hi := HTG.out _ hi; have q1 := hi.1; have z1 := Z1.out; have z2 := Z2.out; have z3 := Z3.out; have z4 := Z4.out; have z5 := Z5.out; have z6 := Z6.out; have z7 := Z7.out; have z8 := Z8.out; have z9 := Z9.out; have z10 := Z10.out; have z11 := Z11.out; have z12 := Z12.out; have z13 := Z13.out; have z14 := Z14.out; have z15 := Z15.out; have z16 := Z16.out; omega)))
  have HV0_16 := Lib.hid (Nst.own_keep HV0_15.out hk (fun i h1 h2 => by replace h1 := HSV.out _ h1; replace h2 := HTG.out _ h2; have q1 := h1.1; have q2 := h1.2; have q3 := h2.1; have q4 := h2.2; have z1 := Z1.out; have z2 := Z2.out; have z3 := Z3.out; have z4 := Z4.out; have z5 := Z5.out; have z6 := Z6.out; have z7 := Z7.out; have z8 := Z8.out; have z9 := Z9.out; have z10 := Z10.out; have z11 := Z11.out; have z12 := Z12.out; have z13 := Z13.out; have z14 := Z14.out; have z15 := Z15.out; have z16 := Z16.out; omega))
  have HV1_16 := Lib.hid (Nst.own_keep HV1_15.out hk (fun i h1 h2 => by replace h1 := HTV.out _ h1; replace h2 := HTG.out _ h2; have q1 := h1.1; have q2 := h1.2; have q3 := h2.1; have q4 := h2.2; have z1 := Z1.out; have z2 := Z2.out; have z3 := Z3.out; have z4 := Z4.out; have z5 := Z5.out; have z6 := Z6.out; have z7 := Z7.out; have z8 := Z8.out; have z9 := Z9.out; have z10 := Z10.out; have z11 := Z11.out; have z12 := Z12.out; have z13 := Z13.out; have z14 := Z14.out; have z15 := Z15.out; have z16 := Z16.out; omega))
  have HG0_16 := Lib.hid (Nst.own_keep HG0_15.out hk (fun i h1 h2 => HDG.out i h1 h2))
  clear HB_15 HV0_15 HV1_15 HG0_15 hk
  have HG1_16 := Lib.hid (hgo)
  clear hgo
  go_wp2_with fail
  refine (heldIntS_r aG0 _ 1 w16 rfl (Nst.own_in HG0_16.out) (ints_fit HPG0.out HVL0.out) (by omega)).mono ?_
  rintro e w17 ⟨rfl, hb⟩
  have Z17 := Lib.hid hb.size
  have HB_17 := Lib.hid (below_next HB_16.out hb)
  have HV0_17 := Lib.hid (Nst.keepB HV0_16.out hb)
  have HV1_17 := Lib.hid (Nst.keepB HV1_16.out hb)
  have HG0_17 := Lib.hid (Nst.keepB HG0_16.out hb)
  have HG1_17 := Lib.hid (Nst.keepB HG1_16.out hb)
  clear HB_16 HV0_16 HV1_16 HG0_16 HG1_16 hb
  go_wp2_with fail
  refine (heldIntS_r aG1 _ (1 + Nst.cnt aG0) w17 rfl (Nst.own_in HG1_17.out) (ints_fit HPG1.out HVL1.out) (by have h1 := Nst.cnt_le aG0; have h2 : Nst.wt aG0 ≤ 1048576 := ints_fit HPG0.out HVL0.out; omega)).mono ?_
  rintro e w18 ⟨rfl, hb⟩
  have Z18 := Lib.hid hb.size
  have HB_18 := Lib.hid (below_next HB_17.out hb)
  have HV0_18 := Lib.hid (Nst.keepB HV0_17.out hb)
  have HV1_18 := Lib.hid (Nst.keepB HV1_17.out hb)
  have HG0_18 := Lib.hid (Nst.keepB HG0_17.out hb)
  have HG1_18 := Lib.hid (Nst.keepB HG1_17.out hb)
  clear HB_17 HV0_17 HV1_17 HG0_17 HG1_17 hb
  obtain ⟨c0, c1, cf⟩ := (HX0.out.next HB_18.out).mem
  go_wp2_with fail
  clear c0 c1 cf
  refine (toMarks_c x w18 (HR0.out.next HB_18.out) HF.out).mono ?_
  rintro e w19 ⟨⟨yb, rfl, hs, hy⟩, hb⟩
  have Z19 := Lib.hid hb.size
  have HB_19 := Lib.hid (below_next HB_18.out hb)
  have HV0_19 := Lib.hid (Nst.keepB HV0_18.out hb)
  have HV1_19 := Lib.hid (Nst.keepB HV1_18.out hb)
  have HG0_19 := Lib.hid (Nst.keepB HG0_18.out hb)
  have HG1_19 := Lib.hid (Nst.keepB HG1_18.out hb)
  clear HB_18 HV0_18 HV1_18 HG0_18 HG1_18 hb
  have HSyb := Lib.hid hs
  clear hs
  have HC := Lib.hid (iJudgeMarks_s x yb j w19 HSyb.out hy.mr HF.out)
  clear hy
  unfold Mr.val at HC ⊢
  go_wp2_with fail
  refine (HC.out).mono ?_
  rintro e w20 ⟨⟨aH0, aH1, SH, TH, rfl, ha⟩, hb⟩
  have Z20 := Lib.hid hb.size
  have HB_20 := Lib.hid (below_next HB_19.out hb)
  have HV0_20 := Lib.hid (Nst.keepB HV0_19.out hb)
  have HV1_20 := Lib.hid (Nst.keepB HV1_19.out hb)
  have HG0_20 := Lib.hid (Nst.keepB HG0_19.out hb)
  have HG1_20 := Lib.hid (Nst.keepB HG1_19.out hb)
  clear HB_19 HV0_19 HV1_19 HG0_19 HG1_19 hb
  have HPH0 := Lib.hid ha.v0
  have HPH1 := Lib.hid ha.v1
  have HSH := Lib.hid ha.s
  have HTH := Lib.hid ha.t
  have HDH := Lib.hid ha.d
  have HH0_20 := Lib.hid (ha.o0)
  have HH1_20 := Lib.hid (ha.o1)
  clear ha
  clear HC HSyb
  go_wp2_with fail
  refine (eqIntS_r aH0 aV0 w20 (ints_eqv HPH0.out HPV0.out) (Nst.own_in HH0_20.out) (Nst.own_in HV0_20.out) (ints_fit HPH0.out HVL0.out)).mono ?_
  rintro e w21 ⟨rfl, hb⟩
  have Z21 := Lib.hid hb.size
  have HB_21 := Lib.hid (below_next HB_20.out hb)
  have HV0_21 := Lib.hid (Nst.keepB HV0_20.out hb)
  have HV1_21 := Lib.hid (Nst.keepB HV1_20.out hb)
  have HG0_21 := Lib.hid (Nst.keepB HG0_20.out hb)
  have HG1_21 := Lib.hid (Nst.keepB HG1_20.out hb)
  have HH0_21 := Lib.hid (Nst.keepB HH0_20.out hb)
  have HH1_21 := Lib.hid (Nst.keepB HH1_20.out hb)
  clear HB_20 HV0_20 HV1_20 HG0_20 HG1_20 HH0_20 HH1_20 hb
  go_wp2_with fail
  refine (eqIntS_r aH1 aV1 w21 (ints_eqv HPH1.out HPV1.out) (Nst.own_in HH1_21.out) (Nst.own_in HV1_21.out) (ints_fit HPH1.out HVL1.out)).mono ?_
  rintro e w22 ⟨rfl, hb⟩
  have Z22 := Lib.hid hb.size
  have HB_22 := Lib.hid (below_next HB_21.out hb)
  have HV0_22 := Lib.hid (Nst.keepB HV0_21.out hb)
  have HV1_22 := Lib.hid (Nst.keepB HV1_21.out hb)
  have HG0_22 := Lib.hid (Nst.keepB HG0_21.out hb)
  have HG1_22 := Lib.hid (Nst.keepB HG1_21.out hb)
  have HH0_22 := Lib.hid (Nst.keepB HH0_21.out hb)
  have HH1_22 := Lib.hid (Nst.keepB HH1_21.out hb)
  clear HB_21 HV0_21 HV1_21 HG0_21 HG1_21 HH0_21 HH1_21 hb
  go_wp2_with fail
  refine (heldIntS_r aG0 _ 1 w22 rfl (Nst.own_in HG0_22.out) (ints_fit HPG0.out HVL0.out) (by omega)).mono ?_
  rintro e w23 ⟨rfl, hb⟩
  have Z23 := Lib.hid hb.size
  have HB_23 := Lib.hid (below_next HB_22.out hb)
  have HV0_23 := Lib.hid (Nst.keepB HV0_22.out hb)
  have HV1_23 := Lib.hid (Nst.keepB HV1_22.out hb)
  have HG0_23 := Lib.hid (Nst.keepB HG0_22.out hb)
  have HG1_23 := Lib.hid (Nst.keepB HG1_22.out hb)
  have HH0_23 := Lib.hid (Nst.keepB HH0_22.out hb)
  have HH1_23 := Lib.hid (Nst.keepB HH1_22.out hb)
  clear HB_22 HV0_22 HV1_22 HG0_22 HG1_22 HH0_22 HH1_22 hb
  go_wp2_with fail
  refine (heldIntS_r aG1 _ (1 + Nst.cnt aG0) w23 rfl (Nst.own_in HG1_23.out) (ints_fit HPG1.out HVL1.out) (by have h1 := Nst.cnt_le aG0; have h2 : Nst.wt aG0 ≤ 1048576 := ints_fit HPG0.out HVL0.out; omega)).mono ?_
  rintro e w24 ⟨rfl, hb⟩
  have Z24 := Lib.hid hb.size
  have HB_24 := Lib.hid (below_next HB_23.out hb)
  have HV0_24 := Lib.hid (Nst.keepB HV0_23.out hb)
  have HV1_24 := Lib.hid (Nst.keepB HV1_23.out hb)
  have HG0_24 := Lib.hid (Nst.keepB HG0_23.out hb)
  have HG1_24 := Lib.hid (Nst.keepB HG1_23.out hb)
  have HH0_24 := Lib.hid (Nst.keepB HH0_23.out hb)
  have HH1_24 := Lib.hid (Nst.keepB HH1_23.out hb)
  clear HB_23 HV0_23 HV1_23 HG0_23 HG1_23 HH0_23 HH1_23 hb
  go_wp2
  go_ret
  exact ⟨rfl, below_next HB0.out HB_24.out⟩
end Go.Proofs.Ytfeffkjmjkddnaa

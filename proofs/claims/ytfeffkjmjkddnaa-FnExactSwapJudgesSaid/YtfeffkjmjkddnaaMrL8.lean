/- The walk of the law SwapJudges. -/
import Derived.Test.YtfeffkjmjkddnaaMrX
import Derived.Deep.RegionHeld3
namespace Go.Proofs.Ytfeffkjmjkddnaa
open Go.ChangeShapes Go.WideShapes Go.ChangeAt Go.RowKit Go.Lib Go.Proofs
set_option linter.unusedVariables false

theorem sSwapJudges_s (x y : Mr) (a : Int) (b : Int) (w : World) (hs : MrSame x y) (hr : MrIn w w.heap.size y) (hl : MrFits x) :
    Calls Try.prog 35 #[y.val, .int .i64 a, .int .i64 b] w fun e w' => (∃ y : Mr, e = .returned (.tuple #[.agg #[.slice y.G.A y.G.xs.length y.G.c, .slice y.C.A y.C.xs.length y.C.c], .bool (pB (SwOk (ctt x.G) (ctt x.C) a b))]) ∧ MrAns (swG (ctt x.G) (ctt x.C) a b) (swC (ctt x.G) (ctt x.C) a b) w w' y) ∧ Below w.heap.size w w' := by
  have h := sSwapJudges_any y a b w hr (hs.fits hl)
  rw [hs.cg, hs.cc] at h
  exact h
theorem iSwapJudges_s (x y : Mr) (a : Int) (b : Int) (w : World) (hs : MrSame x y) (hr : MrIn w w.heap.size y) (hl : MrFits x) :
    Calls Try.prog 36 #[y.val, .int .i64 a, .int .i64 b] w fun e w' => (∃ y : Mr, e = .returned (.tuple #[.agg #[.slice y.G.A y.G.xs.length y.G.c, .slice y.C.A y.C.xs.length y.C.c], .bool (pB (SwOk (ctt x.G) (ctt x.C) a b))]) ∧ MrAns (swG (ctt x.G) (ctt x.C) a b) (swC (ctt x.G) (ctt x.C) a b) w w' y) ∧ Below w.heap.size w w' := by
  have h := iSwapJudges_any y a b w hr (hs.fits hl)
  rw [hs.cg, hs.cc] at h
  exact h
set_option maxHeartbeats 4000000 in
set_option maxRecDepth 20000 in
theorem walkSwapJudges (x : Mr) (a : Int) (b : Int) (w : World) (hr : MrIn w w.heap.size x) (hl : MrLen x) (hw0 : (Lit.int .i64 a).wf = true) (hw1 : (Lit.int .i64 b).wf = true) :
    Calls Try.prog 10 #[x.val, .int .i64 a, .int .i64 b] w fun e w' => e = .returned (.bool true) ∧ Below w.heap.size w w' := by
  have hb0 := below_alloc w (.cells #[.slice x.G.A x.G.xs.length x.G.c, .slice x.C.A x.C.xs.length x.C.c] 24)
  have HB0 := Lib.hid hb0
  have HX0 := Lib.hid (mrBox_new w 24 x)
  have HR0 := Lib.hid (hr.next hb0)
  have HL := Lib.hid hl
  clear hr hl hb0
  unfold Mr.val
  go_enter Try.func10, Try.ntmps10
  go_wp2_with fail
  have zW := HB0.out.size
  have ZW := Lib.hid HX0.out.lt
  clear zW
  generalize World.alloc w _ = W at HB0 HX0 HR0 ZW ⊢
  have HB_0 := Lib.hid (Below.refl W.heap.size W)
  refine (szMarks_any x _ W HR0.out HL.out (by omega) (by omega)).mono ?_
  rintro e w1 ⟨⟨q, rfl, hq⟩, hb⟩
  have Z1 := Lib.hid hb.size
  have HB_1 := Lib.hid (below_next HB_0.out hb)
  clear HB_0 hb
  rcases hq with hq | ⟨hq0, hq1, HF⟩
  · go_wp2
    go_ret
    exact ⟨rfl, below_next HB0.out HB_1.out⟩
  obtain ⟨c0, c1, cf⟩ := (HX0.out.next HB_1.out).mem
  go_wp2_with fail
  clear c0 c1 cf
  refine (toMarks_c x w1 (HR0.out.next HB_1.out) HF.out).mono ?_
  rintro e w2 ⟨⟨ya, rfl, hs, hy⟩, hb⟩
  have Z2 := Lib.hid hb.size
  have HB_2 := Lib.hid (below_next HB_1.out hb)
  clear HB_1 hb
  have HSya := Lib.hid hs
  clear hs
  have HC := Lib.hid (sSwapJudges_s x ya a b w2 HSya.out hy.mr HF.out)
  clear hy
  unfold Mr.val at HC ⊢
  go_wp2_with fail
  refine (HC.out).mono ?_
  rintro e w3 ⟨⟨aV, rfl, ha⟩, hb⟩
  have Z3 := Lib.hid hb.size
  have HB_3 := Lib.hid (below_next HB_2.out hb)
  clear HB_2 hb
  have HPV := Lib.hid (And.intro ha.G ha.C)
  have HQV := Lib.hid (show MrFits aV from sw_fits HPV.out.1 HPV.out.2)
  have HV_3 := Lib.hid (ha.own)
  clear ha
  obtain ⟨w4, hW⟩ : ∃ W', W' = w3.alloc (.cells #[.slice aV.G.A aV.G.xs.length aV.G.c, .slice aV.C.A aV.C.xs.length aV.C.c] 27) := ⟨_, rfl⟩
  have hb : Below w3.heap.size w3 w4 := by rw [hW]; exact below_alloc _ _
  have Z1004 := Lib.hid (show w3.heap.size < w4.heap.size by rw [hW]; simp)
  have Z4 := Lib.hid hb.size
  have HB_4 := Lib.hid (below_next HB_3.out hb)
  have HV_4 := Lib.hid (HV_3.out.next hb)
  clear HB_3 HV_3 hb
  have HYV_4 := Lib.hid (show MrBox w4 w3.heap.size aV by rw [hW]; exact mrBox_new _ _ _)
  clear HC HSya
  obtain ⟨c0, c1, cf⟩ := (HX0.out.next HB_4.out).mem
  rw [hW] at c0 c1
  go_wp2_with fail
  rw [← hW]
  clear hW
  clear c0 c1 cf
  refine (toMarks_c x w4 (HR0.out.next HB_4.out) HF.out).mono ?_
  rintro e w5 ⟨⟨y, rfl, hs, hy⟩, hb⟩
  have Z5 := Lib.hid hb.size
  have HB_5 := Lib.hid (below_next HB_4.out hb)
  have HV_5 := Lib.hid (HV_4.out.next hb)
  have HYV_5 := Lib.hid (HYV_4.out.next hb)
  clear HB_4 HV_4 HYV_4 hb
  have HSy := Lib.hid hs
  clear hs
  have HO_5 := Lib.hid (hy)
  clear hy
  obtain ⟨w6, hW⟩ : ∃ W', W' = w5.alloc (.cells #[.slice y.G.A y.G.xs.length y.G.c, .slice y.C.A y.C.xs.length y.C.c] 27) := ⟨_, rfl⟩
  have hb : Below w5.heap.size w5 w6 := by rw [hW]; exact below_alloc _ _
  have Z6 := Lib.hid hb.size
  have HB_6 := Lib.hid (below_next HB_5.out hb)
  have HV_6 := Lib.hid (HV_5.out.next hb)
  have HYV_6 := Lib.hid (HYV_5.out.next hb)
  have HO_6 := Lib.hid (HO_5.out.next hb)
  clear HB_5 HV_5 HYV_5 HO_5 hb
  have HY_6 := Lib.hid (show MrBox w6 w5.heap.size y by rw [hW]; exact mrBox_new _ _ _)
  have HC := Lib.hid (iSwapJudges_s x y a b w6 HSy.out HO_6.out.mr HF.out)
  unfold Mr.val at HC ⊢
  go_wp2_with fail
  rw [← hW]
  clear hW
  refine (HC.out).mono ?_
  rintro e w7 ⟨⟨aG, rfl, ha⟩, hb⟩
  have Z7 := Lib.hid hb.size
  have HB_7 := Lib.hid (below_next HB_6.out hb)
  have HV_7 := Lib.hid (HV_6.out.next hb)
  have HYV_7 := Lib.hid (HYV_6.out.next hb)
  have HO_7 := Lib.hid (HO_6.out.next hb)
  have HY_7 := Lib.hid (HY_6.out.next hb)
  clear HB_6 HV_6 HYV_6 HO_6 HY_6 hb
  have HPG := Lib.hid (And.intro ha.G ha.C)
  have HQG := Lib.hid (show MrFits aG from sw_fits HPG.out.1 HPG.out.2)
  have HG_7 := Lib.hid (ha.own)
  clear ha
  obtain ⟨w8, hW⟩ : ∃ W', W' = w7.alloc (.cells #[.slice aG.G.A aG.G.xs.length aG.G.c, .slice aG.C.A aG.C.xs.length aG.C.c] 27) := ⟨_, rfl⟩
  have hb : Below w7.heap.size w7 w8 := by rw [hW]; exact below_alloc _ _
  have Z1008 := Lib.hid (show w7.heap.size < w8.heap.size by rw [hW]; simp)
  have Z8 := Lib.hid hb.size
  have HB_8 := Lib.hid (below_next HB_7.out hb)
  have HV_8 := Lib.hid (HV_7.out.next hb)
  have HYV_8 := Lib.hid (HYV_7.out.next hb)
  have HO_8 := Lib.hid (HO_7.out.next hb)
  have HY_8 := Lib.hid (HY_7.out.next hb)
  have HG_8 := Lib.hid (HG_7.out.next hb)
  clear HB_7 HV_7 HYV_7 HO_7 HY_7 HG_7 hb
  have HYG_8 := Lib.hid (show MrBox w8 w7.heap.size aG by rw [hW]; exact mrBox_new _ _ _)
  clear HC
  obtain ⟨c00, c01, f0⟩ := HYG_8.out.mem
  obtain ⟨c10, c11, f1⟩ := HYV_8.out.mem
  rw [hW] at c00 c01 c10 c11
  go_wp2_with fail
  rw [← hW]
  clear hW
  clear c00 c01 c10 c11 f0 f1
  refine (eqMarks_yes aG aV w8 (mrSame_of HPG.out HPV.out) HG_8.out.mr HV_8.out.mr HQG.out).mono ?_
  rintro e w9 ⟨rfl, hb⟩
  have Z9 := Lib.hid hb.size
  have HB_9 := Lib.hid (below_next HB_8.out hb)
  have HV_9 := Lib.hid (HV_8.out.next hb)
  have HYV_9 := Lib.hid (HYV_8.out.next hb)
  have HO_9 := Lib.hid (HO_8.out.next hb)
  have HY_9 := Lib.hid (HY_8.out.next hb)
  have HG_9 := Lib.hid (HG_8.out.next hb)
  have HYG_9 := Lib.hid (HYG_8.out.next hb)
  clear HB_8 HV_8 HYV_8 HO_8 HY_8 HG_8 HYG_8 hb
  go_wp2_with fail
  have hb := below_drew w9
  have Z10 := Lib.hid hb.size
  have HB_10 := Lib.hid (below_next HB_9.out hb)
  have HV_10 := Lib.hid (HV_9.out.next hb)
  have HYV_10 := Lib.hid (HYV_9.out.next hb)
  have HO_10 := Lib.hid (HO_9.out.next hb)
  have HY_10 := Lib.hid (HY_9.out.next hb)
  have HG_10 := Lib.hid (HG_9.out.next hb)
  have HYG_10 := Lib.hid (HYG_9.out.next hb)
  clear HB_9 HV_9 HYV_9 HO_9 HY_9 HG_9 HYG_9 hb
  go_region_held3 (fun w' => w'.cell? ⟨w.heap.size, 0, none⟩ = some (.slice x.G.A x.G.xs.length x.G.c) ∧ w'.cell? ⟨w.heap.size, 1, none⟩ = some (.slice x.C.A x.C.xs.length x.C.c) ∧ w'.cell? ⟨w5.heap.size, 0, none⟩ = some (.slice y.G.A y.G.xs.length y.G.c) ∧ w'.cell? ⟨w5.heap.size, 1, none⟩ = some (.slice y.C.A y.C.xs.length y.C.c))
    (first | exact mrBox_cells (HX0.out.next HB_10.out).mem HY_10.out.mem | exact mrBox_cells (HX0.out.next HB_11.out).mem HY_11.out.mem | exact mrBox_cells (HX0.out.next HB_12.out).mem HY_12.out.mem)
    (first
      | (go_at_call 14; refine (toMarks_c x _ (HR0.out.next HB_10.out) HF.out).mono ?_; rintro e w11 ⟨⟨z, rfl, hz, hzi⟩, hb⟩; have Z11 := Lib.hid hb.size; have HB_11 := Lib.hid (below_next HB_10.out hb); have HV_11 := Lib.hid (HV_10.out.next hb); have HYV_11 := Lib.hid (HYV_10.out.next hb); have HO_11 := Lib.hid (HO_10.out.next hb); have HY_11 := Lib.hid (HY_10.out.next hb); have HG_11 := Lib.hid (HG_10.out.next hb); have HYG_11 := Lib.hid (HYG_10.out.next hb); have HC := Lib.hid (eqMarks_yes y z w11 (HSy.out.symm.trans hz) HO_11.out.mr hzi.mr (HSy.out.fits HF.out)); unfold Mr.val at HC ⊢; clear hb hz hzi)
      | (go_at_call 16; refine HC.out.mono ?_; rintro e w12 ⟨rfl, hb⟩; have Z12 := Lib.hid hb.size; have HB_12 := Lib.hid (below_next HB_11.out hb); have HV_12 := Lib.hid (HV_11.out.next hb); have HYV_12 := Lib.hid (HYV_11.out.next hb); have HO_12 := Lib.hid (HO_11.out.next hb); have HY_12 := Lib.hid (HY_11.out.next hb); have HG_12 := Lib.hid (HG_11.out.next hb); have HYG_12 := Lib.hid (HYG_11.out.next hb); clear hb)
      )
  clear HC HB_10 HB_11 HV_10 HV_11 HYV_10 HYV_11 HO_10 HO_11 HY_10 HY_11 HG_10 HG_11 HYG_10 HYG_11
  obtain ⟨c0, c1, cf⟩ := HY_12.out.mem
  go_wp2_with fail
  clear c0 c1 cf
  refine (markMarks_any _ y _ 1 w12 rfl HO_12.out (fun i hi => by have q2 := hi.2; have z1 := Z1.out; have z2 := Z2.out; have z3 := Z3.out; have z1004 := Z1004.out; have z4 := Z4.out; have z5 := Z5.out; have z6 := Z6.out; have z7 := Z7.out; have z1008 := Z1008.out; have z8 := Z8.out; have z9 := Z9.out; have z10 := Z10.out; have z11 := Z11.out; have z12 := Z12.out; omega) (HSy.out.fits HF.out) (by omega)).mono ?_
  rintro e w13 ⟨rfl, _, hk⟩
  clear HO_12
  clear HY_12
  have Z13 := Lib.hid hk.size
  have HB_13 := Lib.hid (HB_12.out.trans (hk.below HB_12.out.size (fun i hi => by have q1 := hi.1; have z1 := Z1.out; have z2 := Z2.out; have z3 := Z3.out; have z1004 := Z1004.out; have z4 := Z4.out; have z5 := Z5.out; have z6 := Z6.out; have z7 := Z7.out; have z1008 := Z1008.out; have z8 := Z8.out; have z9 := Z9.out; have z10 := Z10.out; have z11 := Z11.out; have z12 := Z12.out; have z13 := Z13.out; omega)))
  have HV_13 := Lib.hid (HV_12.out.keep hk (fun i h1 h2 => by have q1 := h1.1; have q2 := h1.2; have q3 := h2.1; have q4 := h2.2; have z1 := Z1.out; have z2 := Z2.out; have z3 := Z3.out; have z1004 := Z1004.out; have z4 := Z4.out; have z5 := Z5.out; have z6 := Z6.out; have z7 := Z7.out; have z1008 := Z1008.out; have z8 := Z8.out; have z9 := Z9.out; have z10 := Z10.out; have z11 := Z11.out; have z12 := Z12.out; have z13 := Z13.out; omega))
  have HYV_13 := Lib.hid (HYV_12.out.only hk (fun hi => by have q1 := hi.1; have q2 := hi.2; have z1 := Z1.out; have z2 := Z2.out; have z3 := Z3.out; have z1004 := Z1004.out; have z4 := Z4.out; have z5 := Z5.out; have z6 := Z6.out; have z7 := Z7.out; have z1008 := Z1008.out; have z8 := Z8.out; have z9 := Z9.out; have z10 := Z10.out; have z11 := Z11.out; have z12 := Z12.out; have z13 := Z13.out; omega))
  have HG_13 := Lib.hid (HG_12.out.keep hk (fun i h1 h2 => by have q1 := h1.1; have q2 := h1.2; have q3 := h2.1; have q4 := h2.2; have z1 := Z1.out; have z2 := Z2.out; have z3 := Z3.out; have z1004 := Z1004.out; have z4 := Z4.out; have z5 := Z5.out; have z6 := Z6.out; have z7 := Z7.out; have z1008 := Z1008.out; have z8 := Z8.out; have z9 := Z9.out; have z10 := Z10.out; have z11 := Z11.out; have z12 := Z12.out; have z13 := Z13.out; omega))
  have HYG_13 := Lib.hid (HYG_12.out.only hk (fun hi => by have q1 := hi.1; have q2 := hi.2; have z1 := Z1.out; have z2 := Z2.out; have z3 := Z3.out; have z1004 := Z1004.out; have z4 := Z4.out; have z5 := Z5.out; have z6 := Z6.out; have z7 := Z7.out; have z1008 := Z1008.out; have z8 := Z8.out; have z9 := Z9.out; have z10 := Z10.out; have z11 := Z11.out; have z12 := Z12.out; have z13 := Z13.out; omega))
  clear HB_12 HV_12 HYV_12 HG_12 HYG_12 hk
  obtain ⟨c00, c01, f0⟩ := HYG_13.out.mem
  obtain ⟨c10, c11, f1⟩ := HYV_13.out.mem
  go_wp2_with fail
  clear c00 c01 c10 c11 f0 f1
  refine (eqMarks_yes aG aV w13 (mrSame_of HPG.out HPV.out) HG_13.out.mr HV_13.out.mr HQG.out).mono ?_
  rintro e w14 ⟨rfl, hb⟩
  have Z14 := Lib.hid hb.size
  have HB_14 := Lib.hid (below_next HB_13.out hb)
  have HV_14 := Lib.hid (HV_13.out.next hb)
  have HYV_14 := Lib.hid (HYV_13.out.next hb)
  have HG_14 := Lib.hid (HG_13.out.next hb)
  have HYG_14 := Lib.hid (HYG_13.out.next hb)
  clear HB_13 HV_13 HYV_13 HG_13 HYG_13 hb
  obtain ⟨c00, c01, f0⟩ := HYG_14.out.mem
  go_wp2_with fail
  clear c00 c01 f0
  refine (markMarks_any _ aG _ 1 w14 rfl HG_14.out (fun i hi => by have q2 := hi.2; have z1 := Z1.out; have z2 := Z2.out; have z3 := Z3.out; have z1004 := Z1004.out; have z4 := Z4.out; have z5 := Z5.out; have z6 := Z6.out; have z7 := Z7.out; have z1008 := Z1008.out; have z8 := Z8.out; have z9 := Z9.out; have z10 := Z10.out; have z11 := Z11.out; have z12 := Z12.out; have z13 := Z13.out; have z14 := Z14.out; omega) HQG.out (by omega)).mono ?_
  rintro e w15 ⟨rfl, ⟨lm, hmk, hgo⟩, hk⟩
  have HMK := Lib.hid hmk
  clear hmk
  clear HG_14
  have Z15 := Lib.hid hk.size
  have HB_15 := Lib.hid (HB_14.out.trans (hk.below HB_14.out.size (fun i hi => by have q1 := hi.1; have z1 := Z1.out; have z2 := Z2.out; have z3 := Z3.out; have z1004 := Z1004.out; have z4 := Z4.out; have z5 := Z5.out; have z6 := Z6.out; have z7 := Z7.out; have z1008 := Z1008.out; have z8 := Z8.out; have z9 := Z9.out; have z10 := Z10.out; have z11 := Z11.out; have z12 := Z12.out; have z13 := Z13.out; have z14 := Z14.out; have z15 := Z15.out; omega)))
  have HV_15 := Lib.hid (HV_14.out.keep hk (fun i h1 h2 => by have q1 := h1.1; have q2 := h1.2; have q3 := h2.1; have q4 := h2.2; have z1 := Z1.out; have z2 := Z2.out; have z3 := Z3.out; have z1004 := Z1004.out; have z4 := Z4.out; have z5 := Z5.out; have z6 := Z6.out; have z7 := Z7.out; have z1008 := Z1008.out; have z8 := Z8.out; have z9 := Z9.out; have z10 := Z10.out; have z11 := Z11.out; have z12 := Z12.out; have z13 := Z13.out; have z14 := Z14.out; have z15 := Z15.out; omega))
  have HYV_15 := Lib.hid (HYV_14.out.only hk (fun hi => by have q1 := hi.1; have q2 := hi.2; have z1 := Z1.out; have z2 := Z2.out; have z3 := Z3.out; have z1004 := Z1004.out; have z4 := Z4.out; have z5 := Z5.out; have z6 := Z6.out; have z7 := Z7.out; have z1008 := Z1008.out; have z8 := Z8.out; have z9 := Z9.out; have z10 := Z10.out; have z11 := Z11.out; have z12 := Z12.out; have z13 := Z13.out; have z14 := Z14.out; have z15 := Z15.out; omega))
  have HYG_15 := Lib.hid (HYG_14.out.only hk (fun hi => by have q1 := hi.1; have q2 := hi.2; have z1 := Z1.out; have z2 := Z2.out; have z3 := Z3.out; have z1004 := Z1004.out; have z4 := Z4.out; have z5 := Z5.out; have z6 := Z6.out; have z7 := Z7.out; have z1008 := Z1008.out; have z8 := Z8.out; have z9 := Z9.out; have z10 := Z10.out; have z11 := Z11.out; have z12 := Z12.out; have z13 := Z13.out; have z14 := Z14.out; have z15 := Z15.out; omega))
  clear HB_14 HV_14 HYV_14 HYG_14 hk
  have HG_15 := Lib.hid (hgo)
  clear hgo
  obtain ⟨c00, c01, f0⟩ := HYG_15.out.mem
  go_wp2_with fail
  clear c00 c01 f0
  refine (heldMarks_any aG lm _ 1 w15 rfl HMK.out HG_15.out.mr HQG.out (by omega)).mono ?_
  rintro e w16 ⟨rfl, hb⟩
  have Z16 := Lib.hid hb.size
  have HB_16 := Lib.hid (below_next HB_15.out hb)
  have HV_16 := Lib.hid (HV_15.out.next hb)
  have HYV_16 := Lib.hid (HYV_15.out.next hb)
  have HYG_16 := Lib.hid (HYG_15.out.next hb)
  have HG_16 := Lib.hid (HG_15.out.next hb)
  clear HB_15 HV_15 HYV_15 HYG_15 HG_15 hb
  obtain ⟨c0, c1, cf⟩ := (HX0.out.next HB_16.out).mem
  go_wp2_with fail
  clear c0 c1 cf
  refine (toMarks_c x w16 (HR0.out.next HB_16.out) HF.out).mono ?_
  rintro e w17 ⟨⟨yb, rfl, hs, hy⟩, hb⟩
  have Z17 := Lib.hid hb.size
  have HB_17 := Lib.hid (below_next HB_16.out hb)
  have HV_17 := Lib.hid (HV_16.out.next hb)
  have HYV_17 := Lib.hid (HYV_16.out.next hb)
  have HYG_17 := Lib.hid (HYG_16.out.next hb)
  have HG_17 := Lib.hid (HG_16.out.next hb)
  clear HB_16 HV_16 HYV_16 HYG_16 HG_16 hb
  have HSyb := Lib.hid hs
  clear hs
  have HC := Lib.hid (iSwapJudges_s x yb a b w17 HSyb.out hy.mr HF.out)
  clear hy
  unfold Mr.val at HC ⊢
  go_wp2_with fail
  refine (HC.out).mono ?_
  rintro e w18 ⟨⟨aH, rfl, ha⟩, hb⟩
  have Z18 := Lib.hid hb.size
  have HB_18 := Lib.hid (below_next HB_17.out hb)
  have HV_18 := Lib.hid (HV_17.out.next hb)
  have HYV_18 := Lib.hid (HYV_17.out.next hb)
  have HYG_18 := Lib.hid (HYG_17.out.next hb)
  have HG_18 := Lib.hid (HG_17.out.next hb)
  clear HB_17 HV_17 HYV_17 HYG_17 HG_17 hb
  have HPH := Lib.hid (And.intro ha.G ha.C)
  have HQH := Lib.hid (show MrFits aH from sw_fits HPH.out.1 HPH.out.2)
  have HH_18 := Lib.hid (ha.own)
  clear ha
  obtain ⟨w19, hW⟩ : ∃ W', W' = w18.alloc (.cells #[.slice aH.G.A aH.G.xs.length aH.G.c, .slice aH.C.A aH.C.xs.length aH.C.c] 27) := ⟨_, rfl⟩
  have hb : Below w18.heap.size w18 w19 := by rw [hW]; exact below_alloc _ _
  have Z1019 := Lib.hid (show w18.heap.size < w19.heap.size by rw [hW]; simp)
  have Z19 := Lib.hid hb.size
  have HB_19 := Lib.hid (below_next HB_18.out hb)
  have HV_19 := Lib.hid (HV_18.out.next hb)
  have HYV_19 := Lib.hid (HYV_18.out.next hb)
  have HYG_19 := Lib.hid (HYG_18.out.next hb)
  have HG_19 := Lib.hid (HG_18.out.next hb)
  have HH_19 := Lib.hid (HH_18.out.next hb)
  clear HB_18 HV_18 HYV_18 HYG_18 HG_18 HH_18 hb
  have HYH_19 := Lib.hid (show MrBox w19 w18.heap.size aH by rw [hW]; exact mrBox_new _ _ _)
  clear HC HSyb
  obtain ⟨c00, c01, f0⟩ := HYH_19.out.mem
  obtain ⟨c10, c11, f1⟩ := HYV_19.out.mem
  rw [hW] at c00 c01 c10 c11
  go_wp2_with fail
  rw [← hW]
  clear hW
  clear c00 c01 c10 c11 f0 f1
  refine (eqMarks_yes aH aV w19 (mrSame_of HPH.out HPV.out) HH_19.out.mr HV_19.out.mr HQH.out).mono ?_
  rintro e w20 ⟨rfl, hb⟩
  have Z20 := Lib.hid hb.size
  have HB_20 := Lib.hid (below_next HB_19.out hb)
  have HV_20 := Lib.hid (HV_19.out.next hb)
  have HYV_20 := Lib.hid (HYV_19.out.next hb)
  have HYG_20 := Lib.hid (HYG_19.out.next hb)
  have HG_20 := Lib.hid (HG_19.out.next hb)
  have HH_20 := Lib.hid (HH_19.out.next hb)
  have HYH_20 := Lib.hid (HYH_19.out.next hb)
  clear HB_19 HV_19 HYV_19 HYG_19 HG_19 HH_19 HYH_19 hb
  obtain ⟨c00, c01, f0⟩ := HYG_20.out.mem
  go_wp2_with fail
  clear c00 c01 f0
  refine (heldMarks_any aG lm _ 1 w20 rfl HMK.out HG_20.out.mr HQG.out (by omega)).mono ?_
  rintro e w21 ⟨rfl, hb⟩
  have Z21 := Lib.hid hb.size
  have HB_21 := Lib.hid (below_next HB_20.out hb)
  have HV_21 := Lib.hid (HV_20.out.next hb)
  have HYV_21 := Lib.hid (HYV_20.out.next hb)
  have HYG_21 := Lib.hid (HYG_20.out.next hb)
  have HG_21 := Lib.hid (HG_20.out.next hb)
  have HH_21 := Lib.hid (HH_20.out.next hb)
  have HYH_21 := Lib.hid (HYH_20.out.next hb)
  clear HB_20 HV_20 HYV_20 HYG_20 HG_20 HH_20 HYH_20 hb
  go_wp2
  go_ret
  exact ⟨rfl, below_next HB0.out HB_21.out⟩
end Go.Proofs.Ytfeffkjmjkddnaa

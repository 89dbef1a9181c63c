/- The walk of the law CountGrades. -/
import Derived.Test.YtfeffkjmjkddnaaMrI
import Derived.Deep.RegionHeld3
namespace Go.Proofs.Ytfeffkjmjkddnaa
open Go.ChangeShapes Go.WideShapes Go.ChangeAt Go.RowKit Go.Lib Go.Proofs
set_option linter.unusedVariables false

theorem sCountGrades_s (x y : Mr) (w : World) (hs : MrSame x y) (hr : MrIn w w.heap.size y) (hl : MrFits x) :
    Calls Try.prog 37 #[y.val] w fun e w' => (∃ y : Rw Int, e = .returned (.tuple #[.slice y.A y.xs.length y.c, .bool (pB (MkL (ctt x.G) (ctt x.C)))]) ∧ IntsAns (cgF (ctt x.G) (ctt x.C)) w w' y) ∧ Below w.heap.size w w' := by
  have h := sCountGrades_any y w hr (hs.fits hl)
  rw [hs.cg, hs.cc] at h
  exact h
theorem iCountGrades_s (x y : Mr) (w : World) (hs : MrSame x y) (hr : MrIn w w.heap.size y) (hl : MrFits x) :
    Calls Try.prog 38 #[y.val] w fun e w' => (∃ y : Rw Int, e = .returned (.tuple #[.slice y.A y.xs.length y.c, .bool (pB (MkL (ctt x.G) (ctt x.C)))]) ∧ IntsAns (cgF (ctt x.G) (ctt x.C)) w w' y) ∧ Below w.heap.size w w' := by
  have h := iCountGrades_any y w hr (hs.fits hl)
  rw [hs.cg, hs.cc] at h
  exact h
set_option maxHeartbeats 4000000 in
set_option maxRecDepth 20000 in
theorem walkCountGrades (x : Mr) (w : World) (hr : MrIn w w.heap.size x) (hl : MrLen x) :
    Calls Try.prog 11 #[x.val] w fun e w' => e = .returned (.bool true) ∧ Below w.heap.size w w' := by
  have hb0 := below_alloc w (.cells #[.slice x.G.A x.G.xs.length x.G.c, .slice x.C.A x.C.xs.length x.C.c] 24)
  have HB0 := Lib.hid hb0
  have HX0 := Lib.hid (mrBox_new w 24 x)
  have HR0 := Lib.hid (hr.next hb0)
  have HL := Lib.hid hl
  clear hr hl hb0
  unfold Mr.val
  go_enter Try.func11, Try.ntmps11
  go_wp2_with fail
  have zW := HB0.out.size
  have ZW := Lib.hid HX0.out.lt
  clear zW
  generalize World.alloc w _ = W at HB0 HX0 HR0 ZW ⊢
  have HB_0 := Lib.hid (Below.refl W.heap.size W)
  refine (szMarks_any x _ W HR0.out HL.out (by omega) (by omega)).mono ?_
  rintro e w1 ⟨⟨q, rfl, hq⟩, hb⟩
  have Z1 := Lib.hid hb.size
  have HB_1 := Lib.hid (below_next HB_0.out hb)
  clear HB_0 hb
  rcases hq with hq | ⟨hq0, hq1, HF⟩
  · go_wp2
    go_ret
    exact ⟨rfl, below_next HB0.out HB_1.out⟩
  have HVL := Lib.hid (cgF_small (ctt x.G) (ctt x.C))
  obtain ⟨c0, c1, cf⟩ := (HX0.out.next HB_1.out).mem
  go_wp2_with fail
  clear c0 c1 cf
  refine (toMarks_c x w1 (HR0.out.next HB_1.out) HF.out).mono ?_
  rintro e w2 ⟨⟨ya, rfl, hs, hy⟩, hb⟩
  have Z2 := Lib.hid hb.size
  have HB_2 := Lib.hid (below_next HB_1.out hb)
  clear HB_1 hb
  have HSya := Lib.hid hs
  clear hs
  have HC := Lib.hid (sCountGrades_s x ya w2 HSya.out hy.mr HF.out)
  clear hy
  unfold Mr.val at HC ⊢
  go_wp2_with fail
  refine (HC.out).mono ?_
  rintro e w3 ⟨⟨aV, rfl, ha⟩, hb⟩
  have Z3 := Lib.hid hb.size
  have HB_3 := Lib.hid (below_next HB_2.out hb)
  clear HB_2 hb
  have HPV := Lib.hid ha.v0
  have HV_3 := Lib.hid (ha.o0)
  clear ha
  clear HC HSya
  obtain ⟨c0, c1, cf⟩ := (HX0.out.next HB_3.out).mem
  go_wp2_with fail
  clear c0 c1 cf
  refine (toMarks_c x w3 (HR0.out.next HB_3.out) HF.out).mono ?_
  rintro e w4 ⟨⟨y, rfl, hs, hy⟩, hb⟩
  have Z4 := Lib.hid hb.size
  have HB_4 := Lib.hid (below_next HB_3.out hb)
  have HV_4 := Lib.hid (Nst.keepB HV_3.out hb)
  clear HB_3 HV_3 hb
  have HSy := Lib.hid hs
  clear hs
  have HO_4 := Lib.hid (hy)
  clear hy
  obtain ⟨w5, hW⟩ : ∃ W', W' = w4.alloc (.cells #[.slice y.G.A y.G.xs.length y.G.c, .slice y.C.A y.C.xs.length y.C.c] 27) := ⟨_, rfl⟩
  have hb : Below w4.heap.size w4 w5 := by rw [hW]; exact below_alloc _ _
  have Z5 := Lib.hid hb.size
  have HB_5 := Lib.hid (below_next HB_4.out hb)
  have HV_5 := Lib.hid (Nst.keepB HV_4.out hb)
  have HO_5 := Lib.hid (HO_4.out.next hb)
  clear HB_4 HV_4 HO_4 hb
  have HY_5 := Lib.hid (show MrBox w5 w4.heap.size y by rw [hW]; exact mrBox_new _ _ _)
  have HC := Lib.hid (iCountGrades_s x y w5 HSy.out HO_5.out.mr HF.out)
  unfold Mr.val at HC ⊢
  go_wp2_with fail
  rw [← hW]
  clear hW
  refine (HC.out).mono ?_
  rintro e w6 ⟨⟨aG, rfl, ha⟩, hb⟩
  have Z6 := Lib.hid hb.size
  have HB_6 := Lib.hid (below_next HB_5.out hb)
  have HV_6 := Lib.hid (Nst.keepB HV_5.out hb)
  have HO_6 := Lib.hid (HO_5.out.next hb)
  have HY_6 := Lib.hid (HY_5.out.next hb)
  clear HB_5 HV_5 HO_5 HY_5 hb
  have HPG := Lib.hid ha.v0
  have HG_6 := Lib.hid (ha.o0)
  clear ha
  clear HC
  go_wp2_with fail
  refine (eqIntS_r aG aV w6 (ints_eqv HPG.out HPV.out) (Nst.own_in HG_6.out) (Nst.own_in HV_6.out) (ints_fit HPG.out HVL.out)).mono ?_
  rintro e w7 ⟨rfl, hb⟩
  have Z7 := Lib.hid hb.size
  have HB_7 := Lib.hid (below_next HB_6.out hb)
  have HV_7 := Lib.hid (Nst.keepB HV_6.out hb)
  have HO_7 := Lib.hid (HO_6.out.next hb)
  have HY_7 := Lib.hid (HY_6.out.next hb)
  have HG_7 := Lib.hid (Nst.keepB HG_6.out hb)
  clear HB_6 HV_6 HO_6 HY_6 HG_6 hb
  go_wp2_with fail
  have hb := below_drew w7
  have Z8 := Lib.hid hb.size
  have HB_8 := Lib.hid (below_next HB_7.out hb)
  have HV_8 := Lib.hid (Nst.keepB HV_7.out hb)
  have HO_8 := Lib.hid (HO_7.out.next hb)
  have HY_8 := Lib.hid (HY_7.out.next hb)
  have HG_8 := Lib.hid (Nst.keepB HG_7.out hb)
  clear HB_7 HV_7 HO_7 HY_7 HG_7 hb
  go_region_held3 (fun w' => w'.cell? ⟨w.heap.size, 0, none⟩ = some (.slice x.G.A x.G.xs.length x.G.c) ∧ w'.cell? ⟨w.heap.size, 1, none⟩ = some (.slice x.C.A x.C.xs.length x.C.c) ∧ w'.cell? ⟨w4.heap.size, 0, none⟩ = some (.slice y.G.A y.G.xs.length y.G.c) ∧ w'.cell? ⟨w4.heap.size, 1, none⟩ = some (.slice y.C.A y.C.xs.length y.C.c))
    (first | exact mrBox_cells (HX0.out.next HB_8.out).mem HY_8.out.mem | exact mrBox_cells (HX0.out.next HB_9.out).mem HY_9.out.mem | exact mrBox_cells (HX0.out.next HB_10.out).mem HY_10.out.mem)
    (first
      | (go_at_call 14; refine (toMarks_c x _ (HR0.out.next HB_8.out) HF.out).mono ?_; rintro e w9 ⟨⟨z, rfl, hz, hzi⟩, hb⟩; have Z9 := Lib.hid hb.size; have HB_9 := Lib.hid (below_next HB_8.out hb); have HV_9 := Lib.hid (Nst.keepB HV_8.out hb); have HO_9 := Lib.hid (HO_8.out.next hb); have HY_9 := Lib.hid (HY_8.out.next hb); have HG_9 := Lib.hid (Nst.keepB HG_8.out hb); have HC := Lib.hid (eqMarks_yes y z w9 (HSy.out.symm.trans hz) HO_9.out.mr hzi.mr (HSy.out.fits HF.out)); unfold Mr.val at HC ⊢; clear hb hz hzi)
      | (go_at_call 16; refine HC.out.mono ?_; rintro e w10 ⟨rfl, hb⟩; have Z10 := Lib.hid hb.size; have HB_10 := Lib.hid (below_next HB_9.out hb); have HV_10 := Lib.hid (Nst.keepB HV_9.out hb); have HO_10 := Lib.hid (HO_9.out.next hb); have HY_10 := Lib.hid (HY_9.out.next hb); have HG_10 := Lib.hid (Nst.keepB HG_9.out hb); clear hb)
      )
  clear HC HB_8 HB_9 HV_8 HV_9 HO_8 HO_9 HY_8 HY_9 HG_8 HG_9
  obtain ⟨c0, c1, cf⟩ := HY_10.out.mem
  go_wp2_with fail
  clear c0 c1 cf
  refine (markMarks_any _ y _ 1 w10 rfl HO_10.out (fun i hi => by have q2 := hi.2; have z1 := Z1.out; have z2 := Z2.out; have z3 := Z3.out; have z4 := Z4.out; have z5 := Z5.out; have z6 := Z6.out; have z7 := Z7.out; have z8 := Z8.out; have z9 := Z9.out; have z10 := Z10.out; omega) (HSy.out.fits HF.out) (by omega)).mono ?_
  rintro e w11 ⟨rfl, _, hk⟩
  clear HO_10
  clear HY_10
  have Z11 := Lib.hid hk.size
  have HB_11 := Lib.hid (HB_10.out.trans (hk.below HB_10.out.size (fun i hi => by have q1 := hi.1; have z1 := Z1.out; have z2 := Z2.out; have z3 := Z3.out; have z4 := Z4.out; have z5 := Z5.out; have z6 := Z6.out; have z7 := Z7.out; have z8 := Z8.out; have z9 := Z9.out; have z10 := Z10.out; have z11 := Z11.out; omega)))
  have HV_11 := Lib.hid (Nst.own_keep HV_10.out hk (fun i h1 h2 => by have q1 := h1.1; have q2 := h1.2; have q3 := h2.1; have q4 := h2.2; have z1 := Z1.out; have z2 := Z2.out; have z3 := Z3.out; have z4 := Z4.out; have z5 := Z5.out; have z6 := Z6.out; have z7 := Z7.out; have z8 := Z8.out; have z9 := Z9.out; have z10 := Z10.out; have z11 := Z11.out; omega))
  have HG_11 := Lib.hid (Nst.own_keep HG_10.out hk (fun i h1 h2 => by have q1 := h1.1; have q2 := h1.2; have q3 := h2.1; have q4 := h2.2; have z1 := Z1.out; have z2 := Z2.out; have z3 := Z3.out; have z4 := Z4.out; have z5 := Z5.out; have z6 := Z6.out; have z7 := Z7.out; have z8 := Z8.out; have z9 := Z9.out; have z10 := Z10.out; have z11 := Z11.out; omega))
  clear HB_10 HV_10 HG_10 hk
  go_wp2_with fail
  refine (eqIntS_r aG aV w11 (ints_eqv HPG.out HPV.out) (Nst.own_in HG_11.out) (Nst.own_in HV_11.out) (ints_fit HPG.out HVL.out)).mono ?_
  rintro e w12 ⟨rfl, hb⟩
  have Z12 := Lib.hid hb.size
  have HB_12 := Lib.hid (below_next HB_11.out hb)
  have HV_12 := Lib.hid (Nst.keepB HV_11.out hb)
  have HG_12 := Lib.hid (Nst.keepB HG_11.out hb)
  clear HB_11 HV_11 HG_11 hb
  go_wp2_with fail
  refine (markIntS_r _ aG _ 1 w12 rfl HG_12.out (ints_fit HPG.out HVL.out) (by omega)).mono ?_
  rintro e w13 ⟨rfl, hgo, hk⟩
  clear HG_12
  have Z13 := Lib.hid hk.size
  have HB_13 := Lib.hid (HB_12.out.trans (hk.below HB_12.out.size (fun i hi => by have q1 := hi.1; have z1 := Z1.out; have z2 := Z2.out; have z3 := Z3.out; have z4 := Z4.out; have z5 := Z5.out; have z6 := Z6.out; have z7 := Z7.out; have z8 := Z8.out; have z9 := Z9.out; have z10 := Z10.out; have z11 := Z11.out; have z12 := Z12.out; have z13 := Z13.out; omega)))
  have HV_13 := Lib.hid (Nst.own_keep HV_12.out hk (fun i h1 h2 => by have q1 := h1.1; have q2 := h1.2; have q3 := h2.1; have q4 := h2.2; have z1 := Z1.out; have z2 := Z2.out; have z3 := Z3.out; have z4 := Z4.out; have z5 := Z5.out; have z6 := Z6.out; have z7 := Z7.out; have z8 := Z8.out; have z9 := Z9.out; have z10 := Z10.out; have z11 := Z11.out; have z12 := Z12.out; have z13 := Z13.out; omega))
  clear HB_12 HV_12 hk
  have HG_13 := Lib.hid (hgo)
  clear hgo
  go_wp2_with fail
  refine (heldIntS_r aG _ 1 w13 rfl (Nst.own_in HG_13.out) (ints_fit HPG.out HVL.out) (by omega)).mono ?_
  rintro e w14 ⟨rfl, hb⟩
  have Z14 := Lib.hid hb.size
  have HB_14 := Lib.hid (below_next HB_13.out hb)
  have HV_14 := Lib.hid (Nst.keepB HV_13.out hb)
  have HG_14 := Lib.hid (Nst.keepB HG_13.out hb)
  clear HB_13 HV_13 HG_13 hb
  obtain ⟨c0, c1, cf⟩ := (HX0.out.next HB_14.out).mem
  go_wp2_with fail
  clear c0 c1 cf
  refine (toMarks_c x w14 (HR0.out.next HB_14.out) HF.out).mono ?_
  rintro e w15 ⟨⟨yb, rfl, hs, hy⟩, hb⟩
  have Z15 := Lib.hid hb.size
  have HB_15 := Lib.hid (below_next HB_14.out hb)
  have HV_15 := Lib.hid (Nst.keepB HV_14.out hb)
  have HG_15 := Lib.hid (Nst.keepB HG_14.out hb)
  clear HB_14 HV_14 HG_14 hb
  have HSyb := Lib.hid hs
  clear hs
  have HC := Lib.hid (iCountGrades_s x yb w15 HSyb.out hy.mr HF.out)
  clear hy
  unfold Mr.val at HC ⊢
  go_wp2_with fail
  refine (HC.out).mono ?_
  rintro e w16 ⟨⟨aH, rfl, ha⟩, hb⟩
  have Z16 := Lib.hid hb.size
  have HB_16 := Lib.hid (below_next HB_15.out hb)
  have HV_16 := Lib.hid (Nst.keepB HV_15.out hb)
  have HG_16 := Lib.hid (Nst.keepB HG_15.out hb)
  clear HB_15 HV_15 HG_15 hb
  have HPH := Lib.hid ha.v0
  have HH_16 := Lib.hid (ha.o0)
  clear ha
  clear HC HSyb
  go_wp2_with fail
  refine (eqIntS_r aH aV w16 (ints_eqv HPH.out HPV.out) (Nst.own_in HH_16.out) (Nst.own_in HV_16.out) (ints_fit HPH.out HVL.out)).mono ?_
  rintro e w17 ⟨rfl, hb⟩
  have Z17 := Lib.hid hb.size
  have HB_17 := Lib.hid (below_next HB_16.out hb)
  have HV_17 := Lib.hid (Nst.keepB HV_16.out hb)
  have HG_17 := Lib.hid (Nst.keepB HG_16.out hb)
  have HH_17 := Lib.hid (Nst.keepB HH_16.out hb)
  clear HB_16 HV_16 HG_16 HH_16 hb
  go_wp2_with fail
  refine (heldIntS_r aG _ 1 w17 rfl (Nst.own_in HG_17.out) (ints_fit HPG.out HVL.out) (by omega)).mono ?_
  rintro e w18 ⟨rfl, hb⟩
  have Z18 := Lib.hid hb.size
  have HB_18 := Lib.hid (below_next HB_17.out hb)
  have HV_18 := Lib.hid (Nst.keepB HV_17.out hb)
  have HG_18 := Lib.hid (Nst.keepB HG_17.out hb)
  have HH_18 := Lib.hid (Nst.keepB HH_17.out hb)
  clear HB_17 HV_17 HG_17 HH_17 hb
  go_wp2
  go_ret
  exact ⟨rfl, below_next HB0.out HB_18.out⟩
end Go.Proofs.Ytfeffkjmjkddnaa

/- The walk of the law InsertItem. -/
import Derived.Test.YtnlcdfaojcnkpaaGreatDoorPgIm
import Derived.Test.YtnlcdfaojcnkpaaGreatDoorBc
import Derived.Deep.RegionHeld3
namespace Go.Proofs.YtnlcdfaojcnkpaaGreatDoor
open Go.ChangeShapes Go.WideShapes Go.ChangeAt Go.RowKit Go.PlainAid Go.Sort
set_option linter.unusedVariables false

theorem sInsertItem_n (A L : Option Addr) (c d : Nat) (x : Cd) (P1 : Option Addr) (c1 n1 : Nat) (xs ys1 : List Im) (hs1 : SameS xs ys1) (hn1 : xs.length = n1) (r : Int) (y z3 : Im) (hs3 : Same y z3) (w : World) (hr : CdAt w A L x) (hl : CdFits x) (hp1 : Ims w w.heap.size P1 ys1) (hq1 : ImsFits xs) (hc1 : n1 ≤ c1 ∧ c1 ≤ 9223372036854775807) (hy3 : ImIn w w.heap.size z3) (hz3 : ItFits y) :
    Calls Tryz.prog 10 #[x.val A c L d, .slice P1 n1 c1, .int .i64 r, z3.val] w fun e w' => (∃ R d zs g G, e = .returned (.tuple #[.slice R (inF x xs r y).length d, .bool (pB (InOk x xs r y))]) ∧ SameS (inF x xs r y) zs ∧ ImsOwn (fun i => w.heap.size ≤ i ∧ i < w'.heap.size) w' R g G zs) ∧ Below w.heap.size w w' := by
  subst hn1
  rw [← hs1.len]
  refine (sInsertItem_any A L c d x P1 c1 ys1 r z3 w hr hl hp1 (hs1.fits hq1) ⟨by rw [hs1.len]; exact hc1.1, hc1.2⟩ hy3 (hs3.fits hz3)).mono ?_
  rintro e w' ⟨⟨R, d, zs, g, G, rfl, h1, h2⟩, hb⟩
  have h3 := (inF_same (x := x) hs1 hs3 r).trans h1
  exact ⟨⟨R, d, zs, g, G, by rw [h3.len, inQ_same (x := x) hs1 hs3 r], h3, h2⟩, hb⟩
theorem iInsertItem_n (A L : Option Addr) (c d : Nat) (x : Cd) (P1 : Option Addr) (c1 n1 : Nat) (xs ys1 : List Im) (hs1 : SameS xs ys1) (hn1 : xs.length = n1) (r : Int) (y z3 : Im) (hs3 : Same y z3) (w : World) (hr : CdAt w A L x) (hl : CdFits x) (hp1 : Ims w w.heap.size P1 ys1) (hq1 : ImsFits xs) (hc1 : n1 ≤ c1 ∧ c1 ≤ 9223372036854775807) (hy3 : ImIn w w.heap.size z3) (hz3 : ItFits y) (ht : Tab w) :
    Calls Tryz.prog 14 #[x.val A c L d, .slice P1 n1 c1, .int .i64 r, z3.val] w fun e w' => (∃ R d zs g G, e = .returned (.tuple #[.slice R (inF x xs r y).length d, .bool (pB (InOk x xs r y))]) ∧ SameS (inF x xs r y) zs ∧ ImsOwn (fun i => w.heap.size ≤ i ∧ i < w'.heap.size) w' R g G zs) ∧ Below w.heap.size w w' := by
  subst hn1
  rw [← hs1.len]
  refine (iInsertItem_any A L c d x P1 c1 ys1 r z3 w hr hl hp1 (hs1.fits hq1) ⟨by rw [hs1.len]; exact hc1.1, hc1.2⟩ hy3 (hs3.fits hz3) ht).mono ?_
  rintro e w' ⟨⟨R, d, zs, g, G, rfl, h1, h2⟩, hb⟩
  have h3 := (inF_same (x := x) hs1 hs3 r).trans h1
  exact ⟨⟨R, d, zs, g, G, by rw [h3.len, inQ_same (x := x) hs1 hs3 r], h3, h2⟩, hb⟩

set_option maxHeartbeats 4000000 in
theorem walkInsertItem (A : Option Addr) (c : Nat) (L : Option Addr) (d : Nat) (x : Cd) (P1 : Option Addr) (c1 : Nat) (xs : List Im) (r : Int) (y : Im) (w : World) (hr : CdAt w A L x) (hl : CdLen x) (hp1 : Ims w w.heap.size P1 xs) (hq1 : ImsLen xs) (hw2 : (Lit.int .i64 r).wf = true) (hy3 : ImIn w w.heap.size y) (hz3 : ItLen y) (ht : Tab w) :
    Calls Tryz.prog 3 #[x.val A c L d, .slice P1 xs.length c1, .int .i64 r, y.val] w fun e w' => e = .returned (.bool true) ∧ Below w.heap.size w w' := by
  obtain ⟨V, W, hV, hW, hBx, hX, hY, hsz⟩ := boxed2 25 29 w A c L d x y
  have HBW := Lib.hid hBx
  have HX := Lib.hid hX
  have HJ := Lib.hid hY
  have HR := Lib.hid (hr.below hBx)
  have HT := Lib.hid (ht.next hBx)
  have HL := Lib.hid hl
  have HI3 := Lib.hid (hy3.next hBx)
  have HQ3 := Lib.hid hz3
  clear hy3 hz3
  have HP1 := Lib.hid (hp1.next hBx)
  have HQ1 := Lib.hid hq1
  clear hp1 hq1
  have HH := Lib.hid (fun (w' : World) (hb : Below W.heap.size W w') => two_boxes HX.out HJ.out hb)
  clear hr hl ht hBx hX hY hsz
  unfold boxCd at hV
  unfold boxIm at hW
  unfold Cd.val Im.val
  have HB_0 := Lib.hid (Below.refl W.heap.size W)
  go_enter Tryz.func3, Tryz.ntmps3
  go_wp2_with fail
  rw [← hV, ← hW]
  clear hV hW
  refine (szCode_any A L c d x W (HR.out.below HB_0.out) HL.out).mono ?_
  rintro e w1 ⟨⟨q0, rfl, hq⟩, hb⟩
  have Z1 := Lib.hid hb.size
  have HB_1 := Lib.hid (Below_next HB_0.out hb)
  clear HB_0 hb
  rcases hq with hq | ⟨hq00, hq10, HF0⟩
  · go_wp2
    go_ret
    exact ⟨rfl, Below_next HBW.out HB_1.out⟩
  · have hq10 : q0 ≤ 1048576 := by omega
    go_wp2_with fail
    refine (szItemS_any P1 c1 xs q0 w1 (HP1.out.next HB_1.out) HQ1.out hq00 hq10).mono ?_
    rintro e w2 ⟨⟨q1, rfl, hq⟩, hb⟩
    have Z2 := Lib.hid hb.size
    have HB_2 := Lib.hid (Below_next HB_1.out hb)
    clear HB_1 hb
    rcases hq with hq | ⟨hq01, hq11, HF1⟩
    · go_wp2
      go_ret
      exact ⟨rfl, Below_next HBW.out HB_2.out⟩
    · have hq11 : q1 ≤ 1048576 := by omega
      obtain ⟨_, j0, j1, j2⟩ := (HJ.out.next HB_2.out)
      go_wp2_with fail
      clear j0 j1 j2
      refine (szItem_any y _ w2 (HI3.out.next HB_2.out) HQ3.out hq01 hq11).mono ?_
      rintro e w3 ⟨⟨q3, rfl, hq⟩, hb⟩
      have Z3 := Lib.hid hb.size
      have HB_3 := Lib.hid (Below_next HB_2.out hb)
      clear HB_2 hb
      rcases hq with hq | ⟨hq03, hq13, HF3⟩
      · go_wp2
        go_ret
        exact ⟨rfl, Below_next HBW.out HB_3.out⟩
      · have hq13 : q3 ≤ 1048576 := by omega
        have HVF := Lib.hid (inF_fits (x := x) HF1.out HF3.out r)
        go_wp2_with fail
        have hb := below_drew w3
        have Z4 := Lib.hid hb.size
        have HB_4 := Lib.hid (Below_next HB_3.out hb)
        clear HB_3 hb
        go_region_held3 (fun w' => w'.cell? ⟨w.heap.size, 0, none⟩ = some (.slice A x.els.length c) ∧ w'.cell? ⟨w.heap.size, 1, none⟩ = some (.slice L x.lims.length d) ∧ w'.cell? ⟨w.heap.size, 2, none⟩ = some (.int .i64 x.rep) ∧ w'.cell? ⟨w.heap.size, 3, none⟩ = some (.int .i64 x.bon) ∧ w'.cell? ⟨w.heap.size, 4, none⟩ = some (.int .i64 x.kee) ∧ w'.cell? ⟨w.heap.size, 5, none⟩ = some (.int .i64 x.fal) ∧ w'.cell? ⟨w.heap.size + 1, 0, none⟩ = some (.slice y.A y.ns.length y.c) ∧ w'.cell? ⟨w.heap.size + 1, 1, none⟩ = some (.slice y.L y.ms.length y.d) ∧ w'.cell? ⟨w.heap.size + 1, 2, none⟩ = some (.bool y.late))
          (first | exact HH.out _ HB_4.out | exact HH.out _ HB_5.out | exact HH.out _ HB_6.out | exact HH.out _ HB_7.out | exact HH.out _ HB_8.out)
          (first
            | (go_at_call 11; refine (toCode_any A L c d x _ (HR.out.below HB_4.out) HF0.out).mono ?_; rintro e w5 ⟨⟨ga5, gb5, rfl, hn⟩, hb⟩; have Z5 := Lib.hid hb.size; have HB_5 := Lib.hid (Below_next HB_4.out hb); have HN_5 := Lib.hid hn.at_; clear hb hn)
            | (go_at_call 12; refine (toItemS_c P1 c1 xs _ (HP1.out.next HB_5.out) HF1.out).mono ?_; rintro e w6 ⟨rfl, ⟨ys6, g6, G6, hs, ho⟩, hb⟩; have Z6 := Lib.hid hb.size; have HB_6 := Lib.hid (Below_next HB_5.out hb); have HN_6 := Lib.hid (HN_5.out.below hb); have HS6 := Lib.hid hs; have HIt1_6 := Lib.hid ho.ims; clear hb hs ho)
            | (go_at_call 13; refine (toItem_c y _ (HI3.out.next HB_6.out) HF3.out).mono ?_; rintro e w7 ⟨⟨z7, rfl, hs, hy⟩, hb⟩; have Z7 := Lib.hid hb.size; have HB_7 := Lib.hid (Below_next HB_6.out hb); have HN_7 := Lib.hid (HN_6.out.below hb); have HIt1_7 := Lib.hid (HIt1_6.out.next hb); have HS7 := Lib.hid hs; have HZt3_7 := Lib.hid hy; clear hb hs hy)
            | (go_at_call 10; refine (sInsertItem_n _ _ _ _ x _ _ _ xs ys6 HS6.out rfl r y z7 HS7.out _ HN_7.out HF0.out HIt1_7.out HF1.out ⟨Nat.le_refl _, by have := HF1.out.len; omega⟩ HZt3_7.out HF3.out).mono ?_; rintro e w8 ⟨⟨W0, d0, lw, gw, Gw, rfl, hsw, how⟩, hb⟩; have Z8 := Lib.hid hb.size; have HB_8 := Lib.hid (Below_next HB_7.out hb); have HSW := Lib.hid hsw; have HV_8 := Lib.hid how; clear hsw how;  clear hb)
            )
        clear HB_4 HB_5 HB_6 HB_7
        obtain ⟨c0, c1, c2, c3, c4, c5⟩ := (HX.out.next HB_8.out).box
        go_wp2_with fail
        clear c0 c1 c2 c3 c4 c5
        refine (toCode_any A L c d x w8 (HR.out.below HB_8.out) HF0.out).mono ?_
        rintro e w9 ⟨⟨ga9, gb9, rfl, hn⟩, hb⟩
        have Z9 := Lib.hid hb.size
        have HB_9 := Lib.hid (Below_next HB_8.out hb)
        have HV_9 := Lib.hid (HV_8.out.next hb)
        clear HB_8 HV_8 hb
        have HN_9 := Lib.hid (hn.at_)
        have HC_9 := Lib.hid (hn.own)
        have hne := hn.ne
        have hge1 := hn.le1
        have hge2 := hn.le2
        have hlt1 := hn.lt1
        have hlt2 := hn.lt2
        clear hn
        obtain ⟨w10, hW, hB⟩ := boxed 38 w9 (some ⟨ga9, 0, none⟩) x.els.length (some ⟨gb9, 0, none⟩) x.lims.length x
        have hb := hB.below
        have Z10 := Lib.hid hb.size
        have HB_10 := Lib.hid (Below_next HB_9.out hb)
        have HV_10 := Lib.hid (HV_9.out.next hb)
        have HN_10 := Lib.hid (HN_9.out.below hb)
        have HC_10 := Lib.hid (HC_9.out.keepB hb)
        clear HB_9 HV_9 HN_9 HC_9 hb
        have HY_10 := Lib.hid (hB.at_)
        clear hB
        unfold boxCd at hW
        go_wp2_with fail
        rw [← hW]
        clear hW
        refine (toItemS_c P1 c1 xs w10 (HP1.out.next HB_10.out) HF1.out).mono ?_
        rintro e w11 ⟨rfl, ⟨ys11, g11, G11, hs, ho⟩, hb⟩
        have Z11 := Lib.hid hb.size
        have HB_11 := Lib.hid (Below_next HB_10.out hb)
        have HV_11 := Lib.hid (HV_10.out.next hb)
        have HN_11 := Lib.hid (HN_10.out.below hb)
        have HC_11 := Lib.hid (HC_10.out.keepB hb)
        have HY_11 := Lib.hid (HY_10.out.next hb)
        clear HB_10 HV_10 HN_10 HC_10 HY_10 hb
        have HS11 := Lib.hid hs
        have HIx1_11 := Lib.hid (ho)
        clear hs ho
        obtain ⟨_, j0, j1, j2⟩ := (HJ.out.next HB_11.out)
        go_wp2_with fail
        clear j0 j1 j2
        refine (toItem_o y w11 (HI3.out.next HB_11.out) HF3.out).mono ?_
        rintro e w12 ⟨⟨z12, rfl, hs, hy⟩, hb⟩
        have Z12 := Lib.hid hb.size
        have HB_12 := Lib.hid (Below_next HB_11.out hb)
        have HV_12 := Lib.hid (HV_11.out.next hb)
        have HN_12 := Lib.hid (HN_11.out.below hb)
        have HC_12 := Lib.hid (HC_11.out.keepB hb)
        have HY_12 := Lib.hid (HY_11.out.next hb)
        have HIx1_12 := Lib.hid (HIx1_11.out.next hb)
        clear HB_11 HV_11 HN_11 HC_11 HY_11 HIx1_11 hb
        have HS12 := Lib.hid hs
        have HZ3_12 := Lib.hid (hy)
        clear hs hy
        obtain ⟨w13, hW, hB⟩ := boxedI 41 w12 z12
        have hb := hB.below
        have Z13 := Lib.hid hb.size
        have HB_13 := Lib.hid (Below_next HB_12.out hb)
        have HV_13 := Lib.hid (HV_12.out.next hb)
        have HN_13 := Lib.hid (HN_12.out.below hb)
        have HC_13 := Lib.hid (HC_12.out.keepB hb)
        have HY_13 := Lib.hid (HY_12.out.next hb)
        have HIx1_13 := Lib.hid (HIx1_12.out.next hb)
        have HZ3_13 := Lib.hid (HZ3_12.out.next hb)
        clear HB_12 HV_12 HN_12 HC_12 HY_12 HIx1_12 HZ3_12 hb
        have HYI_13 := Lib.hid (hB.box)
        clear hB
        unfold boxIm at hW
        obtain ⟨c0, c1, c2, c3, c4, c5⟩ := HY_13.out.box
        obtain ⟨_, j0, j1, j2⟩ := HYI_13.out
        rw [hW] at c0 c1 c2 c3 c4 c5 j0 j1 j2
        go_wp2_with fail
        rw [← hW]
        clear hW c0 c1 c2 c3 c4 c5 j0 j1 j2
        refine (iInsertItem_n _ _ _ _ x _ _ _ xs ys11 HS11.out rfl r y z12 HS12.out w13 HN_13.out HF0.out HIx1_13.out.ims HF1.out ⟨Nat.le_refl _, by have := HF1.out.len; omega⟩ HZ3_13.out.imIn HF3.out (HT.out.next HB_13.out)).mono ?_
        rintro e w14 ⟨⟨G0, d1, lg, gg, Gg, rfl, hsg, hog⟩, hb⟩
        have Z14 := Lib.hid hb.size
        have HB_14 := Lib.hid (Below_next HB_13.out hb)
        have HV_14 := Lib.hid (HV_13.out.next hb)
        have HN_14 := Lib.hid (HN_13.out.below hb)
        have HC_14 := Lib.hid (HC_13.out.keepB hb)
        have HY_14 := Lib.hid (HY_13.out.next hb)
        have HIx1_14 := Lib.hid (HIx1_13.out.next hb)
        have HZ3_14 := Lib.hid (HZ3_13.out.next hb)
        have HYI_14 := Lib.hid (HYI_13.out.next hb)
        clear HB_13 HV_13 HN_13 HC_13 HY_13 HIx1_13 HZ3_13 HYI_13 hb
        have HSG := Lib.hid hsg
        have HG_14 := Lib.hid (hog)
        clear hog hsg
        go_wp2_with fail
        refine (eqItemS_n G0 W0 d1 d0 (inF x xs r y).length lg lw HSG.out.len w14 (HSG.out.symm.trans HSW.out) HG_14.out.ims HV_14.out.ims (HSG.out.fits HVF.out)).mono ?_
        rintro e w15 ⟨rfl, hb⟩
        have Z15 := Lib.hid hb.size
        have HB_15 := Lib.hid (Below_next HB_14.out hb)
        have HV_15 := Lib.hid (HV_14.out.next hb)
        have HN_15 := Lib.hid (HN_14.out.below hb)
        have HC_15 := Lib.hid (HC_14.out.keepB hb)
        have HY_15 := Lib.hid (HY_14.out.next hb)
        have HIx1_15 := Lib.hid (HIx1_14.out.next hb)
        have HZ3_15 := Lib.hid (HZ3_14.out.next hb)
        have HYI_15 := Lib.hid (HYI_14.out.next hb)
        have HG_15 := Lib.hid (HG_14.out.next hb)
        clear HB_14 HV_14 HN_14 HC_14 HY_14 HIx1_14 HZ3_14 HYI_14 HG_14 hb
        go_wp2_with fail
        have hb := below_drewn w15
        have Z16 := Lib.hid hb.size
        have HB_16 := Lib.hid (Below_next HB_15.out hb)
        have HV_16 := Lib.hid (HV_15.out.next hb)
        have HN_16 := Lib.hid (HN_15.out.below hb)
        have HC_16 := Lib.hid (HC_15.out.keepB hb)
        have HY_16 := Lib.hid (HY_15.out.next hb)
        have HIx1_16 := Lib.hid (HIx1_15.out.next hb)
        have HZ3_16 := Lib.hid (HZ3_15.out.next hb)
        have HYI_16 := Lib.hid (HYI_15.out.next hb)
        have HG_16 := Lib.hid (HG_15.out.next hb)
        clear HB_15 HV_15 HN_15 HC_15 HY_15 HIx1_15 HZ3_15 HYI_15 HG_15 hb
        go_region_held3 (fun w' => w'.cell? ⟨w.heap.size, 0, none⟩ = some (.slice A x.els.length c) ∧ w'.cell? ⟨w.heap.size, 1, none⟩ = some (.slice L x.lims.length d) ∧ w'.cell? ⟨w.heap.size, 2, none⟩ = some (.int .i64 x.rep) ∧ w'.cell? ⟨w.heap.size, 3, none⟩ = some (.int .i64 x.bon) ∧ w'.cell? ⟨w.heap.size, 4, none⟩ = some (.int .i64 x.kee) ∧ w'.cell? ⟨w.heap.size, 5, none⟩ = some (.int .i64 x.fal) ∧ w'.cell? ⟨w9.heap.size, 0, none⟩ = some (.slice (some ⟨ga9, 0, none⟩) x.els.length x.els.length) ∧ w'.cell? ⟨w9.heap.size, 1, none⟩ = some (.slice (some ⟨gb9, 0, none⟩) x.lims.length x.lims.length) ∧ w'.cell? ⟨w9.heap.size, 2, none⟩ = some (.int .i64 x.rep) ∧ w'.cell? ⟨w9.heap.size, 3, none⟩ = some (.int .i64 x.bon) ∧ w'.cell? ⟨w9.heap.size, 4, none⟩ = some (.int .i64 x.kee) ∧ w'.cell? ⟨w9.heap.size, 5, none⟩ = some (.int .i64 x.fal))
          (first | exact box2 (HX.out.next HB_16.out) HY_16.out | exact box2 (HX.out.next HB_17.out) HY_17.out | exact box2 (HX.out.next HB_18.out) HY_18.out)
          (first
            | (go_at_call 11; refine (toCode_any A L c d x _ (HR.out.below HB_16.out) HF0.out).mono ?_; rintro e w17 ⟨⟨ga17, gb17, rfl, hn⟩, hb⟩; have Z17 := Lib.hid hb.size; have HB_17 := Lib.hid (Below_next HB_16.out hb); have HV_17 := Lib.hid (HV_16.out.next hb); have HN_17 := Lib.hid (HN_16.out.below hb); have HC_17 := Lib.hid (HC_16.out.keepB hb); have HY_17 := Lib.hid (HY_16.out.next hb); have HIx1_17 := Lib.hid (HIx1_16.out.next hb); have HZ3_17 := Lib.hid (HZ3_16.out.next hb); have HYI_17 := Lib.hid (HYI_16.out.next hb); have HG_17 := Lib.hid (HG_16.out.next hb); have HM17 := Lib.hid hn.at_; clear hb hn)
            | (go_at_call 16; refine (eqCode_yes _ _ _ _ _ _ _ _ x _ HN_17.out HM17.out HF0.out).mono ?_; rintro e w18 ⟨rfl, hb⟩; have Z18 := Lib.hid hb.size; have HB_18 := Lib.hid (Below_next HB_17.out hb); have HV_18 := Lib.hid (HV_17.out.next hb); have HN_18 := Lib.hid (HN_17.out.below hb); have HC_18 := Lib.hid (HC_17.out.keepB hb); have HY_18 := Lib.hid (HY_17.out.next hb); have HIx1_18 := Lib.hid (HIx1_17.out.next hb); have HZ3_18 := Lib.hid (HZ3_17.out.next hb); have HYI_18 := Lib.hid (HYI_17.out.next hb); have HG_18 := Lib.hid (HG_17.out.next hb); clear hb)
            )
        clear HM17 HB_16 HB_17 HV_16 HV_17 HN_16 HN_17 HC_16 HC_17 HY_16 HY_17 HIx1_16 HIx1_17 HZ3_16 HZ3_17 HYI_16 HYI_17 HG_16 HG_17
        go_wp2_with fail
        refine (toItemS_c P1 c1 xs w18 (HP1.out.next HB_18.out) HF1.out).mono ?_
        rintro e w19 ⟨rfl, ⟨zs, g', G', hs', ho'⟩, hb⟩
        have Z19 := Lib.hid hb.size
        have HB_19 := Lib.hid (Below_next HB_18.out hb)
        have HV_19 := Lib.hid (HV_18.out.next hb)
        have HN_19 := Lib.hid (HN_18.out.below hb)
        have HC_19 := Lib.hid (HC_18.out.keepB hb)
        have HY_19 := Lib.hid (HY_18.out.next hb)
        have HIx1_19 := Lib.hid (HIx1_18.out.next hb)
        have HZ3_19 := Lib.hid (HZ3_18.out.next hb)
        have HYI_19 := Lib.hid (HYI_18.out.next hb)
        have HG_19 := Lib.hid (HG_18.out.next hb)
        clear HB_18 HV_18 HN_18 HC_18 HY_18 HIx1_18 HZ3_18 HYI_18 HG_18 hb
        have HC := Lib.hid (eqItemS_n (some ⟨w10.heap.size, 0, none⟩) (some ⟨w18.heap.size, 0, none⟩) xs.length xs.length xs.length ys11 zs HS11.out.len w19 (HS11.out.symm.trans hs') HIx1_19.out.ims ho'.ims (HS11.out.fits HF1.out))
        clear hs' ho'
        go_wp2_with fail
        refine (HC.out).mono ?_
        rintro e w20 ⟨rfl, hb⟩
        have Z20 := Lib.hid hb.size
        have HB_20 := Lib.hid (Below_next HB_19.out hb)
        have HV_20 := Lib.hid (HV_19.out.next hb)
        have HN_20 := Lib.hid (HN_19.out.below hb)
        have HC_20 := Lib.hid (HC_19.out.keepB hb)
        have HY_20 := Lib.hid (HY_19.out.next hb)
        have HIx1_20 := Lib.hid (HIx1_19.out.next hb)
        have HZ3_20 := Lib.hid (HZ3_19.out.next hb)
        have HYI_20 := Lib.hid (HYI_19.out.next hb)
        have HG_20 := Lib.hid (HG_19.out.next hb)
        clear HB_19 HV_19 HN_19 HC_19 HY_19 HIx1_19 HZ3_19 HYI_19 HG_19 hb
        clear HC
        go_wp2_with fail
        have hb := below_drew w20
        have Z21 := Lib.hid hb.size
        have HB_21 := Lib.hid (Below_next HB_20.out hb)
        have HV_21 := Lib.hid (HV_20.out.next hb)
        have HN_21 := Lib.hid (HN_20.out.below hb)
        have HC_21 := Lib.hid (HC_20.out.keepB hb)
        have HY_21 := Lib.hid (HY_20.out.next hb)
        have HIx1_21 := Lib.hid (HIx1_20.out.next hb)
        have HZ3_21 := Lib.hid (HZ3_20.out.next hb)
        have HYI_21 := Lib.hid (HYI_20.out.next hb)
        have HG_21 := Lib.hid (HG_20.out.next hb)
        clear HB_20 HV_20 HN_20 HC_20 HY_20 HIx1_20 HZ3_20 HYI_20 HG_20 hb
        go_region_held3 (fun w' => w'.cell? ⟨w.heap.size + 1, 0, none⟩ = some (.slice y.A y.ns.length y.c) ∧ w'.cell? ⟨w.heap.size + 1, 1, none⟩ = some (.slice y.L y.ms.length y.d) ∧ w'.cell? ⟨w.heap.size + 1, 2, none⟩ = some (.bool y.late) ∧ w'.cell? ⟨w12.heap.size, 0, none⟩ = some (.slice z12.A z12.ns.length z12.c) ∧ w'.cell? ⟨w12.heap.size, 1, none⟩ = some (.slice z12.L z12.ms.length z12.d) ∧ w'.cell? ⟨w12.heap.size, 2, none⟩ = some (.bool z12.late))
          (first | exact imBox2 (HJ.out.next HB_21.out) HYI_21.out | exact imBox2 (HJ.out.next HB_22.out) HYI_22.out | exact imBox2 (HJ.out.next HB_23.out) HYI_23.out)
          (first
            | (go_at_call 13; refine (toItem_c y _ (HI3.out.next HB_21.out) HF3.out).mono ?_; rintro e w22 ⟨⟨zz, rfl, hs, hy⟩, hb⟩; have Z22 := Lib.hid hb.size; have HB_22 := Lib.hid (Below_next HB_21.out hb); have HV_22 := Lib.hid (HV_21.out.next hb); have HN_22 := Lib.hid (HN_21.out.below hb); have HC_22 := Lib.hid (HC_21.out.keepB hb); have HY_22 := Lib.hid (HY_21.out.next hb); have HIx1_22 := Lib.hid (HIx1_21.out.next hb); have HZ3_22 := Lib.hid (HZ3_21.out.next hb); have HYI_22 := Lib.hid (HYI_21.out.next hb); have HG_22 := Lib.hid (HG_21.out.next hb); have HQQ := Lib.hid hs; have HYY := Lib.hid hy; clear hb hs hy)
            | (go_at_call 17; refine (eqItem_yes z12 zz _ (HS12.out.symm.trans HQQ.out) HZ3_22.out.imIn HYY.out (HS12.out.fits HF3.out)).mono ?_; rintro e w23 ⟨rfl, hb⟩; have Z23 := Lib.hid hb.size; have HB_23 := Lib.hid (Below_next HB_22.out hb); have HV_23 := Lib.hid (HV_22.out.next hb); have HN_23 := Lib.hid (HN_22.out.below hb); have HC_23 := Lib.hid (HC_22.out.keepB hb); have HY_23 := Lib.hid (HY_22.out.next hb); have HIx1_23 := Lib.hid (HIx1_22.out.next hb); have HZ3_23 := Lib.hid (HZ3_22.out.next hb); have HYI_23 := Lib.hid (HYI_22.out.next hb); have HG_23 := Lib.hid (HG_22.out.next hb); clear hb)
            )
        clear HQQ HYY HB_21 HB_22 HV_21 HV_22 HN_21 HN_22 HC_21 HC_22 HY_21 HY_22 HIx1_21 HIx1_22 HZ3_21 HZ3_22 HYI_21 HYI_22 HG_21 HG_22
        obtain ⟨c0, c1, c2, c3, c4, c5⟩ := HY_23.out.box
        go_wp2_with fail
        clear c0 c1 c2 c3 c4 c5
        clear HN_23
        refine (markCode_any ga9 gb9 _ _ _ _ x _ HC_23.out hne HF0.out).mono ?_
        rintro e w24 ⟨rfl, _, hk⟩
        clear HC_23
        clear HY_23
        have Z24 := Lib.hid hk.size
        have HB_24 := Lib.hid (HB_23.out.trans (hk.below HB_23.out.size (fun i hi => by have z1 := Z1.out; have z2 := Z2.out; have z3 := Z3.out; have z4 := Z4.out; have z5 := Z5.out; have z6 := Z6.out; have z7 := Z7.out; have z8 := Z8.out; have z9 := Z9.out; have z10 := Z10.out; have z11 := Z11.out; have z12 := Z12.out; have z13 := Z13.out; have z14 := Z14.out; have z15 := Z15.out; have z16 := Z16.out; have z17 := Z17.out; have z18 := Z18.out; have z19 := Z19.out; have z20 := Z20.out; have z21 := Z21.out; have z22 := Z22.out; have z23 := Z23.out; have z24 := Z24.out; omega)))
        have HV_24 := Lib.hid (HV_23.out.keep hk (fun i h1 h2 => by have z1 := Z1.out; have z2 := Z2.out; have z3 := Z3.out; have z4 := Z4.out; have z5 := Z5.out; have z6 := Z6.out; have z7 := Z7.out; have z8 := Z8.out; have z9 := Z9.out; have z10 := Z10.out; have z11 := Z11.out; have z12 := Z12.out; have z13 := Z13.out; have z14 := Z14.out; have z15 := Z15.out; have z16 := Z16.out; have z17 := Z17.out; have z18 := Z18.out; have z19 := Z19.out; have z20 := Z20.out; have z21 := Z21.out; have z22 := Z22.out; have z23 := Z23.out; have z24 := Z24.out; omega))
        have HIx1_24 := Lib.hid (HIx1_23.out.keep hk (fun i h1 h2 => by have z1 := Z1.out; have z2 := Z2.out; have z3 := Z3.out; have z4 := Z4.out; have z5 := Z5.out; have z6 := Z6.out; have z7 := Z7.out; have z8 := Z8.out; have z9 := Z9.out; have z10 := Z10.out; have z11 := Z11.out; have z12 := Z12.out; have z13 := Z13.out; have z14 := Z14.out; have z15 := Z15.out; have z16 := Z16.out; have z17 := Z17.out; have z18 := Z18.out; have z19 := Z19.out; have z20 := Z20.out; have z21 := Z21.out; have z22 := Z22.out; have z23 := Z23.out; have z24 := Z24.out; omega))
        have HZ3_24 := Lib.hid (HZ3_23.out.keep hk (fun i h1 h2 => by have z1 := Z1.out; have z2 := Z2.out; have z3 := Z3.out; have z4 := Z4.out; have z5 := Z5.out; have z6 := Z6.out; have z7 := Z7.out; have z8 := Z8.out; have z9 := Z9.out; have z10 := Z10.out; have z11 := Z11.out; have z12 := Z12.out; have z13 := Z13.out; have z14 := Z14.out; have z15 := Z15.out; have z16 := Z16.out; have z17 := Z17.out; have z18 := Z18.out; have z19 := Z19.out; have z20 := Z20.out; have z21 := Z21.out; have z22 := Z22.out; have z23 := Z23.out; have z24 := Z24.out; omega))
        have HYI_24 := Lib.hid (HYI_23.out.only hk (by have z1 := Z1.out; have z2 := Z2.out; have z3 := Z3.out; have z4 := Z4.out; have z5 := Z5.out; have z6 := Z6.out; have z7 := Z7.out; have z8 := Z8.out; have z9 := Z9.out; have z10 := Z10.out; have z11 := Z11.out; have z12 := Z12.out; have z13 := Z13.out; have z14 := Z14.out; have z15 := Z15.out; have z16 := Z16.out; have z17 := Z17.out; have z18 := Z18.out; have z19 := Z19.out; have z20 := Z20.out; have z21 := Z21.out; have z22 := Z22.out; have z23 := Z23.out; have z24 := Z24.out; omega))
        have HG_24 := Lib.hid (HG_23.out.keep hk (fun i h1 h2 => by have z1 := Z1.out; have z2 := Z2.out; have z3 := Z3.out; have z4 := Z4.out; have z5 := Z5.out; have z6 := Z6.out; have z7 := Z7.out; have z8 := Z8.out; have z9 := Z9.out; have z10 := Z10.out; have z11 := Z11.out; have z12 := Z12.out; have z13 := Z13.out; have z14 := Z14.out; have z15 := Z15.out; have z16 := Z16.out; have z17 := Z17.out; have z18 := Z18.out; have z19 := Z19.out; have z20 := Z20.out; have z21 := Z21.out; have z22 := Z22.out; have z23 := Z23.out; have z24 := Z24.out; omega))
        clear HB_23 HV_23 HIx1_23 HZ3_23 HYI_23 HG_23 hk
        go_wp2_with fail
        refine (markItemS_b _ _ xs.length g11 G11 xs ys11 _ (1 + x.els.length * 4 + x.lims.length) w24 rfl HS11.out HIx1_24.out HF1.out (by have := HF0.out.1.1; have := HF0.out.2; omega) (by have := HF0.out.1.1; have := HF0.out.2; omega)).mono ?_
        rintro e w25 ⟨⟨m1, rfl, hm1, hmm1⟩, hk⟩
        clear HIx1_24
        have Z25 := Lib.hid hk.size
        have HB_25 := Lib.hid (HB_24.out.trans (hk.below HB_24.out.size (fun i hi => by have z1 := Z1.out; have z2 := Z2.out; have z3 := Z3.out; have z4 := Z4.out; have z5 := Z5.out; have z6 := Z6.out; have z7 := Z7.out; have z8 := Z8.out; have z9 := Z9.out; have z10 := Z10.out; have z11 := Z11.out; have z12 := Z12.out; have z13 := Z13.out; have z14 := Z14.out; have z15 := Z15.out; have z16 := Z16.out; have z17 := Z17.out; have z18 := Z18.out; have z19 := Z19.out; have z20 := Z20.out; have z21 := Z21.out; have z22 := Z22.out; have z23 := Z23.out; have z24 := Z24.out; have z25 := Z25.out; omega)))
        have HV_25 := Lib.hid (HV_24.out.keep hk (fun i h1 h2 => by have z1 := Z1.out; have z2 := Z2.out; have z3 := Z3.out; have z4 := Z4.out; have z5 := Z5.out; have z6 := Z6.out; have z7 := Z7.out; have z8 := Z8.out; have z9 := Z9.out; have z10 := Z10.out; have z11 := Z11.out; have z12 := Z12.out; have z13 := Z13.out; have z14 := Z14.out; have z15 := Z15.out; have z16 := Z16.out; have z17 := Z17.out; have z18 := Z18.out; have z19 := Z19.out; have z20 := Z20.out; have z21 := Z21.out; have z22 := Z22.out; have z23 := Z23.out; have z24 := Z24.out; have z25 := Z25.out; omega))
        have HZ3_25 := Lib.hid (HZ3_24.out.keep hk (fun i h1 h2 => by have z1 := Z1.out; have z2 := Z2.out; have z3 := Z3.out; have z4 := Z4.out; have z5 := Z5.out; have z6 := Z6.out; have z7 := Z7.out; have z8 := Z8.out; have z9 := Z9.out; have z10 := Z10.out; have z11 := Z11.out; have z12 := Z12.out; have z13 := Z13.out; have z14 := Z14.out; have z15 := Z15.out; have z16 := Z16.out; have z17 := Z17.out; have z18 := Z18.out; have z19 := Z19.out; have z20 := Z20.out; have z21 := Z21.out; have z22 := Z22.out; have z23 := Z23.out; have z24 := Z24.out; have z25 := Z25.out; omega))
        have HYI_25 := Lib.hid (HYI_24.out.only hk (by have z1 := Z1.out; have z2 := Z2.out; have z3 := Z3.out; have z4 := Z4.out; have z5 := Z5.out; have z6 := Z6.out; have z7 := Z7.out; have z8 := Z8.out; have z9 := Z9.out; have z10 := Z10.out; have z11 := Z11.out; have z12 := Z12.out; have z13 := Z13.out; have z14 := Z14.out; have z15 := Z15.out; have z16 := Z16.out; have z17 := Z17.out; have z18 := Z18.out; have z19 := Z19.out; have z20 := Z20.out; have z21 := Z21.out; have z22 := Z22.out; have z23 := Z23.out; have z24 := Z24.out; have z25 := Z25.out; omega))
        have HG_25 := Lib.hid (HG_24.out.keep hk (fun i h1 h2 => by have z1 := Z1.out; have z2 := Z2.out; have z3 := Z3.out; have z4 := Z4.out; have z5 := Z5.out; have z6 := Z6.out; have z7 := Z7.out; have z8 := Z8.out; have z9 := Z9.out; have z10 := Z10.out; have z11 := Z11.out; have z12 := Z12.out; have z13 := Z13.out; have z14 := Z14.out; have z15 := Z15.out; have z16 := Z16.out; have z17 := Z17.out; have z18 := Z18.out; have z19 := Z19.out; have z20 := Z20.out; have z21 := Z21.out; have z22 := Z22.out; have z23 := Z23.out; have z24 := Z24.out; have z25 := Z25.out; omega))
        clear HB_24 HV_24 HZ3_24 HYI_24 HG_24 hk
        obtain ⟨_, j0, j1, j2⟩ := HYI_25.out
        go_wp2_with fail
        clear j0 j1 j2
        refine (markItem_n _ z12 m1 w25 HZ3_25.out (HS12.out.fits HF3.out) hm1 hmm1).mono ?_
        rintro e w26 ⟨⟨m3, rfl, hm3⟩, hk⟩
        clear HZ3_25
        clear HYI_25
        have Z26 := Lib.hid hk.size
        have HB_26 := Lib.hid (HB_25.out.trans (hk.below HB_25.out.size (fun i hi => by have z1 := Z1.out; have z2 := Z2.out; have z3 := Z3.out; have z4 := Z4.out; have z5 := Z5.out; have z6 := Z6.out; have z7 := Z7.out; have z8 := Z8.out; have z9 := Z9.out; have z10 := Z10.out; have z11 := Z11.out; have z12 := Z12.out; have z13 := Z13.out; have z14 := Z14.out; have z15 := Z15.out; have z16 := Z16.out; have z17 := Z17.out; have z18 := Z18.out; have z19 := Z19.out; have z20 := Z20.out; have z21 := Z21.out; have z22 := Z22.out; have z23 := Z23.out; have z24 := Z24.out; have z25 := Z25.out; have z26 := Z26.out; omega)))
        have HV_26 := Lib.hid (HV_25.out.keep hk (fun i h1 h2 => by have z1 := Z1.out; have z2 := Z2.out; have z3 := Z3.out; have z4 := Z4.out; have z5 := Z5.out; have z6 := Z6.out; have z7 := Z7.out; have z8 := Z8.out; have z9 := Z9.out; have z10 := Z10.out; have z11 := Z11.out; have z12 := Z12.out; have z13 := Z13.out; have z14 := Z14.out; have z15 := Z15.out; have z16 := Z16.out; have z17 := Z17.out; have z18 := Z18.out; have z19 := Z19.out; have z20 := Z20.out; have z21 := Z21.out; have z22 := Z22.out; have z23 := Z23.out; have z24 := Z24.out; have z25 := Z25.out; have z26 := Z26.out; omega))
        have HG_26 := Lib.hid (HG_25.out.keep hk (fun i h1 h2 => by have z1 := Z1.out; have z2 := Z2.out; have z3 := Z3.out; have z4 := Z4.out; have z5 := Z5.out; have z6 := Z6.out; have z7 := Z7.out; have z8 := Z8.out; have z9 := Z9.out; have z10 := Z10.out; have z11 := Z11.out; have z12 := Z12.out; have z13 := Z13.out; have z14 := Z14.out; have z15 := Z15.out; have z16 := Z16.out; have z17 := Z17.out; have z18 := Z18.out; have z19 := Z19.out; have z20 := Z20.out; have z21 := Z21.out; have z22 := Z22.out; have z23 := Z23.out; have z24 := Z24.out; have z25 := Z25.out; have z26 := Z26.out; omega))
        clear HB_25 HV_25 HG_25 hk
        go_wp2_with fail
        refine (eqItemS_n G0 W0 d1 d0 (inF x xs r y).length lg lw HSG.out.len w26 (HSG.out.symm.trans HSW.out) HG_26.out.ims HV_26.out.ims (HSG.out.fits HVF.out)).mono ?_
        rintro e w27 ⟨rfl, hb⟩
        have Z27 := Lib.hid hb.size
        have HB_27 := Lib.hid (Below_next HB_26.out hb)
        have HV_27 := Lib.hid (HV_26.out.next hb)
        have HG_27 := Lib.hid (HG_26.out.next hb)
        clear HB_26 HV_26 HG_26 hb
        go_wp2_with fail
        refine (markItemS_m _ G0 d1 (inF x xs r y).length gg Gg lg _ 1 w27 rfl HSG.out.len HG_27.out (HSG.out.fits HVF.out) (by omega) (by omega)).mono ?_
        rintro e w28 ⟨rfl, ⟨lm, hmk, hog⟩, hk⟩
        have HMK := Lib.hid hmk
        clear hmk
        clear HG_27
        have Z28 := Lib.hid hk.size
        have HB_28 := Lib.hid (HB_27.out.trans (hk.below HB_27.out.size (fun i hi => by have z1 := Z1.out; have z2 := Z2.out; have z3 := Z3.out; have z4 := Z4.out; have z5 := Z5.out; have z6 := Z6.out; have z7 := Z7.out; have z8 := Z8.out; have z9 := Z9.out; have z10 := Z10.out; have z11 := Z11.out; have z12 := Z12.out; have z13 := Z13.out; have z14 := Z14.out; have z15 := Z15.out; have z16 := Z16.out; have z17 := Z17.out; have z18 := Z18.out; have z19 := Z19.out; have z20 := Z20.out; have z21 := Z21.out; have z22 := Z22.out; have z23 := Z23.out; have z24 := Z24.out; have z25 := Z25.out; have z26 := Z26.out; have z27 := Z27.out; have z28 := Z28.out; omega)))
        have HV_28 := Lib.hid (HV_27.out.keep hk (fun i h1 h2 => by have z1 := Z1.out; have z2 := Z2.out; have z3 := Z3.out; have z4 := Z4.out; have z5 := Z5.out; have z6 := Z6.out; have z7 := Z7.out; have z8 := Z8.out; have z9 := Z9.out; have z10 := Z10.out; have z11 := Z11.out; have z12 := Z12.out; have z13 := Z13.out; have z14 := Z14.out; have z15 := Z15.out; have z16 := Z16.out; have z17 := Z17.out; have z18 := Z18.out; have z19 := Z19.out; have z20 := Z20.out; have z21 := Z21.out; have z22 := Z22.out; have z23 := Z23.out; have z24 := Z24.out; have z25 := Z25.out; have z26 := Z26.out; have z27 := Z27.out; have z28 := Z28.out; omega))
        clear HB_27 HV_27 hk
        have HG_28 := Lib.hid (hog)
        clear hog
        go_wp2_with fail
        refine (heldItemS_m G0 d1 (inF x xs r y).length lg lm _ 1 w28 rfl HSG.out.len HMK.out HG_28.out.ims (HSG.out.fits HVF.out) (by omega) (by omega)).mono ?_
        rintro e w29 ⟨rfl, hb⟩
        have Z29 := Lib.hid hb.size
        have HB_29 := Lib.hid (Below_next HB_28.out hb)
        have HV_29 := Lib.hid (HV_28.out.next hb)
        have HG_29 := Lib.hid (HG_28.out.next hb)
        clear HB_28 HV_28 HG_28 hb
        go_wp2_with fail
        have hb := below_drew w29
        have Z30 := Lib.hid hb.size
        have HB_30 := Lib.hid (Below_next HB_29.out hb)
        have HV_30 := Lib.hid (HV_29.out.next hb)
        have HG_30 := Lib.hid (HG_29.out.next hb)
        clear HB_29 HV_29 HG_29 hb
        go_region_held3 (fun w' => w'.cell? ⟨w.heap.size, 0, none⟩ = some (.slice A x.els.length c) ∧ w'.cell? ⟨w.heap.size, 1, none⟩ = some (.slice L x.lims.length d) ∧ w'.cell? ⟨w.heap.size, 2, none⟩ = some (.int .i64 x.rep) ∧ w'.cell? ⟨w.heap.size, 3, none⟩ = some (.int .i64 x.bon) ∧ w'.cell? ⟨w.heap.size, 4, none⟩ = some (.int .i64 x.kee) ∧ w'.cell? ⟨w.heap.size, 5, none⟩ = some (.int .i64 x.fal) ∧ w'.cell? ⟨w.heap.size + 1, 0, none⟩ = some (.slice y.A y.ns.length y.c) ∧ w'.cell? ⟨w.heap.size + 1, 1, none⟩ = some (.slice y.L y.ms.length y.d) ∧ w'.cell? ⟨w.heap.size + 1, 2, none⟩ = some (.bool y.late))
          (first | exact HH.out _ HB_30.out | exact HH.out _ HB_31.out | exact HH.out _ HB_32.out | exact HH.out _ HB_33.out | exact HH.out _ HB_34.out)
          (first
            | (go_at_call 11; refine (toCode_any A L c d x _ (HR.out.below HB_30.out) HF0.out).mono ?_; rintro e w31 ⟨⟨ga31, gb31, rfl, hn⟩, hb⟩; have Z31 := Lib.hid hb.size; have HB_31 := Lib.hid (Below_next HB_30.out hb); have HV_31 := Lib.hid (HV_30.out.next hb); have HG_31 := Lib.hid (HG_30.out.next hb); have HN_31 := Lib.hid hn.at_; clear hb hn)
            | (go_at_call 12; refine (toItemS_c P1 c1 xs _ (HP1.out.next HB_31.out) HF1.out).mono ?_; rintro e w32 ⟨rfl, ⟨ys32, g32, G32, hs, ho⟩, hb⟩; have Z32 := Lib.hid hb.size; have HB_32 := Lib.hid (Below_next HB_31.out hb); have HV_32 := Lib.hid (HV_31.out.next hb); have HG_32 := Lib.hid (HG_31.out.next hb); have HN_32 := Lib.hid (HN_31.out.below hb); have HS32 := Lib.hid hs; have HIt1_32 := Lib.hid ho.ims; clear hb hs ho)
            | (go_at_call 13; refine (toItem_c y _ (HI3.out.next HB_32.out) HF3.out).mono ?_; rintro e w33 ⟨⟨z33, rfl, hs, hy⟩, hb⟩; have Z33 := Lib.hid hb.size; have HB_33 := Lib.hid (Below_next HB_32.out hb); have HV_33 := Lib.hid (HV_32.out.next hb); have HG_33 := Lib.hid (HG_32.out.next hb); have HN_33 := Lib.hid (HN_32.out.below hb); have HIt1_33 := Lib.hid (HIt1_32.out.next hb); have HS33 := Lib.hid hs; have HZt3_33 := Lib.hid hy; clear hb hs hy)
            | (go_at_call 14; refine (iInsertItem_n _ _ _ _ x _ _ _ xs ys32 HS32.out rfl r y z33 HS33.out _ HN_33.out HF0.out HIt1_33.out HF1.out ⟨Nat.le_refl _, by have := HF1.out.len; omega⟩ HZt3_33.out HF3.out (HT.out.next HB_33.out)).mono ?_; rintro e w34 ⟨⟨H0, d2, lh, gh, Gh, rfl, hsh, hoh⟩, hb⟩; have Z34 := Lib.hid hb.size; have HB_34 := Lib.hid (Below_next HB_33.out hb); have HV_34 := Lib.hid (HV_33.out.next hb); have HG_34 := Lib.hid (HG_33.out.next hb); have HSH := Lib.hid hsh; have HH_34 := Lib.hid hoh; clear hsh hoh;  clear hb)
            )
        clear HB_30 HB_31 HB_32 HB_33 HV_30 HV_31 HV_32 HV_33 HG_30 HG_31 HG_32 HG_33
        go_wp2_with fail
        refine (eqItemS_n H0 W0 d2 d0 (inF x xs r y).length lh lw HSH.out.len w34 (HSH.out.symm.trans HSW.out) HH_34.out.ims HV_34.out.ims (HSH.out.fits HVF.out)).mono ?_
        rintro e w35 ⟨rfl, hb⟩
        have Z35 := Lib.hid hb.size
        have HB_35 := Lib.hid (Below_next HB_34.out hb)
        have HV_35 := Lib.hid (HV_34.out.next hb)
        have HG_35 := Lib.hid (HG_34.out.next hb)
        have HH_35 := Lib.hid (HH_34.out.next hb)
        clear HB_34 HV_34 HG_34 HH_34 hb
        go_wp2_with fail
        refine (heldItemS_m G0 d1 (inF x xs r y).length lg lm _ 1 w35 rfl HSG.out.len HMK.out HG_35.out.ims (HSG.out.fits HVF.out) (by omega) (by omega)).mono ?_
        rintro e w36 ⟨rfl, hb⟩
        have Z36 := Lib.hid hb.size
        have HB_36 := Lib.hid (Below_next HB_35.out hb)
        have HV_36 := Lib.hid (HV_35.out.next hb)
        have HG_36 := Lib.hid (HG_35.out.next hb)
        have HH_36 := Lib.hid (HH_35.out.next hb)
        clear HB_35 HV_35 HG_35 HH_35 hb
        go_wp2
        go_ret
        exact ⟨rfl, Below_next HBW.out HB_36.out⟩
end Go.Proofs.YtnlcdfaojcnkpaaGreatDoor

/- The walk of the law ItemFamily. -/
import Derived.Test.YtejchpieokaplaaDoorBl
import Derived.Test.YtejchpieokaplaaDoorBm
import Derived.Test.YtejchpieokaplaaDoorBc
import Derived.Deep.RegionHeld3
namespace Go.Proofs.YtejchpieokaplaaDoor
open Go.ChangeShapes Go.WideShapes Go.ChangeAt Go.RowKit Go.PlainAid Go.Sort
set_option linter.unusedVariables false

theorem sItemFamily_n (A L : Option Addr) (c d : Nat) (x : Cd) (y z1 : Im) (hs1 : Same y z1) (w : World) (hr : CdAt w A L x) (hl : CdFits x) (hy1 : ImIn w w.heap.size z1) (hz1 : ItFits y) :
    Calls Tryd.prog 26 #[x.val A c L d, z1.val] w fun e w' => e = .returned (ifV x y) ∧ Below w.heap.size w w' := by
  rw [ifV_same (x := x) hs1]
  exact sItemFamily_any A L c d x z1 w hr hl hy1 (hs1.fits hz1)
theorem iItemFamily_n (A L : Option Addr) (c d : Nat) (x : Cd) (y z1 : Im) (hs1 : Same y z1) (w : World) (hr : CdAt w A L x) (hl : CdFits x) (hy1 : ImIn w w.heap.size z1) (hz1 : ItFits y) (ht : Tab w) :
    Calls Tryd.prog 28 #[x.val A c L d, z1.val] w fun e w' => e = .returned (ifV x y) ∧ Below w.heap.size w w' := by
  rw [ifV_same (x := x) hs1]
  exact iItemFamily_any A L c d x z1 w hr hl hy1 (hs1.fits hz1) ht

set_option maxHeartbeats 4000000 in
theorem walkItemFamily (A : Option Addr) (c : Nat) (L : Option Addr) (d : Nat) (x : Cd) (y : Im) (w : World) (hr : CdAt w A L x) (hl : CdLen x) (hy1 : ImIn w w.heap.size y) (hz1 : ItLen y) (ht : Tab w) :
    Calls Tryd.prog 5 #[x.val A c L d, y.val] w fun e w' => e = .returned (.bool true) ∧ Below w.heap.size w w' := by
  obtain ⟨p, q, hv⟩ := ifV_form x y
  have HV := Lib.hid hv
  clear hv
  obtain ⟨V, W, hV, hW, hBx, hX, hY, hsz⟩ := boxed2 25 45 w A c L d x y
  have HBW := Lib.hid hBx
  have HX := Lib.hid hX
  have HJ := Lib.hid hY
  have HR := Lib.hid (hr.below hBx)
  have HT := Lib.hid (ht.next hBx)
  have HL := Lib.hid hl
  have HI1 := Lib.hid (hy1.next hBx)
  have HQ1 := Lib.hid hz1
  clear hy1 hz1
  have HH := Lib.hid (fun (w' : World) (hb : Below W.heap.size W w') => two_boxes HX.out HJ.out hb)
  clear hr hl ht hBx hX hY hsz
  unfold boxCd at hV
  unfold boxIm at hW
  unfold Cd.val Im.val
  have HB_0 := Lib.hid (Below.refl W.heap.size W)
  go_enter Tryd.func5, Tryd.ntmps5
  go_wp2_with fail
  rw [← hV, ← hW]
  clear hV hW
  refine (szCode_any A L c d x W (HR.out.below HB_0.out) HL.out).mono ?_
  rintro e w1 ⟨⟨q0, rfl, hq⟩, hb⟩
  have Z1 := Lib.hid hb.size
  have HB_1 := Lib.hid (Below_next HB_0.out hb)
  clear HB_0 hb
  rcases hq with hq | ⟨hq00, hq10, HF0⟩
  · go_wp2
    go_ret
    exact ⟨rfl, Below_next HBW.out HB_1.out⟩
  · have hq10 : q0 ≤ 1048576 := by omega
    obtain ⟨_, j0, j1, j2⟩ := (HJ.out.next HB_1.out)
    go_wp2_with fail
    clear j0 j1 j2
    refine (szItem_any y _ w1 (HI1.out.next HB_1.out) HQ1.out hq00 hq10).mono ?_
    rintro e w2 ⟨⟨q1, rfl, hq⟩, hb⟩
    have Z2 := Lib.hid hb.size
    have HB_2 := Lib.hid (Below_next HB_1.out hb)
    clear HB_1 hb
    rcases hq with hq | ⟨hq01, hq11, HF1⟩
    · go_wp2
      go_ret
      exact ⟨rfl, Below_next HBW.out HB_2.out⟩
    · have hq11 : q1 ≤ 1048576 := by omega
      go_wp2_with fail
      have hb := below_drew w2
      have Z3 := Lib.hid hb.size
      have HB_3 := Lib.hid (Below_next HB_2.out hb)
      clear HB_2 hb
      go_region_held3 (fun w' => w'.cell? ⟨w.heap.size, 0, none⟩ = some (.slice A x.els.length c) ∧ w'.cell? ⟨w.heap.size, 1, none⟩ = some (.slice L x.lims.length d) ∧ w'.cell? ⟨w.heap.size, 2, none⟩ = some (.int .i64 x.rep) ∧ w'.cell? ⟨w.heap.size, 3, none⟩ = some (.int .i64 x.bon) ∧ w'.cell? ⟨w.heap.size, 4, none⟩ = some (.int .i64 x.kee) ∧ w'.cell? ⟨w.heap.size, 5, none⟩ = some (.int .i64 x.fal) ∧ w'.cell? ⟨w.heap.size + 1, 0, none⟩ = some (.slice y.A y.ns.length y.c) ∧ w'.cell? ⟨w.heap.size + 1, 1, none⟩ = some (.slice y.L y.ms.length y.d) ∧ w'.cell? ⟨w.heap.size + 1, 2, none⟩ = some (.bool y.late))
        (first | exact HH.out _ HB_3.out | exact HH.out _ HB_4.out | exact HH.out _ HB_5.out | exact HH.out _ HB_6.out)
        (first
          | (go_at_call 17; refine (toCode_any A L c d x _ (HR.out.below HB_3.out) HF0.out).mono ?_; rintro e w4 ⟨⟨ga4, gb4, rfl, hn⟩, hb⟩; have Z4 := Lib.hid hb.size; have HB_4 := Lib.hid (Below_next HB_3.out hb); have HN_4 := Lib.hid hn.at_; clear hb hn)
          | (go_at_call 27; refine (toItem_c y _ (HI1.out.next HB_4.out) HF1.out).mono ?_; rintro e w5 ⟨⟨z5, rfl, hs, hy⟩, hb⟩; have Z5 := Lib.hid hb.size; have HB_5 := Lib.hid (Below_next HB_4.out hb); have HN_5 := Lib.hid (HN_4.out.below hb); have HS5 := Lib.hid hs; have HZt1_5 := Lib.hid hy; clear hb hs hy)
          | (go_at_call 26; refine (sItemFamily_n _ _ _ _ x y z5 HS5.out _ HN_5.out HF0.out HZt1_5.out HF1.out).mono ?_; rintro e w6 ⟨he, hb⟩; have Z6 := Lib.hid hb.size; have HB_6 := Lib.hid (Below_next HB_5.out hb); rw [HV.out] at he; subst he;  clear hb)
          )
      clear HB_3 HB_4 HB_5
      obtain ⟨c0, c1, c2, c3, c4, c5⟩ := (HX.out.next HB_6.out).box
      go_wp2_with fail
      clear c0 c1 c2 c3 c4 c5
      refine (toCode_any A L c d x w6 (HR.out.below HB_6.out) HF0.out).mono ?_
      rintro e w7 ⟨⟨ga7, gb7, rfl, hn⟩, hb⟩
      have Z7 := Lib.hid hb.size
      have HB_7 := Lib.hid (Below_next HB_6.out hb)
      clear HB_6 hb
      have HN_7 := Lib.hid (hn.at_)
      have HC_7 := Lib.hid (hn.own)
      have hne := hn.ne
      have hge1 := hn.le1
      have hge2 := hn.le2
      have hlt1 := hn.lt1
      have hlt2 := hn.lt2
      clear hn
      obtain ⟨w8, hW, hB⟩ := boxed 31 w7 (some ⟨ga7, 0, none⟩) x.els.length (some ⟨gb7, 0, none⟩) x.lims.length x
      have hb := hB.below
      have Z8 := Lib.hid hb.size
      have HB_8 := Lib.hid (Below_next HB_7.out hb)
      have HN_8 := Lib.hid (HN_7.out.below hb)
      have HC_8 := Lib.hid (HC_7.out.keepB hb)
      clear HB_7 HN_7 HC_7 hb
      have HY_8 := Lib.hid (hB.at_)
      clear hB
      unfold boxCd at hW
      obtain ⟨_, j0, j1, j2⟩ := (HJ.out.next HB_8.out)
      rw [hW] at j0 j1 j2
      go_wp2_with fail
      rw [← hW]
      clear hW j0 j1 j2
      refine (toItem_c y w8 (HI1.out.next HB_8.out) HF1.out).mono ?_
      rintro e w9 ⟨⟨z9, rfl, hs, hy⟩, hb⟩
      have Z9 := Lib.hid hb.size
      have HB_9 := Lib.hid (Below_next HB_8.out hb)
      have HN_9 := Lib.hid (HN_8.out.below hb)
      have HC_9 := Lib.hid (HC_8.out.keepB hb)
      have HY_9 := Lib.hid (HY_8.out.next hb)
      clear HB_8 HN_8 HC_8 HY_8 hb
      have HS9 := Lib.hid hs
      have HZ1_9 := Lib.hid (hy)
      clear hs hy
      obtain ⟨w10, hW, hB⟩ := boxedI 48 w9 z9
      have hb := hB.below
      have Z10 := Lib.hid hb.size
      have HB_10 := Lib.hid (Below_next HB_9.out hb)
      have HN_10 := Lib.hid (HN_9.out.below hb)
      have HC_10 := Lib.hid (HC_9.out.keepB hb)
      have HY_10 := Lib.hid (HY_9.out.next hb)
      have HZ1_10 := Lib.hid (HZ1_9.out.next hb)
      clear HB_9 HN_9 HC_9 HY_9 HZ1_9 hb
      have HYI_10 := Lib.hid (hB.box)
      clear hB
      unfold boxIm at hW
      obtain ⟨c0, c1, c2, c3, c4, c5⟩ := HY_10.out.box
      obtain ⟨_, j0, j1, j2⟩ := HYI_10.out
      rw [hW] at c0 c1 c2 c3 c4 c5 j0 j1 j2
      go_wp2_with fail
      rw [← hW]
      clear hW c0 c1 c2 c3 c4 c5 j0 j1 j2
      refine (iItemFamily_n _ _ _ _ x y z9 HS9.out w10 HN_10.out HF0.out HZ1_10.out HF1.out (HT.out.next HB_10.out)).mono ?_
      rintro e w11 ⟨he, hb⟩
      have Z11 := Lib.hid hb.size
      have HB_11 := Lib.hid (Below_next HB_10.out hb)
      have HN_11 := Lib.hid (HN_10.out.below hb)
      have HC_11 := Lib.hid (HC_10.out.keepB hb)
      have HY_11 := Lib.hid (HY_10.out.next hb)
      have HZ1_11 := Lib.hid (HZ1_10.out.next hb)
      have HYI_11 := Lib.hid (HYI_10.out.next hb)
      clear HB_10 HN_10 HC_10 HY_10 HZ1_10 HYI_10 hb
      rw [HV.out] at he
      subst he
      go_wp2_with fail
      have hb := below_drewn w11
      have Z12 := Lib.hid hb.size
      have HB_12 := Lib.hid (Below_next HB_11.out hb)
      have HN_12 := Lib.hid (HN_11.out.below hb)
      have HC_12 := Lib.hid (HC_11.out.keepB hb)
      have HY_12 := Lib.hid (HY_11.out.next hb)
      have HZ1_12 := Lib.hid (HZ1_11.out.next hb)
      have HYI_12 := Lib.hid (HYI_11.out.next hb)
      clear HB_11 HN_11 HC_11 HY_11 HZ1_11 HYI_11 hb
      go_region_held3 (fun w' => w'.cell? ⟨w.heap.size, 0, none⟩ = some (.slice A x.els.length c) ∧ w'.cell? ⟨w.heap.size, 1, none⟩ = some (.slice L x.lims.length d) ∧ w'.cell? ⟨w.heap.size, 2, none⟩ = some (.int .i64 x.rep) ∧ w'.cell? ⟨w.heap.size, 3, none⟩ = some (.int .i64 x.bon) ∧ w'.cell? ⟨w.heap.size, 4, none⟩ = some (.int .i64 x.kee) ∧ w'.cell? ⟨w.heap.size, 5, none⟩ = some (.int .i64 x.fal) ∧ w'.cell? ⟨w7.heap.size, 0, none⟩ = some (.slice (some ⟨ga7, 0, none⟩) x.els.length x.els.length) ∧ w'.cell? ⟨w7.heap.size, 1, none⟩ = some (.slice (some ⟨gb7, 0, none⟩) x.lims.length x.lims.length) ∧ w'.cell? ⟨w7.heap.size, 2, none⟩ = some (.int .i64 x.rep) ∧ w'.cell? ⟨w7.heap.size, 3, none⟩ = some (.int .i64 x.bon) ∧ w'.cell? ⟨w7.heap.size, 4, none⟩ = some (.int .i64 x.kee) ∧ w'.cell? ⟨w7.heap.size, 5, none⟩ = some (.int .i64 x.fal))
        (first | exact box2 (HX.out.next HB_12.out) HY_12.out | exact box2 (HX.out.next HB_13.out) HY_13.out | exact box2 (HX.out.next HB_14.out) HY_14.out)
        (first
          | (go_at_call 17; refine (toCode_any A L c d x _ (HR.out.below HB_12.out) HF0.out).mono ?_; rintro e w13 ⟨⟨ga13, gb13, rfl, hn⟩, hb⟩; have Z13 := Lib.hid hb.size; have HB_13 := Lib.hid (Below_next HB_12.out hb); have HN_13 := Lib.hid (HN_12.out.below hb); have HC_13 := Lib.hid (HC_12.out.keepB hb); have HY_13 := Lib.hid (HY_12.out.next hb); have HZ1_13 := Lib.hid (HZ1_12.out.next hb); have HYI_13 := Lib.hid (HYI_12.out.next hb); have HM13 := Lib.hid hn.at_; clear hb hn)
          | (go_at_call 19; refine (eqCode_yes _ _ _ _ _ _ _ _ x _ HN_13.out HM13.out HF0.out).mono ?_; rintro e w14 ⟨rfl, hb⟩; have Z14 := Lib.hid hb.size; have HB_14 := Lib.hid (Below_next HB_13.out hb); have HN_14 := Lib.hid (HN_13.out.below hb); have HC_14 := Lib.hid (HC_13.out.keepB hb); have HY_14 := Lib.hid (HY_13.out.next hb); have HZ1_14 := Lib.hid (HZ1_13.out.next hb); have HYI_14 := Lib.hid (HYI_13.out.next hb); clear hb)
          )
      clear HM13 HB_12 HB_13 HN_12 HN_13 HC_12 HC_13 HY_12 HY_13 HZ1_12 HZ1_13 HYI_12 HYI_13
      go_wp2_with fail
      have hb := below_drew w14
      have Z15 := Lib.hid hb.size
      have HB_15 := Lib.hid (Below_next HB_14.out hb)
      have HN_15 := Lib.hid (HN_14.out.below hb)
      have HC_15 := Lib.hid (HC_14.out.keepB hb)
      have HY_15 := Lib.hid (HY_14.out.next hb)
      have HZ1_15 := Lib.hid (HZ1_14.out.next hb)
      have HYI_15 := Lib.hid (HYI_14.out.next hb)
      clear HB_14 HN_14 HC_14 HY_14 HZ1_14 HYI_14 hb
      go_region_held3 (fun w' => w'.cell? ⟨w.heap.size + 1, 0, none⟩ = some (.slice y.A y.ns.length y.c) ∧ w'.cell? ⟨w.heap.size + 1, 1, none⟩ = some (.slice y.L y.ms.length y.d) ∧ w'.cell? ⟨w.heap.size + 1, 2, none⟩ = some (.bool y.late) ∧ w'.cell? ⟨w9.heap.size, 0, none⟩ = some (.slice z9.A z9.ns.length z9.c) ∧ w'.cell? ⟨w9.heap.size, 1, none⟩ = some (.slice z9.L z9.ms.length z9.d) ∧ w'.cell? ⟨w9.heap.size, 2, none⟩ = some (.bool z9.late))
        (first | exact imBox2 (HJ.out.next HB_15.out) HYI_15.out | exact imBox2 (HJ.out.next HB_16.out) HYI_16.out | exact imBox2 (HJ.out.next HB_17.out) HYI_17.out)
        (first
          | (go_at_call 27; refine (toItem_c y _ (HI1.out.next HB_15.out) HF1.out).mono ?_; rintro e w16 ⟨⟨zz, rfl, hs, hy⟩, hb⟩; have Z16 := Lib.hid hb.size; have HB_16 := Lib.hid (Below_next HB_15.out hb); have HN_16 := Lib.hid (HN_15.out.below hb); have HC_16 := Lib.hid (HC_15.out.keepB hb); have HY_16 := Lib.hid (HY_15.out.next hb); have HZ1_16 := Lib.hid (HZ1_15.out.next hb); have HYI_16 := Lib.hid (HYI_15.out.next hb); have HQQ := Lib.hid hs; have HYY := Lib.hid hy; clear hb hs hy)
          | (go_at_call 29; refine (eqItem_yes z9 zz _ (HS9.out.symm.trans HQQ.out) HZ1_16.out HYY.out (HS9.out.fits HF1.out)).mono ?_; rintro e w17 ⟨rfl, hb⟩; have Z17 := Lib.hid hb.size; have HB_17 := Lib.hid (Below_next HB_16.out hb); have HN_17 := Lib.hid (HN_16.out.below hb); have HC_17 := Lib.hid (HC_16.out.keepB hb); have HY_17 := Lib.hid (HY_16.out.next hb); have HZ1_17 := Lib.hid (HZ1_16.out.next hb); have HYI_17 := Lib.hid (HYI_16.out.next hb); clear hb)
          )
      clear HQQ HYY HB_15 HB_16 HN_15 HN_16 HC_15 HC_16 HY_15 HY_16 HZ1_15 HZ1_16 HYI_15 HYI_16
      go_wp2
      go_ret
      exact ⟨rfl, Below_next HBW.out HB_17.out⟩
end Go.Proofs.YtejchpieokaplaaDoor

/- The walk of the law BestNames. -/
import Derived.Test.YtocjkhfghldnnaaDoorBq
import Derived.Test.YtocjkhfghldnnaaDoorCdL1
import Derived.Test.YtocjkhfghldnnaaDoorCdM
import Derived.Deep.RegionHeld3
namespace Go.Proofs.YtocjkhfghldnnaaDoor
open Go.ChangeShapes Go.WideShapes Go.ChangeAt Go.RowKit Go.PlainAid Go.Sort
set_option linter.unusedVariables false

theorem sBestNames_n (A L : Option Addr) (c d : Nat) (x : Cd) (n : Int) (w : World) (hr : CdAt w A L x) (hl : CdFits x) :
    Calls Tryd.prog 12 #[x.val A c L d, .int .i64 n] w fun e w' => (∃ R d, e = .returned (.tuple #[.slice R (bnF x n).length d, .bool (pB (BnOk x n))]) ∧ Owned (fun i => w.heap.size ≤ i ∧ i < w'.heap.size) w' R (bnF x n)) ∧ Below w.heap.size w w' := by
  exact sBestNames_any A L c d x n w hr hl
theorem iBestNames_n (A L : Option Addr) (c d : Nat) (x : Cd) (n : Int) (w : World) (hr : CdAt w A L x) (hl : CdFits x) (ht : Tab w) :
    Calls Tryd.prog 13 #[x.val A c L d, .int .i64 n] w fun e w' => (∃ R d, e = .returned (.tuple #[.slice R (bnF x n).length d, .bool (pB (BnOk x n))]) ∧ Owned (fun i => w.heap.size ≤ i ∧ i < w'.heap.size) w' R (bnF x n)) ∧ Below w.heap.size w w' := by
  exact iBestNames_any A L c d x n w hr hl ht

set_option maxHeartbeats 4000000 in
theorem walkBestNames (A : Option Addr) (c : Nat) (L : Option Addr) (d : Nat) (x : Cd) (n : Int) (w : World) (hr : CdAt w A L x) (hl : CdLen x) (hw1 : (Lit.int .i64 n).wf = true) (ht : Tab w) :
    Calls Tryd.prog 4 #[x.val A c L d, .int .i64 n] w fun e w' => e = .returned (.bool true) ∧ Below w.heap.size w w' := by
  obtain ⟨W, hW, hBx⟩ := boxed 25 w A c L d x
  have HBW := Lib.hid hBx.below
  have HX := Lib.hid hBx.at_
  have HR := Lib.hid (hr.below hBx.below)
  have HT := Lib.hid (ht.next hBx.below)
  have HL := Lib.hid hl
  clear hr hl ht hBx
  unfold boxCd at hW
  unfold Cd.val
  have HB_0 := Lib.hid (Below.refl W.heap.size W)
  go_enter Tryd.func4, Tryd.ntmps4
  go_wp2_with fail
  rw [← hW]
  clear hW
  refine (szCode_any A L c d x W (HR.out.below HB_0.out) HL.out).mono ?_
  rintro e w1 ⟨⟨q0, rfl, hq⟩, hb⟩
  have Z1 := Lib.hid hb.size
  have HB_1 := Lib.hid (Below_next HB_0.out hb)
  clear HB_0 hb
  rcases hq with hq | ⟨hq00, hq10, HF0⟩
  · go_wp2
    go_ret
    exact ⟨rfl, Below_next HBW.out HB_1.out⟩
  · have hq10 : q0 ≤ 1048576 := by omega
    have HVL := Lib.hid (bnF_len x n)
    obtain ⟨c0, c1, c2, c3, c4, c5⟩ := (HX.out.next HB_1.out).box
    go_wp2_with fail
    clear c0 c1 c2 c3 c4 c5
    refine (toCode_any A L c d x w1 (HR.out.below HB_1.out) HF0.out).mono ?_
    rintro e w2 ⟨⟨ga2, gb2, rfl, hn⟩, hb⟩
    have Z2 := Lib.hid hb.size
    have HB_2 := Lib.hid (Below_next HB_1.out hb)
    clear HB_1 hb
    have HN_2 := Lib.hid (hn.at_)
    clear hn
    go_wp2_with fail
    refine (sBestNames_n _ _ _ _ x n w2 HN_2.out HF0.out).mono ?_
    rintro e w3 ⟨⟨W0, d0, rfl, how⟩, hb⟩
    have Z3 := Lib.hid hb.size
    have HB_3 := Lib.hid (Below_next HB_2.out hb)
    have HN_3 := Lib.hid (HN_2.out.below hb)
    clear HB_2 HN_2 hb
    have HV_3 := Lib.hid (how)
    clear how
    clear HN_3
    obtain ⟨c0, c1, c2, c3, c4, c5⟩ := (HX.out.next HB_3.out).box
    go_wp2_with fail
    clear c0 c1 c2 c3 c4 c5
    refine (toCode_any A L c d x w3 (HR.out.below HB_3.out) HF0.out).mono ?_
    rintro e w4 ⟨⟨ga4, gb4, rfl, hn⟩, hb⟩
    have Z4 := Lib.hid hb.size
    have HB_4 := Lib.hid (Below_next HB_3.out hb)
    have HV_4 := Lib.hid (HV_3.out.keepB hb)
    clear HB_3 HV_3 hb
    have HN_4 := Lib.hid (hn.at_)
    have HC_4 := Lib.hid (hn.own)
    have hne := hn.ne
    have hge1 := hn.le1
    have hge2 := hn.le2
    have hlt1 := hn.lt1
    have hlt2 := hn.lt2
    clear hn
    obtain ⟨w5, hW, hB⟩ := boxed 31 w4 (some ⟨ga4, 0, none⟩) x.els.length (some ⟨gb4, 0, none⟩) x.lims.length x
    have hb := hB.below
    have Z5 := Lib.hid hb.size
    have HB_5 := Lib.hid (Below_next HB_4.out hb)
    have HV_5 := Lib.hid (HV_4.out.keepB hb)
    have HN_5 := Lib.hid (HN_4.out.below hb)
    have HC_5 := Lib.hid (HC_4.out.keepB hb)
    clear HB_4 HV_4 HN_4 HC_4 hb
    have HY_5 := Lib.hid (hB.at_)
    clear hB
    unfold boxCd at hW
    go_wp2_with fail
    rw [← hW]
    clear hW
    refine (iBestNames_n _ _ _ _ x n w5 HN_5.out HF0.out (HT.out.next HB_5.out)).mono ?_
    rintro e w6 ⟨⟨G0, d1, rfl, hog⟩, hb⟩
    have Z6 := Lib.hid hb.size
    have HB_6 := Lib.hid (Below_next HB_5.out hb)
    have HV_6 := Lib.hid (HV_5.out.keepB hb)
    have HN_6 := Lib.hid (HN_5.out.below hb)
    have HC_6 := Lib.hid (HC_5.out.keepB hb)
    have HY_6 := Lib.hid (HY_5.out.next hb)
    clear HB_5 HV_5 HN_5 HC_5 HY_5 hb
    have HG_6 := Lib.hid (hog)
    clear hog
    go_wp2_with fail
    refine (eqIntS_b G0 W0 d1 d0 (bnF x n) w6 HG_6.out.lst HV_6.out.lst HVL.out).mono ?_
    rintro e w7 ⟨rfl, hb⟩
    have Z7 := Lib.hid hb.size
    have HB_7 := Lib.hid (Below_next HB_6.out hb)
    have HV_7 := Lib.hid (HV_6.out.keepB hb)
    have HN_7 := Lib.hid (HN_6.out.below hb)
    have HC_7 := Lib.hid (HC_6.out.keepB hb)
    have HY_7 := Lib.hid (HY_6.out.next hb)
    have HG_7 := Lib.hid (HG_6.out.keepB hb)
    clear HB_6 HV_6 HN_6 HC_6 HY_6 HG_6 hb
    go_wp2_with fail
    have hb := below_drewn w7
    have Z8 := Lib.hid hb.size
    have HB_8 := Lib.hid (Below_next HB_7.out hb)
    have HV_8 := Lib.hid (HV_7.out.keepB hb)
    have HN_8 := Lib.hid (HN_7.out.below hb)
    have HC_8 := Lib.hid (HC_7.out.keepB hb)
    have HY_8 := Lib.hid (HY_7.out.next hb)
    have HG_8 := Lib.hid (HG_7.out.keepB hb)
    clear HB_7 HV_7 HN_7 HC_7 HY_7 HG_7 hb
    go_region_held3 (fun w' => w'.cell? ⟨w.heap.size, 0, none⟩ = some (.slice A x.els.length c) ∧ w'.cell? ⟨w.heap.size, 1, none⟩ = some (.slice L x.lims.length d) ∧ w'.cell? ⟨w.heap.size, 2, none⟩ = some (.int .i64 x.rep) ∧ w'.cell? ⟨w.heap.size, 3, none⟩ = some (.int .i64 x.bon) ∧ w'.cell? ⟨w.heap.size, 4, none⟩ = some (.int .i64 x.kee) ∧ w'.cell? ⟨w.heap.size, 5, none⟩ = some (.int .i64 x.fal) ∧ w'.cell? ⟨w4.heap.size, 0, none⟩ = some (.slice (some ⟨ga4, 0, none⟩) x.els.length x.els.length) ∧ w'.cell? ⟨w4.heap.size, 1, none⟩ = some (.slice (some ⟨gb4, 0, none⟩) x.lims.length x.lims.length) ∧ w'.cell? ⟨w4.heap.size, 2, none⟩ = some (.int .i64 x.rep) ∧ w'.cell? ⟨w4.heap.size, 3, none⟩ = some (.int .i64 x.bon) ∧ w'.cell? ⟨w4.heap.size, 4, none⟩ = some (.int .i64 x.kee) ∧ w'.cell? ⟨w4.heap.size, 5, none⟩ = some (.int .i64 x.fal))
      (first | exact box2 (HX.out.next HB_8.out) HY_8.out | exact box2 (HX.out.next HB_9.out) HY_9.out | exact box2 (HX.out.next HB_10.out) HY_10.out)
      (first
        | (go_at_call 9; refine (toCode_any A L c d x _ (HR.out.below HB_8.out) HF0.out).mono ?_; rintro e w9 ⟨⟨ga9, gb9, rfl, hn⟩, hb⟩; have Z9 := Lib.hid hb.size; have HB_9 := Lib.hid (Below_next HB_8.out hb); have HV_9 := Lib.hid (HV_8.out.keepB hb); have HN_9 := Lib.hid (HN_8.out.below hb); have HC_9 := Lib.hid (HC_8.out.keepB hb); have HY_9 := Lib.hid (HY_8.out.next hb); have HG_9 := Lib.hid (HG_8.out.keepB hb); have HM9 := Lib.hid hn.at_; clear hb hn)
        | (go_at_call 11; refine (eqCode_yes _ _ _ _ _ _ _ _ x _ HN_9.out HM9.out HF0.out).mono ?_; rintro e w10 ⟨rfl, hb⟩; have Z10 := Lib.hid hb.size; have HB_10 := Lib.hid (Below_next HB_9.out hb); have HV_10 := Lib.hid (HV_9.out.keepB hb); have HN_10 := Lib.hid (HN_9.out.below hb); have HC_10 := Lib.hid (HC_9.out.keepB hb); have HY_10 := Lib.hid (HY_9.out.next hb); have HG_10 := Lib.hid (HG_9.out.keepB hb); clear hb)
        )
    clear HM9 HB_8 HB_9 HV_8 HV_9 HN_8 HN_9 HC_8 HC_9 HY_8 HY_9 HG_8 HG_9
    obtain ⟨c0, c1, c2, c3, c4, c5⟩ := HY_10.out.box
    go_wp2_with fail
    clear c0 c1 c2 c3 c4 c5
    clear HN_10
    refine (markCode_any ga4 gb4 _ _ _ _ x _ HC_10.out hne HF0.out).mono ?_
    rintro e w11 ⟨rfl, _, hk⟩
    clear HC_10
    clear HY_10
    have Z11 := Lib.hid hk.size
    have HB_11 := Lib.hid (HB_10.out.trans (hk.below HB_10.out.size (fun i hi => by have z1 := Z1.out; have z2 := Z2.out; have z3 := Z3.out; have z4 := Z4.out; have z5 := Z5.out; have z6 := Z6.out; have z7 := Z7.out; have z8 := Z8.out; have z9 := Z9.out; have z10 := Z10.out; have z11 := Z11.out; omega)))
    have HV_11 := Lib.hid (HV_10.out.keep hk (fun i h1 h2 => by have z1 := Z1.out; have z2 := Z2.out; have z3 := Z3.out; have z4 := Z4.out; have z5 := Z5.out; have z6 := Z6.out; have z7 := Z7.out; have z8 := Z8.out; have z9 := Z9.out; have z10 := Z10.out; have z11 := Z11.out; omega))
    have HG_11 := Lib.hid (HG_10.out.keep hk (fun i h1 h2 => by have z1 := Z1.out; have z2 := Z2.out; have z3 := Z3.out; have z4 := Z4.out; have z5 := Z5.out; have z6 := Z6.out; have z7 := Z7.out; have z8 := Z8.out; have z9 := Z9.out; have z10 := Z10.out; have z11 := Z11.out; omega))
    clear HB_10 HV_10 HG_10 hk
    go_wp2_with fail
    refine (eqIntS_b G0 W0 d1 d0 (bnF x n) w11 HG_11.out.lst HV_11.out.lst HVL.out).mono ?_
    rintro e w12 ⟨rfl, hb⟩
    have Z12 := Lib.hid hb.size
    have HB_12 := Lib.hid (Below_next HB_11.out hb)
    have HV_12 := Lib.hid (HV_11.out.keepB hb)
    have HG_12 := Lib.hid (HG_11.out.keepB hb)
    clear HB_11 HV_11 HG_11 hb
    go_wp2_with fail
    refine (markIntS_any _ G0 d1 (bnF x n) 1 w12 HG_12.out HVL.out (by omega) (by omega)).mono ?_
    rintro e w13 ⟨rfl, hog, hk⟩
    clear HG_12
    have Z13 := Lib.hid hk.size
    have HB_13 := Lib.hid (HB_12.out.trans (hk.below HB_12.out.size (fun i hi => by have z1 := Z1.out; have z2 := Z2.out; have z3 := Z3.out; have z4 := Z4.out; have z5 := Z5.out; have z6 := Z6.out; have z7 := Z7.out; have z8 := Z8.out; have z9 := Z9.out; have z10 := Z10.out; have z11 := Z11.out; have z12 := Z12.out; have z13 := Z13.out; omega)))
    have HV_13 := Lib.hid (HV_12.out.keep hk (fun i h1 h2 => by have z1 := Z1.out; have z2 := Z2.out; have z3 := Z3.out; have z4 := Z4.out; have z5 := Z5.out; have z6 := Z6.out; have z7 := Z7.out; have z8 := Z8.out; have z9 := Z9.out; have z10 := Z10.out; have z11 := Z11.out; have z12 := Z12.out; have z13 := Z13.out; omega))
    clear HB_12 HV_12 hk
    have HG_13 := Lib.hid (hog)
    clear hog
    go_wp2_with fail
    refine (heldIntS_any G0 d1 (bnF x n).length 1 w13 _ HG_13.out.lst HVL.out (by omega) (by omega)).mono ?_
    rintro e w' ⟨rfl, hw⟩
    obtain rfl := hw.symm
    obtain ⟨c0, c1, c2, c3, c4, c5⟩ := (HX.out.next HB_13.out).box
    go_wp2_with fail
    clear c0 c1 c2 c3 c4 c5
    refine (toCode_any A L c d x w13 (HR.out.below HB_13.out) HF0.out).mono ?_
    rintro e w14 ⟨⟨ga14, gb14, rfl, hn⟩, hb⟩
    have Z14 := Lib.hid hb.size
    have HB_14 := Lib.hid (Below_next HB_13.out hb)
    have HV_14 := Lib.hid (HV_13.out.keepB hb)
    have HG_14 := Lib.hid (HG_13.out.keepB hb)
    clear HB_13 HV_13 HG_13 hb
    have HN_14 := Lib.hid (hn.at_)
    clear hn
    go_wp2_with fail
    refine (iBestNames_n _ _ _ _ x n w14 HN_14.out HF0.out (HT.out.next HB_14.out)).mono ?_
    rintro e w15 ⟨⟨H0, d2, rfl, hoh⟩, hb⟩
    have Z15 := Lib.hid hb.size
    have HB_15 := Lib.hid (Below_next HB_14.out hb)
    have HV_15 := Lib.hid (HV_14.out.keepB hb)
    have HG_15 := Lib.hid (HG_14.out.keepB hb)
    have HN_15 := Lib.hid (HN_14.out.below hb)
    clear HB_14 HV_14 HG_14 HN_14 hb
    have HH_15 := Lib.hid (hoh)
    clear hoh
    clear HN_15
    go_wp2_with fail
    refine (eqIntS_b H0 W0 d2 d0 (bnF x n) w15 HH_15.out.lst HV_15.out.lst HVL.out).mono ?_
    rintro e w16 ⟨rfl, hb⟩
    have Z16 := Lib.hid hb.size
    have HB_16 := Lib.hid (Below_next HB_15.out hb)
    have HV_16 := Lib.hid (HV_15.out.keepB hb)
    have HG_16 := Lib.hid (HG_15.out.keepB hb)
    have HH_16 := Lib.hid (HH_15.out.keepB hb)
    clear HB_15 HV_15 HG_15 HH_15 hb
    go_wp2_with fail
    refine (heldIntS_any G0 d1 (bnF x n).length 1 w16 _ HG_16.out.lst HVL.out (by omega) (by omega)).mono ?_
    rintro e w' ⟨rfl, hw⟩
    obtain rfl := hw.symm
    go_wp2
    go_ret
    exact ⟨rfl, Below_next HBW.out HB_16.out⟩
end Go.Proofs.YtocjkhfghldnnaaDoor

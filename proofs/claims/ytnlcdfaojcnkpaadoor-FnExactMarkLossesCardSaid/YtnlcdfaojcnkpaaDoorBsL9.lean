/- The walk of the law MarkLosses. -/
import Derived.Test.YtnlcdfaojcnkpaaDoorBn
import Derived.Test.YtnlcdfaojcnkpaaDoorBc
import Derived.Deep.RegionHeld3
namespace Go.Proofs.YtnlcdfaojcnkpaaDoor
open Go.ChangeShapes Go.WideShapes Go.ChangeAt Go.RowKit Go.PlainAid Go.Sort
set_option linter.unusedVariables false

theorem sMarkLosses_n (A L : Option Addr) (c d : Nat) (x : Cd) (P1 : Option Addr) (c1 n1 : Nat) (xs ys1 : List Im) (hs1 : SameS xs ys1) (hn1 : xs.length = n1) (w : World) (hr : CdAt w A L x) (hl : CdFits x) (hp1 : Ims w w.heap.size P1 ys1) (hq1 : ImsFits xs) (hc1 : n1 ≤ c1 ∧ c1 ≤ 9223372036854775807) :
    Calls Tryd.prog 17 #[x.val A c L d, .slice P1 n1 c1] w fun e w' => (∃ R d, e = .returned (.tuple #[.slice R (blF x xs).length d, .bool (pB (BsOk x xs))]) ∧ Owned (fun i => w.heap.size ≤ i ∧ i < w'.heap.size) w' R (blF x xs)) ∧ Below w.heap.size w w' := by
  subst hn1
  rw [← hs1.len, blF_same (x := x) hs1, bsQ_same (x := x) hs1]
  exact sMarkLosses_any A L c d x P1 c1 ys1 w hr hl hp1 (hs1.fits hq1) ⟨by rw [hs1.len]; exact hc1.1, hc1.2⟩
theorem iMarkLosses_n (A L : Option Addr) (c d : Nat) (x : Cd) (P1 : Option Addr) (c1 n1 : Nat) (xs ys1 : List Im) (hs1 : SameS xs ys1) (hn1 : xs.length = n1) (w : World) (hr : CdAt w A L x) (hl : CdFits x) (hp1 : Ims w w.heap.size P1 ys1) (hq1 : ImsFits xs) (hc1 : n1 ≤ c1 ∧ c1 ≤ 9223372036854775807) (ht : Tab w) :
    Calls Tryd.prog 19 #[x.val A c L d, .slice P1 n1 c1] w fun e w' => (∃ R d, e = .returned (.tuple #[.slice R (blF x xs).length d, .bool (pB (BsOk x xs))]) ∧ Owned (fun i => w.heap.size ≤ i ∧ i < w'.heap.size) w' R (blF x xs)) ∧ Below w.heap.size w w' := by
  subst hn1
  rw [← hs1.len, blF_same (x := x) hs1, bsQ_same (x := x) hs1]
  exact iMarkLosses_any A L c d x P1 c1 ys1 w hr hl hp1 (hs1.fits hq1) ht

set_option maxHeartbeats 4000000 in
theorem walkMarkLosses (A : Option Addr) (c : Nat) (L : Option Addr) (d : Nat) (x : Cd) (P1 : Option Addr) (c1 : Nat) (xs : List Im) (w : World) (hr : CdAt w A L x) (hl : CdLen x) (hp1 : Ims w w.heap.size P1 xs) (hq1 : ImsLen xs) (ht : Tab w) :
    Calls Tryd.prog 5 #[x.val A c L d, .slice P1 xs.length c1] w fun e w' => e = .returned (.bool true) ∧ Below w.heap.size w w' := by
  obtain ⟨W, hW, hBx⟩ := boxed 25 w A c L d x
  have HBW := Lib.hid hBx.below
  have HX := Lib.hid hBx.at_
  have HR := Lib.hid (hr.below hBx.below)
  have HT := Lib.hid (ht.next hBx.below)
  have HL := Lib.hid hl
  have HP1 := Lib.hid (hp1.next hBx.below)
  have HQ1 := Lib.hid hq1
  clear hp1 hq1
  clear hr hl ht hBx
  unfold boxCd at hW
  unfold Cd.val
  have HB_0 := Lib.hid (Below.refl W.heap.size W)
  go_enter Tryd.func5, Tryd.ntmps5
  go_wp2_with fail
  rw [← hW]
  clear hW
  refine (szCode_any A L c d x W (HR.out.below HB_0.out) HL.out).mono ?_
  rintro e w1 ⟨⟨q0, rfl, hq⟩, hb⟩
  have Z1 := Lib.hid hb.size
  have HB_1 := Lib.hid (Below_next HB_0.out hb)
  clear HB_0 hb
  rcases hq with hq | ⟨hq00, hq10, HF0⟩
  · go_wp2
    go_ret
    exact ⟨rfl, Below_next HBW.out HB_1.out⟩
  · have hq10 : q0 ≤ 1048576 := by omega
    go_wp2_with fail
    refine (szItemS_any P1 c1 xs q0 w1 (HP1.out.next HB_1.out) HQ1.out hq00 hq10).mono ?_
    rintro e w2 ⟨⟨q1, rfl, hq⟩, hb⟩
    have Z2 := Lib.hid hb.size
    have HB_2 := Lib.hid (Below_next HB_1.out hb)
    clear HB_1 hb
    rcases hq with hq | ⟨hq01, hq11, HF1⟩
    · go_wp2
      go_ret
      exact ⟨rfl, Below_next HBW.out HB_2.out⟩
    · have hq11 : q1 ≤ 1048576 := by omega
      have HVL := Lib.hid (blF_len x xs)
      obtain ⟨c0, c1, c2, c3, c4, c5⟩ := (HX.out.next HB_2.out).box
      go_wp2_with fail
      clear c0 c1 c2 c3 c4 c5
      refine (toCode_any A L c d x w2 (HR.out.below HB_2.out) HF0.out).mono ?_
      rintro e w3 ⟨⟨ga3, gb3, rfl, hn⟩, hb⟩
      have Z3 := Lib.hid hb.size
      have HB_3 := Lib.hid (Below_next HB_2.out hb)
      clear HB_2 hb
      have HN_3 := Lib.hid (hn.at_)
      clear hn
      go_wp2_with fail
      refine (toItemS_c P1 c1 xs w3 (HP1.out.next HB_3.out) HF1.out).mono ?_
      rintro e w4 ⟨rfl, ⟨ys4, g4, G4, hs, ho⟩, hb⟩
      have Z4 := Lib.hid hb.size
      have HB_4 := Lib.hid (Below_next HB_3.out hb)
      have HN_4 := Lib.hid (HN_3.out.below hb)
      clear HB_3 HN_3 hb
      have HS4 := Lib.hid hs
      have HIt1_4 := Lib.hid (ho)
      clear hs ho
      go_wp2_with fail
      refine (sMarkLosses_n _ _ _ _ x _ _ _ xs ys4 HS4.out rfl w4 HN_4.out HF0.out HIt1_4.out.ims HF1.out ⟨Nat.le_refl _, by have := HF1.out.len; omega⟩).mono ?_
      rintro e w5 ⟨⟨W0, d0, rfl, how⟩, hb⟩
      have Z5 := Lib.hid hb.size
      have HB_5 := Lib.hid (Below_next HB_4.out hb)
      have HN_5 := Lib.hid (HN_4.out.below hb)
      have HIt1_5 := Lib.hid (HIt1_4.out.next hb)
      clear HB_4 HN_4 HIt1_4 hb
      have HV_5 := Lib.hid (how)
      clear how
      clear HN_5
      clear HIt1_5
      obtain ⟨c0, c1, c2, c3, c4, c5⟩ := (HX.out.next HB_5.out).box
      go_wp2_with fail
      clear c0 c1 c2 c3 c4 c5
      refine (toCode_any A L c d x w5 (HR.out.below HB_5.out) HF0.out).mono ?_
      rintro e w6 ⟨⟨ga6, gb6, rfl, hn⟩, hb⟩
      have Z6 := Lib.hid hb.size
      have HB_6 := Lib.hid (Below_next HB_5.out hb)
      have HV_6 := Lib.hid (HV_5.out.keepB hb)
      clear HB_5 HV_5 hb
      have HN_6 := Lib.hid (hn.at_)
      have HC_6 := Lib.hid (hn.own)
      have hne := hn.ne
      have hge1 := hn.le1
      have hge2 := hn.le2
      have hlt1 := hn.lt1
      have hlt2 := hn.lt2
      clear hn
      obtain ⟨w7, hW, hB⟩ := boxed 31 w6 (some ⟨ga6, 0, none⟩) x.els.length (some ⟨gb6, 0, none⟩) x.lims.length x
      have hb := hB.below
      have Z7 := Lib.hid hb.size
      have HB_7 := Lib.hid (Below_next HB_6.out hb)
      have HV_7 := Lib.hid (HV_6.out.keepB hb)
      have HN_7 := Lib.hid (HN_6.out.below hb)
      have HC_7 := Lib.hid (HC_6.out.keepB hb)
      clear HB_6 HV_6 HN_6 HC_6 hb
      have HY_7 := Lib.hid (hB.at_)
      clear hB
      unfold boxCd at hW
      go_wp2_with fail
      rw [← hW]
      clear hW
      refine (toItemS_c P1 c1 xs w7 (HP1.out.next HB_7.out) HF1.out).mono ?_
      rintro e w8 ⟨rfl, ⟨ys8, g8, G8, hs, ho⟩, hb⟩
      have Z8 := Lib.hid hb.size
      have HB_8 := Lib.hid (Below_next HB_7.out hb)
      have HV_8 := Lib.hid (HV_7.out.keepB hb)
      have HN_8 := Lib.hid (HN_7.out.below hb)
      have HC_8 := Lib.hid (HC_7.out.keepB hb)
      have HY_8 := Lib.hid (HY_7.out.next hb)
      clear HB_7 HV_7 HN_7 HC_7 HY_7 hb
      have HS8 := Lib.hid hs
      have HIx1_8 := Lib.hid (ho)
      clear hs ho
      obtain ⟨c0, c1, c2, c3, c4, c5⟩ := HY_8.out.box
      go_wp2_with fail
      clear c0 c1 c2 c3 c4 c5
      refine (iMarkLosses_n _ _ _ _ x _ _ _ xs ys8 HS8.out rfl w8 HN_8.out HF0.out HIx1_8.out.ims HF1.out ⟨Nat.le_refl _, by have := HF1.out.len; omega⟩ (HT.out.next HB_8.out)).mono ?_
      rintro e w9 ⟨⟨G0, d1, rfl, hog⟩, hb⟩
      have Z9 := Lib.hid hb.size
      have HB_9 := Lib.hid (Below_next HB_8.out hb)
      have HV_9 := Lib.hid (HV_8.out.keepB hb)
      have HN_9 := Lib.hid (HN_8.out.below hb)
      have HC_9 := Lib.hid (HC_8.out.keepB hb)
      have HY_9 := Lib.hid (HY_8.out.next hb)
      have HIx1_9 := Lib.hid (HIx1_8.out.next hb)
      clear HB_8 HV_8 HN_8 HC_8 HY_8 HIx1_8 hb
      have HG_9 := Lib.hid (hog)
      clear hog
      go_wp2_with fail
      refine (eqIntS_b G0 W0 d1 d0 (blF x xs) w9 HG_9.out.lst HV_9.out.lst HVL.out).mono ?_
      rintro e w10 ⟨rfl, hb⟩
      have Z10 := Lib.hid hb.size
      have HB_10 := Lib.hid (Below_next HB_9.out hb)
      have HV_10 := Lib.hid (HV_9.out.keepB hb)
      have HN_10 := Lib.hid (HN_9.out.below hb)
      have HC_10 := Lib.hid (HC_9.out.keepB hb)
      have HY_10 := Lib.hid (HY_9.out.next hb)
      have HIx1_10 := Lib.hid (HIx1_9.out.next hb)
      have HG_10 := Lib.hid (HG_9.out.keepB hb)
      clear HB_9 HV_9 HN_9 HC_9 HY_9 HIx1_9 HG_9 hb
      go_wp2_with fail
      have hb := below_drewn w10
      have Z11 := Lib.hid hb.size
      have HB_11 := Lib.hid (Below_next HB_10.out hb)
      have HV_11 := Lib.hid (HV_10.out.keepB hb)
      have HN_11 := Lib.hid (HN_10.out.below hb)
      have HC_11 := Lib.hid (HC_10.out.keepB hb)
      have HY_11 := Lib.hid (HY_10.out.next hb)
      have HIx1_11 := Lib.hid (HIx1_10.out.next hb)
      have HG_11 := Lib.hid (HG_10.out.keepB hb)
      clear HB_10 HV_10 HN_10 HC_10 HY_10 HIx1_10 HG_10 hb
      go_region_held3 (fun w' => w'.cell? ⟨w.heap.size, 0, none⟩ = some (.slice A x.els.length c) ∧ w'.cell? ⟨w.heap.size, 1, none⟩ = some (.slice L x.lims.length d) ∧ w'.cell? ⟨w.heap.size, 2, none⟩ = some (.int .i64 x.rep) ∧ w'.cell? ⟨w.heap.size, 3, none⟩ = some (.int .i64 x.bon) ∧ w'.cell? ⟨w.heap.size, 4, none⟩ = some (.int .i64 x.kee) ∧ w'.cell? ⟨w.heap.size, 5, none⟩ = some (.int .i64 x.fal) ∧ w'.cell? ⟨w6.heap.size, 0, none⟩ = some (.slice (some ⟨ga6, 0, none⟩) x.els.length x.els.length) ∧ w'.cell? ⟨w6.heap.size, 1, none⟩ = some (.slice (some ⟨gb6, 0, none⟩) x.lims.length x.lims.length) ∧ w'.cell? ⟨w6.heap.size, 2, none⟩ = some (.int .i64 x.rep) ∧ w'.cell? ⟨w6.heap.size, 3, none⟩ = some (.int .i64 x.bon) ∧ w'.cell? ⟨w6.heap.size, 4, none⟩ = some (.int .i64 x.kee) ∧ w'.cell? ⟨w6.heap.size, 5, none⟩ = some (.int .i64 x.fal))
        (first | exact box2 (HX.out.next HB_11.out) HY_11.out | exact box2 (HX.out.next HB_12.out) HY_12.out | exact box2 (HX.out.next HB_13.out) HY_13.out)
        (first
          | (go_at_call 9; refine (toCode_any A L c d x _ (HR.out.below HB_11.out) HF0.out).mono ?_; rintro e w12 ⟨⟨ga12, gb12, rfl, hn⟩, hb⟩; have Z12 := Lib.hid hb.size; have HB_12 := Lib.hid (Below_next HB_11.out hb); have HV_12 := Lib.hid (HV_11.out.keepB hb); have HN_12 := Lib.hid (HN_11.out.below hb); have HC_12 := Lib.hid (HC_11.out.keepB hb); have HY_12 := Lib.hid (HY_11.out.next hb); have HIx1_12 := Lib.hid (HIx1_11.out.next hb); have HG_12 := Lib.hid (HG_11.out.keepB hb); have HM12 := Lib.hid hn.at_; clear hb hn)
          | (go_at_call 11; refine (eqCode_yes _ _ _ _ _ _ _ _ x _ HN_12.out HM12.out HF0.out).mono ?_; rintro e w13 ⟨rfl, hb⟩; have Z13 := Lib.hid hb.size; have HB_13 := Lib.hid (Below_next HB_12.out hb); have HV_13 := Lib.hid (HV_12.out.keepB hb); have HN_13 := Lib.hid (HN_12.out.below hb); have HC_13 := Lib.hid (HC_12.out.keepB hb); have HY_13 := Lib.hid (HY_12.out.next hb); have HIx1_13 := Lib.hid (HIx1_12.out.next hb); have HG_13 := Lib.hid (HG_12.out.keepB hb); clear hb)
          )
      clear HM12 HB_11 HB_12 HV_11 HV_12 HN_11 HN_12 HC_11 HC_12 HY_11 HY_12 HIx1_11 HIx1_12 HG_11 HG_12
      go_wp2_with fail
      refine (toItemS_c P1 c1 xs w13 (HP1.out.next HB_13.out) HF1.out).mono ?_
      rintro e w14 ⟨rfl, ⟨zs, g', G', hs', ho'⟩, hb⟩
      have Z14 := Lib.hid hb.size
      have HB_14 := Lib.hid (Below_next HB_13.out hb)
      have HV_14 := Lib.hid (HV_13.out.keepB hb)
      have HN_14 := Lib.hid (HN_13.out.below hb)
      have HC_14 := Lib.hid (HC_13.out.keepB hb)
      have HY_14 := Lib.hid (HY_13.out.next hb)
      have HIx1_14 := Lib.hid (HIx1_13.out.next hb)
      have HG_14 := Lib.hid (HG_13.out.keepB hb)
      clear HB_13 HV_13 HN_13 HC_13 HY_13 HIx1_13 HG_13 hb
      have HC := Lib.hid (eqItemS_n (some ⟨w7.heap.size, 0, none⟩) (some ⟨w13.heap.size, 0, none⟩) xs.length xs.length xs.length ys8 zs HS8.out.len w14 (HS8.out.symm.trans hs') HIx1_14.out.ims ho'.ims (HS8.out.fits HF1.out))
      clear hs' ho'
      go_wp2_with fail
      refine (HC.out).mono ?_
      rintro e w15 ⟨rfl, hb⟩
      have Z15 := Lib.hid hb.size
      have HB_15 := Lib.hid (Below_next HB_14.out hb)
      have HV_15 := Lib.hid (HV_14.out.keepB hb)
      have HN_15 := Lib.hid (HN_14.out.below hb)
      have HC_15 := Lib.hid (HC_14.out.keepB hb)
      have HY_15 := Lib.hid (HY_14.out.next hb)
      have HIx1_15 := Lib.hid (HIx1_14.out.next hb)
      have HG_15 := Lib.hid (HG_14.out.keepB hb)
      clear HB_14 HV_14 HN_14 HC_14 HY_14 HIx1_14 HG_14 hb
      clear HC
      obtain ⟨c0, c1, c2, c3, c4, c5⟩ := HY_15.out.box
      go_wp2_with fail
      clear c0 c1 c2 c3 c4 c5
      clear HN_15
      refine (markCode_any ga6 gb6 _ _ _ _ x _ HC_15.out hne HF0.out).mono ?_
      rintro e w16 ⟨rfl, _, hk⟩
      clear HC_15
      clear HY_15
      have Z16 := Lib.hid hk.size
      have HB_16 := Lib.hid (HB_15.out.trans (hk.below HB_15.out.size (fun i hi => by have z1 := Z1.out; have z2 := Z2.out; have z3 := Z3.out; have z4 := Z4.out; have z5 := Z5.out; have z6 := Z6.out; have z7 := Z7.out; have z8 := Z8.out; have z9 := Z9.out; have z10 := Z10.out; have z11 := Z11.out; have z12 := Z12.out; have z13 := Z13.out; have z14 := Z14.out; have z15 := Z15.out; have z16 := Z16.out; omega)))
      have HV_16 := Lib.hid (HV_15.out.keep hk (fun i h1 h2 => by have z1 := Z1.out; have z2 := Z2.out; have z3 := Z3.out; have z4 := Z4.out; have z5 := Z5.out; have z6 := Z6.out; have z7 := Z7.out; have z8 := Z8.out; have z9 := Z9.out; have z10 := Z10.out; have z11 := Z11.out; have z12 := Z12.out; have z13 := Z13.out; have z14 := Z14.out; have z15 := Z15.out; have z16 := Z16.out; omega))
      have HIx1_16 := Lib.hid (HIx1_15.out.keep hk (fun i h1 h2 => by have z1 := Z1.out; have z2 := Z2.out; have z3 := Z3.out; have z4 := Z4.out; have z5 := Z5.out; have z6 := Z6.out; have z7 := Z7.out; have z8 := Z8.out; have z9 := Z9.out; have z10 := Z10.out; have z11 := Z11.out; have z12 := Z12.out; have z13 := Z13.out; have z14 := Z14.out; have z15 := Z15.out; have z16 := Z16.out; omega))
      have HG_16 := Lib.hid (HG_15.out.keep hk (fun i h1 h2 => by have z1 := Z1.out; have z2 := Z2.out; have z3 := Z3.out; have z4 := Z4.out; have z5 := Z5.out; have z6 := Z6.out; have z7 := Z7.out; have z8 := Z8.out; have z9 := Z9.out; have z10 := Z10.out; have z11 := Z11.out; have z12 := Z12.out; have z13 := Z13.out; have z14 := Z14.out; have z15 := Z15.out; have z16 := Z16.out; omega))
      clear HB_15 HV_15 HIx1_15 HG_15 hk
      go_wp2_with fail
      refine (markItemS_n _ _ xs.length g8 G8 xs ys8 _ (1 + x.els.length * 4 + x.lims.length) w16 rfl HS8.out HIx1_16.out HF1.out (by have := HF0.out.1.1; have := HF0.out.2; omega) (by have := HF0.out.1.1; have := HF0.out.2; omega)).mono ?_
      rintro e w17 ⟨⟨m1, rfl, hm1⟩, hk⟩
      clear HIx1_16
      have Z17 := Lib.hid hk.size
      have HB_17 := Lib.hid (HB_16.out.trans (hk.below HB_16.out.size (fun i hi => by have z1 := Z1.out; have z2 := Z2.out; have z3 := Z3.out; have z4 := Z4.out; have z5 := Z5.out; have z6 := Z6.out; have z7 := Z7.out; have z8 := Z8.out; have z9 := Z9.out; have z10 := Z10.out; have z11 := Z11.out; have z12 := Z12.out; have z13 := Z13.out; have z14 := Z14.out; have z15 := Z15.out; have z16 := Z16.out; have z17 := Z17.out; omega)))
      have HV_17 := Lib.hid (HV_16.out.keep hk (fun i h1 h2 => by have z1 := Z1.out; have z2 := Z2.out; have z3 := Z3.out; have z4 := Z4.out; have z5 := Z5.out; have z6 := Z6.out; have z7 := Z7.out; have z8 := Z8.out; have z9 := Z9.out; have z10 := Z10.out; have z11 := Z11.out; have z12 := Z12.out; have z13 := Z13.out; have z14 := Z14.out; have z15 := Z15.out; have z16 := Z16.out; have z17 := Z17.out; omega))
      have HG_17 := Lib.hid (HG_16.out.keep hk (fun i h1 h2 => by have z1 := Z1.out; have z2 := Z2.out; have z3 := Z3.out; have z4 := Z4.out; have z5 := Z5.out; have z6 := Z6.out; have z7 := Z7.out; have z8 := Z8.out; have z9 := Z9.out; have z10 := Z10.out; have z11 := Z11.out; have z12 := Z12.out; have z13 := Z13.out; have z14 := Z14.out; have z15 := Z15.out; have z16 := Z16.out; have z17 := Z17.out; omega))
      clear HB_16 HV_16 HG_16 hk
      go_wp2_with fail
      refine (eqIntS_b G0 W0 d1 d0 (blF x xs) w17 HG_17.out.lst HV_17.out.lst HVL.out).mono ?_
      rintro e w18 ⟨rfl, hb⟩
      have Z18 := Lib.hid hb.size
      have HB_18 := Lib.hid (Below_next HB_17.out hb)
      have HV_18 := Lib.hid (HV_17.out.keepB hb)
      have HG_18 := Lib.hid (HG_17.out.keepB hb)
      clear HB_17 HV_17 HG_17 hb
      go_wp2_with fail
      refine (markIntS_any _ G0 d1 (blF x xs) 1 w18 HG_18.out HVL.out (by omega) (by omega)).mono ?_
      rintro e w19 ⟨rfl, hog, hk⟩
      clear HG_18
      have Z19 := Lib.hid hk.size
      have HB_19 := Lib.hid (HB_18.out.trans (hk.below HB_18.out.size (fun i hi => by have z1 := Z1.out; have z2 := Z2.out; have z3 := Z3.out; have z4 := Z4.out; have z5 := Z5.out; have z6 := Z6.out; have z7 := Z7.out; have z8 := Z8.out; have z9 := Z9.out; have z10 := Z10.out; have z11 := Z11.out; have z12 := Z12.out; have z13 := Z13.out; have z14 := Z14.out; have z15 := Z15.out; have z16 := Z16.out; have z17 := Z17.out; have z18 := Z18.out; have z19 := Z19.out; omega)))
      have HV_19 := Lib.hid (HV_18.out.keep hk (fun i h1 h2 => by have z1 := Z1.out; have z2 := Z2.out; have z3 := Z3.out; have z4 := Z4.out; have z5 := Z5.out; have z6 := Z6.out; have z7 := Z7.out; have z8 := Z8.out; have z9 := Z9.out; have z10 := Z10.out; have z11 := Z11.out; have z12 := Z12.out; have z13 := Z13.out; have z14 := Z14.out; have z15 := Z15.out; have z16 := Z16.out; have z17 := Z17.out; have z18 := Z18.out; have z19 := Z19.out; omega))
      clear HB_18 HV_18 hk
      have HG_19 := Lib.hid (hog)
      clear hog
      go_wp2_with fail
      refine (heldIntS_any G0 d1 (blF x xs).length 1 w19 _ HG_19.out.lst HVL.out (by omega) (by omega)).mono ?_
      rintro e w' ⟨rfl, hw⟩
      obtain rfl := hw.symm
      obtain ⟨c0, c1, c2, c3, c4, c5⟩ := (HX.out.next HB_19.out).box
      go_wp2_with fail
      clear c0 c1 c2 c3 c4 c5
      refine (toCode_any A L c d x w19 (HR.out.below HB_19.out) HF0.out).mono ?_
      rintro e w20 ⟨⟨ga20, gb20, rfl, hn⟩, hb⟩
      have Z20 := Lib.hid hb.size
      have HB_20 := Lib.hid (Below_next HB_19.out hb)
      have HV_20 := Lib.hid (HV_19.out.keepB hb)
      have HG_20 := Lib.hid (HG_19.out.keepB hb)
      clear HB_19 HV_19 HG_19 hb
      have HN_20 := Lib.hid (hn.at_)
      clear hn
      go_wp2_with fail
      refine (toItemS_c P1 c1 xs w20 (HP1.out.next HB_20.out) HF1.out).mono ?_
      rintro e w21 ⟨rfl, ⟨ys21, g21, G21, hs, ho⟩, hb⟩
      have Z21 := Lib.hid hb.size
      have HB_21 := Lib.hid (Below_next HB_20.out hb)
      have HV_21 := Lib.hid (HV_20.out.keepB hb)
      have HG_21 := Lib.hid (HG_20.out.keepB hb)
      have HN_21 := Lib.hid (HN_20.out.below hb)
      clear HB_20 HV_20 HG_20 HN_20 hb
      have HS21 := Lib.hid hs
      have HIt1_21 := Lib.hid (ho)
      clear hs ho
      go_wp2_with fail
      refine (iMarkLosses_n _ _ _ _ x _ _ _ xs ys21 HS21.out rfl w21 HN_21.out HF0.out HIt1_21.out.ims HF1.out ⟨Nat.le_refl _, by have := HF1.out.len; omega⟩ (HT.out.next HB_21.out)).mono ?_
      rintro e w22 ⟨⟨H0, d2, rfl, hoh⟩, hb⟩
      have Z22 := Lib.hid hb.size
      have HB_22 := Lib.hid (Below_next HB_21.out hb)
      have HV_22 := Lib.hid (HV_21.out.keepB hb)
      have HG_22 := Lib.hid (HG_21.out.keepB hb)
      have HN_22 := Lib.hid (HN_21.out.below hb)
      have HIt1_22 := Lib.hid (HIt1_21.out.next hb)
      clear HB_21 HV_21 HG_21 HN_21 HIt1_21 hb
      have HH_22 := Lib.hid (hoh)
      clear hoh
      clear HN_22
      clear HIt1_22
      go_wp2_with fail
      refine (eqIntS_b H0 W0 d2 d0 (blF x xs) w22 HH_22.out.lst HV_22.out.lst HVL.out).mono ?_
      rintro e w23 ⟨rfl, hb⟩
      have Z23 := Lib.hid hb.size
      have HB_23 := Lib.hid (Below_next HB_22.out hb)
      have HV_23 := Lib.hid (HV_22.out.keepB hb)
      have HG_23 := Lib.hid (HG_22.out.keepB hb)
      have HH_23 := Lib.hid (HH_22.out.keepB hb)
      clear HB_22 HV_22 HG_22 HH_22 hb
      go_wp2_with fail
      refine (heldIntS_any G0 d1 (blF x xs).length 1 w23 _ HG_23.out.lst HVL.out (by omega) (by omega)).mono ?_
      rintro e w' ⟨rfl, hw⟩
      obtain rfl := hw.symm
      go_wp2
      go_ret
      exact ⟨rfl, Below_next HBW.out HB_23.out⟩
end Go.Proofs.YtnlcdfaojcnkpaaDoor

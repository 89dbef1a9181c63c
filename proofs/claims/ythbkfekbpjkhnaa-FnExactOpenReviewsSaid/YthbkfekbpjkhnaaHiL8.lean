/- The walk of the law OpenReviews. -/
import Derived.Test.YthbkfekbpjkhnaaHiOp
import Derived.Test.YthbkfekbpjkhnaaHiO
import Derived.Deep.RegionHeld3
namespace Go.Proofs.Ythbkfekbpjkhnaa
open Go.ChangeShapes Go.WideShapes Go.ChangeAt Go.RowKit Go.Lib Go.Proofs Go.PlainAid
set_option linter.unusedVariables false

theorem sOpenReviews_n (P0 : Option Addr) (c0 n0 : Nat) (xs ys0 : List Im) (hs0 : SameS xs ys0) (hn0 : xs.length = n0) (P1 : Option Addr) (c1 : Nat) (hs : List Cg) (w : World) (hp0 : Ims w w.heap.size P0 ys0) (hq0 : ImsFits xs) (hp1 : Lst w w.heap.size P1 hs) (hq1 : hs.length ≤ 1048576) (hc1 : hs.length ≤ c1 ∧ c1 ≤ 9223372036854775807) :
    Calls Try.prog 26 #[.slice P0 n0 c0, .slice P1 hs.length c1] w fun e w' => (∃ y : Rw (Rw Int), e = .returned (.tuple #[.slice y.A y.xs.length y.c, .bool (pB (HiOk xs hs))]) ∧ PairsAns (orF xs hs) w w' y) ∧ Below w.heap.size w w' := by
  subst hn0
  rw [← hs0.len, ← orF_same hs0 hs, ← hiOkP_same hs0 hs]
  exact sOpenReviews_any P0 c0 ys0 P1 c1 hs w hp0 (hs0.fits hq0) hp1 hq1 hc1
theorem iOpenReviews_n (P0 : Option Addr) (c0 n0 : Nat) (xs ys0 : List Im) (hs0 : SameS xs ys0) (hn0 : xs.length = n0) (P1 : Option Addr) (c1 : Nat) (hs : List Cg) (w : World) (hp0 : Ims w w.heap.size P0 ys0) (hq0 : ImsFits xs) (hp1 : Lst w w.heap.size P1 hs) (hq1 : hs.length ≤ 1048576) (hc1 : hs.length ≤ c1 ∧ c1 ≤ 9223372036854775807) :
    Calls Try.prog 27 #[.slice P0 n0 c0, .slice P1 hs.length c1] w fun e w' => (∃ y : Rw (Rw Int), e = .returned (.tuple #[.slice y.A y.xs.length y.c, .bool (pB (HiOk xs hs))]) ∧ PairsAns (orF xs hs) w w' y) ∧ Below w.heap.size w w' := by
  subst hn0
  rw [← hs0.len, ← orF_same hs0 hs, ← hiOkP_same hs0 hs]
  exact iOpenReviews_any P0 c0 ys0 P1 c1 hs w hp0 (hs0.fits hq0) hp1 hq1 hc1

set_option maxHeartbeats 4000000 in
theorem walkOpenReviews (P0 : Option Addr) (c0 : Nat) (xs : List Im) (P1 : Option Addr) (c1 : Nat) (hs : List Cg) (w : World) (hp0 : Ims w w.heap.size P0 xs) (hq0 : ImsLen xs) (hp1 : Lst w w.heap.size P1 hs) (hq1 : hs.length ≤ 9223372036854775807) :
    Calls Try.prog 6 #[.slice P0 xs.length c0, .slice P1 hs.length c1] w fun e w' => e = .returned (.bool true) ∧ Below w.heap.size w w' := by
  have HBW := Lib.hid (Below.refl w.heap.size w)
  have HP0 := Lib.hid hp0
  have HQ0 := Lib.hid hq0
  clear hp0 hq0
  have HP1 := Lib.hid hp1
  have HQ1 := Lib.hid hq1
  clear hp1 hq1
  have HB_0 := Lib.hid (Below.refl w.heap.size w)
  go_enter Try.func6, Try.ntmps6
  go_wp2_with fail
  refine (szItemS_any P0 c0 xs _ w (HP0.out.next HB_0.out) HQ0.out (by omega) (by omega)).mono ?_
  rintro e w1 ⟨⟨q0, rfl, hq⟩, hb⟩
  have Z1 := Lib.hid hb.size
  have HB_1 := Lib.hid (Below_next HB_0.out hb)
  clear HB_0 hb
  rcases hq with hq | ⟨hq00, hq10, HF0⟩
  · go_wp2
    go_ret
    exact ⟨rfl, Below_next HBW.out HB_1.out⟩
  · have hq10 : q0 ≤ 1048576 := by omega
    go_wp2_with fail
    refine (szChangeS_b P1 c1 hs q0 w1 HQ1.out hq00 hq10).mono ?_
    rintro e w2 ⟨⟨q1, rfl, hq⟩, hb⟩
    have Z2 := Lib.hid hb.size
    have HB_2 := Lib.hid (Below_next HB_1.out hb)
    clear HB_1 hb
    rcases hq with hq | ⟨hq01, hq11, HF1⟩
    · go_wp2
      go_ret
      exact ⟨rfl, Below_next HBW.out HB_2.out⟩
    · have hq11 : q1 ≤ 1048576 := by omega
      have HF1 := Lib.hid HF1
      have HVL := Lib.hid (orF_few xs hs)
      go_wp2_with fail
      refine (toItemS_c P0 c0 xs w2 (HP0.out.next HB_2.out) HF0.out).mono ?_
      rintro e w3 ⟨rfl, ⟨ys3, g3, G3, hs, ho⟩, hb⟩
      have Z3 := Lib.hid hb.size
      have HB_3 := Lib.hid (Below_next HB_2.out hb)
      clear HB_2 hb
      have HS3 := Lib.hid hs
      have HIt0_3 := Lib.hid (ho)
      clear hs ho
      go_wp2_with fail
      refine (toChangeS_c P1 c1 hs w3 (HP1.out.next HB_3.out) HF1.out).mono ?_
      rintro e w4 ⟨rfl, ho, hb⟩
      have Z4 := Lib.hid hb.size
      have HB_4 := Lib.hid (Below_next HB_3.out hb)
      have HIt0_4 := Lib.hid (HIt0_3.out.next hb)
      clear HB_3 HIt0_3 hb
      have HIt1_4 := Lib.hid (ho)
      clear ho
      go_wp2_with fail
      refine (sOpenReviews_n _ _ _ xs ys3 HS3.out rfl _ _ hs w4 HIt0_4.out.ims HF0.out HIt1_4.out.lst HF1.out ⟨Nat.le_refl _, by have := HF1.out; omega⟩).mono ?_
      rintro e w5 ⟨⟨aV, rfl, ha⟩, hb⟩
      have Z5 := Lib.hid hb.size
      have HB_5 := Lib.hid (Below_next HB_4.out hb)
      have HIt0_5 := Lib.hid (HIt0_4.out.next hb)
      have HIt1_5 := Lib.hid (HIt1_4.out.keepB hb)
      clear HB_4 HIt0_4 HIt1_4 hb
      have HPV := Lib.hid ha.prs
      have HV_5 := Lib.hid (ha.own)
      clear ha
      clear HIt0_5
      clear HIt1_5
      go_wp2_with fail
      refine (toItemS_c P0 c0 xs w5 (HP0.out.next HB_5.out) HF0.out).mono ?_
      rintro e w6 ⟨rfl, ⟨ys6, g6, G6, hs, ho⟩, hb⟩
      have Z6 := Lib.hid hb.size
      have HB_6 := Lib.hid (Below_next HB_5.out hb)
      have HV_6 := Lib.hid (Nst.keepB HV_5.out hb)
      clear HB_5 HV_5 hb
      have HS6 := Lib.hid hs
      have HIx0_6 := Lib.hid (ho)
      clear hs ho
      go_wp2_with fail
      refine (toChangeS_c P1 c1 hs w6 (HP1.out.next HB_6.out) HF1.out).mono ?_
      rintro e w7 ⟨rfl, ho, hb⟩
      have Z7 := Lib.hid hb.size
      have HB_7 := Lib.hid (Below_next HB_6.out hb)
      have HV_7 := Lib.hid (Nst.keepB HV_6.out hb)
      have HIx0_7 := Lib.hid (HIx0_6.out.next hb)
      clear HB_6 HV_6 HIx0_6 hb
      have HIx1_7 := Lib.hid (ho)
      clear ho
      go_wp2_with fail
      refine (iOpenReviews_n _ _ _ xs ys6 HS6.out rfl _ _ hs w7 HIx0_7.out.ims HF0.out HIx1_7.out.lst HF1.out ⟨Nat.le_refl _, by have := HF1.out; omega⟩).mono ?_
      rintro e w8 ⟨⟨aG, rfl, ha⟩, hb⟩
      have Z8 := Lib.hid hb.size
      have HB_8 := Lib.hid (Below_next HB_7.out hb)
      have HV_8 := Lib.hid (Nst.keepB HV_7.out hb)
      have HIx0_8 := Lib.hid (HIx0_7.out.next hb)
      have HIx1_8 := Lib.hid (HIx1_7.out.keepB hb)
      clear HB_7 HV_7 HIx0_7 HIx1_7 hb
      have HPG := Lib.hid ha.prs
      have HG_8 := Lib.hid (ha.own)
      clear ha
      go_wp2_with fail
      refine (eqIntSS_r aG aV w8 (prs_eqv HPG.out HPV.out) (Nst.own_in HG_8.out) (Nst.own_in HV_8.out) (prs_fit HPG.out HVL.out)).mono ?_
      rintro e w9 ⟨rfl, hb⟩
      have Z9 := Lib.hid hb.size
      have HB_9 := Lib.hid (Below_next HB_8.out hb)
      have HV_9 := Lib.hid (Nst.keepB HV_8.out hb)
      have HIx0_9 := Lib.hid (HIx0_8.out.next hb)
      have HIx1_9 := Lib.hid (HIx1_8.out.keepB hb)
      have HG_9 := Lib.hid (Nst.keepB HG_8.out hb)
      clear HB_8 HV_8 HIx0_8 HIx1_8 HG_8 hb
      go_wp2_with fail
      refine (toItemS_c P0 c0 xs w9 (HP0.out.next HB_9.out) HF0.out).mono ?_
      rintro e w10 ⟨rfl, ⟨zs, g', G', hs', ho'⟩, hb⟩
      have Z10 := Lib.hid hb.size
      have HB_10 := Lib.hid (Below_next HB_9.out hb)
      have HV_10 := Lib.hid (Nst.keepB HV_9.out hb)
      have HIx0_10 := Lib.hid (HIx0_9.out.next hb)
      have HIx1_10 := Lib.hid (HIx1_9.out.keepB hb)
      have HG_10 := Lib.hid (Nst.keepB HG_9.out hb)
      clear HB_9 HV_9 HIx0_9 HIx1_9 HG_9 hb
      have HC := Lib.hid (eqItemS_n (some ⟨w5.heap.size, 0, none⟩) (some ⟨w9.heap.size, 0, none⟩) xs.length xs.length xs.length ys6 zs HS6.out.len w10 (HS6.out.symm.trans hs') HIx0_10.out.ims ho'.ims (HS6.out.fits HF0.out))
      clear hs' ho'
      go_wp2_with fail
      refine (HC.out).mono ?_
      rintro e w11 ⟨rfl, hb⟩
      have Z11 := Lib.hid hb.size
      have HB_11 := Lib.hid (Below_next HB_10.out hb)
      have HV_11 := Lib.hid (Nst.keepB HV_10.out hb)
      have HIx0_11 := Lib.hid (HIx0_10.out.next hb)
      have HIx1_11 := Lib.hid (HIx1_10.out.keepB hb)
      have HG_11 := Lib.hid (Nst.keepB HG_10.out hb)
      clear HB_10 HV_10 HIx0_10 HIx1_10 HG_10 hb
      clear HC
      go_wp2_with fail
      refine (toChangeS_c P1 c1 hs w11 (HP1.out.next HB_11.out) HF1.out).mono ?_
      rintro e w12 ⟨rfl, ho', hb⟩
      have Z12 := Lib.hid hb.size
      have HB_12 := Lib.hid (Below_next HB_11.out hb)
      have HV_12 := Lib.hid (Nst.keepB HV_11.out hb)
      have HIx0_12 := Lib.hid (HIx0_11.out.next hb)
      have HIx1_12 := Lib.hid (HIx1_11.out.keepB hb)
      have HG_12 := Lib.hid (Nst.keepB HG_11.out hb)
      clear HB_11 HV_11 HIx0_11 HIx1_11 HG_11 hb
      have HC := Lib.hid (eqChangeS_n (some ⟨w6.heap.size, 0, none⟩) (some ⟨w11.heap.size, 0, none⟩) hs.length hs.length hs.length hs rfl w12 HIx1_12.out.lst ho'.lst HF1.out)
      clear ho'
      go_wp2_with fail
      refine (HC.out).mono ?_
      rintro e w13 ⟨rfl, hb⟩
      have Z13 := Lib.hid hb.size
      have HB_13 := Lib.hid (Below_next HB_12.out hb)
      have HV_13 := Lib.hid (Nst.keepB HV_12.out hb)
      have HIx0_13 := Lib.hid (HIx0_12.out.next hb)
      have HIx1_13 := Lib.hid (HIx1_12.out.keepB hb)
      have HG_13 := Lib.hid (Nst.keepB HG_12.out hb)
      clear HB_12 HV_12 HIx0_12 HIx1_12 HG_12 hb
      clear HC
      go_wp2_with fail
      refine (markItemS_c _ _ xs.length g6 G6 xs ys6 _ 1 w13 rfl HS6.out HIx0_13.out HF0.out (by omega) (by omega)).mono ?_
      rintro e w14 ⟨⟨m0, rfl, hm0, hmm0⟩, hk⟩
      clear HIx0_13
      have Z14 := Lib.hid hk.size
      have HB_14 := Lib.hid (HB_13.out.trans (hk.below HB_13.out.size (fun i hi => by have q1 := hi.1; have z1 := Z1.out; have z2 := Z2.out; have z3 := Z3.out; have z4 := Z4.out; have z5 := Z5.out; have z6 := Z6.out; have z7 := Z7.out; have z8 := Z8.out; have z9 := Z9.out; have z10 := Z10.out; have z11 := Z11.out; have z12 := Z12.out; have z13 := Z13.out; have z14 := Z14.out; omega)))
      have HV_14 := Lib.hid (Nst.own_keep HV_13.out hk (fun i h1 h2 => by have q1 := h1.1; have q2 := h1.2; have q3 := h2.1; have q4 := h2.2; have z1 := Z1.out; have z2 := Z2.out; have z3 := Z3.out; have z4 := Z4.out; have z5 := Z5.out; have z6 := Z6.out; have z7 := Z7.out; have z8 := Z8.out; have z9 := Z9.out; have z10 := Z10.out; have z11 := Z11.out; have z12 := Z12.out; have z13 := Z13.out; have z14 := Z14.out; omega))
      have HIx1_14 := Lib.hid (HIx1_13.out.keep hk (fun i h1 h2 => by have z1 := Z1.out; have z2 := Z2.out; have z3 := Z3.out; have z4 := Z4.out; have z5 := Z5.out; have z6 := Z6.out; have z7 := Z7.out; have z8 := Z8.out; have z9 := Z9.out; have z10 := Z10.out; have z11 := Z11.out; have z12 := Z12.out; have z13 := Z13.out; have z14 := Z14.out; omega))
      have HG_14 := Lib.hid (Nst.own_keep HG_13.out hk (fun i h1 h2 => by have q1 := h1.1; have q2 := h1.2; have q3 := h2.1; have q4 := h2.2; have z1 := Z1.out; have z2 := Z2.out; have z3 := Z3.out; have z4 := Z4.out; have z5 := Z5.out; have z6 := Z6.out; have z7 := Z7.out; have z8 := Z8.out; have z9 := Z9.out; have z10 := Z10.out; have z11 := Z11.out; have z12 := Z12.out; have z13 := Z13.out; have z14 := Z14.out; omega))
      clear HB_13 HV_13 HIx1_13 HG_13 hk
      go_wp2_with fail
      refine (markChangeS_b _ _ hs.length hs m0 w14 HIx1_14.out HF1.out hm0 hmm0).mono ?_
      rintro e w15 ⟨⟨m1, rfl, hm1⟩, hk⟩
      clear HIx1_14
      have Z15 := Lib.hid hk.size
      have HB_15 := Lib.hid (HB_14.out.trans (hk.below HB_14.out.size (fun i hi => by have q1 := hi.1; have z1 := Z1.out; have z2 := Z2.out; have z3 := Z3.out; have z4 := Z4.out; have z5 := Z5.out; have z6 := Z6.out; have z7 := Z7.out; have z8 := Z8.out; have z9 := Z9.out; have z10 := Z10.out; have z11 := Z11.out; have z12 := Z12.out; have z13 := Z13.out; have z14 := Z14.out; have z15 := Z15.out; omega)))
      have HV_15 := Lib.hid (Nst.own_keep HV_14.out hk (fun i h1 h2 => by have q1 := h1.1; have q2 := h1.2; have q3 := h2.1; have q4 := h2.2; have z1 := Z1.out; have z2 := Z2.out; have z3 := Z3.out; have z4 := Z4.out; have z5 := Z5.out; have z6 := Z6.out; have z7 := Z7.out; have z8 := Z8.out; have z9 := Z9.out; have z10 := Z10.out; have z11 := Z11.out; have z12 := Z12.out; have z13 := Z13.out; have z14 := Z14.out; have z15 := Z15.out; omega))
      have HG_15 := Lib.hid (Nst.own_keep HG_14.out hk (fun i h1 h2 => by have q1 := h1.1; have q2 := h1.2; have q3 := h2.1; have q4 := h2.2; have z1 := Z1.out; have z2 := Z2.out; have z3 := Z3.out; have z4 := Z4.out; have z5 := Z5.out; have z6 := Z6.out; have z7 := Z7.out; have z8 := Z8.out; have z9 := Z9.out; have z10 := Z10.out; have z11 := Z11.out; have z12 := Z12.out; have z13 := Z13.out; have z14 := Z14.out; have z15 := Z15.out; omega))
      clear HB_14 HV_14 HG_14 hk
      go_wp2_with fail
      refine (eqIntSS_r aG aV w15 (prs_eqv HPG.out HPV.out) (Nst.own_in HG_15.out) (Nst.own_in HV_15.out) (prs_fit HPG.out HVL.out)).mono ?_
      rintro e w16 ⟨rfl, hb⟩
      have Z16 := Lib.hid hb.size
      have HB_16 := Lib.hid (Below_next HB_15.out hb)
      have HV_16 := Lib.hid (Nst.keepB HV_15.out hb)
      have HG_16 := Lib.hid (Nst.keepB HG_15.out hb)
      clear HB_15 HV_15 HG_15 hb
      go_wp2_with fail
      refine (markIntSS_r _ aG _ 1 w16 rfl HG_16.out (prs_fit HPG.out HVL.out) (by omega)).mono ?_
      rintro e w17 ⟨rfl, hgo, hk⟩
      clear HG_16
      have Z17 := Lib.hid hk.size
      have HB_17 := Lib.hid (HB_16.out.trans (hk.below HB_16.out.size (fun i hi => by have q1 := hi.1; have z1 := Z1.out; have z2 := Z2.out; have z3 := Z3.out; have z4 := Z4.out; have z5 := Z5.out; have z6 := Z6.out; have z7 := Z7.out; have z8 := Z8.out; have z9 := Z9.out; have z10 := Z10.out; have z11 := Z11.out; have z12 := Z12.out; have z13 := Z13.out; have z14 := Z14.out; have z15 := Z15.out; have z16 := Z16.out; have z17 := Z17.out; omega)))
      have HV_17 := Lib.hid (Nst.own_keep HV_16.out hk (fun i h1 h2 => by have q1 := h1.1; have q2 := h1.2; have q3 := h2.1; have q4 := h2.2; have z1 := Z1.out; have z2 := Z2.out; have z3 := Z3.out; have z4 := Z4.out; have z5 := Z5.out; have z6 := Z6.out; have z7 := Z7.out; have z8 := Z8.out; have z9 := Z9.out; have z10 := Z10.out; have z11 := Z11.out; have z12 := Z12.out; have z13 := Z13.out; have z14 := Z14.out; have z15 := Z15.out; have z16 := Z16.out; have z17 := Z17.out; omega))
      clear HB_16 HV_16 hk
      have HG_17 := Lib.hid (hgo)
      clear hgo
      go_wp2_with fail
      refine (heldIntSS_r aG _ 1 w17 rfl (Nst.own_in HG_17.out) (prs_fit HPG.out HVL.out) (by omega)).mono ?_
      rintro e w18 ⟨rfl, hb⟩
      have Z18 := Lib.hid hb.size
      have HB_18 := Lib.hid (Below_next HB_17.out hb)
      have HV_18 := Lib.hid (Nst.keepB HV_17.out hb)
      have HG_18 := Lib.hid (Nst.keepB HG_17.out hb)
      clear HB_17 HV_17 HG_17 hb
      go_wp2_with fail
      refine (toItemS_c P0 c0 xs w18 (HP0.out.next HB_18.out) HF0.out).mono ?_
      rintro e w19 ⟨rfl, ⟨ys19, g19, G19, hs, ho⟩, hb⟩
      have Z19 := Lib.hid hb.size
      have HB_19 := Lib.hid (Below_next HB_18.out hb)
      have HV_19 := Lib.hid (Nst.keepB HV_18.out hb)
      have HG_19 := Lib.hid (Nst.keepB HG_18.out hb)
      clear HB_18 HV_18 HG_18 hb
      have HS19 := Lib.hid hs
      have HIt0_19 := Lib.hid (ho)
      clear hs ho
      go_wp2_with fail
      refine (toChangeS_c P1 c1 hs w19 (HP1.out.next HB_19.out) HF1.out).mono ?_
      rintro e w20 ⟨rfl, ho, hb⟩
      have Z20 := Lib.hid hb.size
      have HB_20 := Lib.hid (Below_next HB_19.out hb)
      have HV_20 := Lib.hid (Nst.keepB HV_19.out hb)
      have HG_20 := Lib.hid (Nst.keepB HG_19.out hb)
      have HIt0_20 := Lib.hid (HIt0_19.out.next hb)
      clear HB_19 HV_19 HG_19 HIt0_19 hb
      have HIt1_20 := Lib.hid (ho)
      clear ho
      go_wp2_with fail
      refine (iOpenReviews_n _ _ _ xs ys19 HS19.out rfl _ _ hs w20 HIt0_20.out.ims HF0.out HIt1_20.out.lst HF1.out ⟨Nat.le_refl _, by have := HF1.out; omega⟩).mono ?_
      rintro e w21 ⟨⟨aH, rfl, ha⟩, hb⟩
      have Z21 := Lib.hid hb.size
      have HB_21 := Lib.hid (Below_next HB_20.out hb)
      have HV_21 := Lib.hid (Nst.keepB HV_20.out hb)
      have HG_21 := Lib.hid (Nst.keepB HG_20.out hb)
      have HIt0_21 := Lib.hid (HIt0_20.out.next hb)
      have HIt1_21 := Lib.hid (HIt1_20.out.keepB hb)
      clear HB_20 HV_20 HG_20 HIt0_20 HIt1_20 hb
      have HPH := Lib.hid ha.prs
      have HH_21 := Lib.hid (ha.own)
      clear ha
      clear HIt0_21
      clear HIt1_21
      go_wp2_with fail
      refine (eqIntSS_r aH aV w21 (prs_eqv HPH.out HPV.out) (Nst.own_in HH_21.out) (Nst.own_in HV_21.out) (prs_fit HPH.out HVL.out)).mono ?_
      rintro e w22 ⟨rfl, hb⟩
      have Z22 := Lib.hid hb.size
      have HB_22 := Lib.hid (Below_next HB_21.out hb)
      have HV_22 := Lib.hid (Nst.keepB HV_21.out hb)
      have HG_22 := Lib.hid (Nst.keepB HG_21.out hb)
      have HH_22 := Lib.hid (Nst.keepB HH_21.out hb)
      clear HB_21 HV_21 HG_21 HH_21 hb
      go_wp2_with fail
      refine (heldIntSS_r aG _ 1 w22 rfl (Nst.own_in HG_22.out) (prs_fit HPG.out HVL.out) (by omega)).mono ?_
      rintro e w23 ⟨rfl, hb⟩
      have Z23 := Lib.hid hb.size
      have HB_23 := Lib.hid (Below_next HB_22.out hb)
      have HV_23 := Lib.hid (Nst.keepB HV_22.out hb)
      have HG_23 := Lib.hid (Nst.keepB HG_22.out hb)
      have HH_23 := Lib.hid (Nst.keepB HH_22.out hb)
      clear HB_22 HV_22 HG_22 HH_22 hb
      go_wp2
      go_ret
      exact ⟨rfl, Below_next HBW.out HB_23.out⟩
end Go.Proofs.Ythbkfekbpjkhnaa

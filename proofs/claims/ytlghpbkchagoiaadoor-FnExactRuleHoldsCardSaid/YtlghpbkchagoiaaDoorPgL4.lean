/- The walk of the law RuleHolds. -/
import Derived.Test.YtlghpbkchagoiaaDoorPgRh
import Derived.Test.YtlghpbkchagoiaaDoorBc
import Derived.Deep.RegionHeld3
namespace Go.Proofs.YtlghpbkchagoiaaDoor
open Go.ChangeShapes Go.WideShapes Go.ChangeAt Go.RowKit Go.PlainAid Go.Sort
set_option linter.unusedVariables false

theorem sRuleHolds_n (A L : Option Addr) (c d : Nat) (x : Cd) (P1 : Option Addr) (c1 n1 : Nat) (xs ys1 : List Im) (hs1 : SameS xs ys1) (hn1 : xs.length = n1) (r : Int) (w : World) (hr : CdAt w A L x) (hl : CdFits x) (hp1 : Ims w w.heap.size P1 ys1) (hq1 : ImsFits xs) :
    Calls Tryd.prog 6 #[x.val A c L d, .slice P1 n1 c1, .int .i64 r] w fun e w' => e = .returned (rhV x xs r) ∧ Below w.heap.size w w' := by
  subst hn1
  rw [← hs1.len, ← rhV_same (x := x) hs1 r]
  exact sRuleHolds_any A L c d x P1 c1 ys1 r w hr hl hp1 (hs1.fits hq1)
theorem iRuleHolds_n (A L : Option Addr) (c d : Nat) (x : Cd) (P1 : Option Addr) (c1 n1 : Nat) (xs ys1 : List Im) (hs1 : SameS xs ys1) (hn1 : xs.length = n1) (r : Int) (w : World) (hr : CdAt w A L x) (hl : CdFits x) (hp1 : Ims w w.heap.size P1 ys1) (hq1 : ImsFits xs) (ht : Tab w) :
    Calls Tryd.prog 9 #[x.val A c L d, .slice P1 n1 c1, .int .i64 r] w fun e w' => e = .returned (rhV x xs r) ∧ Below w.heap.size w w' := by
  subst hn1
  rw [← hs1.len, ← rhV_same (x := x) hs1 r]
  exact iRuleHolds_any A L c d x P1 c1 ys1 r w hr hl hp1 (hs1.fits hq1) ht

set_option maxHeartbeats 4000000 in
theorem walkRuleHolds (A : Option Addr) (c : Nat) (L : Option Addr) (d : Nat) (x : Cd) (P1 : Option Addr) (c1 : Nat) (xs : List Im) (r : Int) (w : World) (hr : CdAt w A L x) (hl : CdLen x) (hp1 : Ims w w.heap.size P1 xs) (hq1 : ImsLen xs) (hw2 : (Lit.int .i64 r).wf = true) (ht : Tab w) :
    Calls Tryd.prog 3 #[x.val A c L d, .slice P1 xs.length c1, .int .i64 r] w fun e w' => e = .returned (.bool true) ∧ Below w.heap.size w w' := by
  obtain ⟨p, q, hv⟩ := rhV_form x xs r
  have HV := Lib.hid hv
  clear hv
  obtain ⟨W, hW, hBx⟩ := boxed 25 w A c L d x
  have HBW := Lib.hid hBx.below
  have HX := Lib.hid hBx.at_
  have HR := Lib.hid (hr.below hBx.below)
  have HT := Lib.hid (ht.next hBx.below)
  have HL := Lib.hid hl
  have HP1 := Lib.hid (hp1.next hBx.below)
  have HQ1 := Lib.hid hq1
  clear hp1 hq1
  clear hr hl ht hBx
  unfold boxCd at hW
  unfold Cd.val
  have HB_0 := Lib.hid (Below.refl W.heap.size W)
  go_enter Tryd.func3, Tryd.ntmps3
  go_wp2_with fail
  rw [← hW]
  clear hW
  refine (szCode_any A L c d x W (HR.out.below HB_0.out) HL.out).mono ?_
  rintro e w1 ⟨⟨q0, rfl, hq⟩, hb⟩
  have Z1 := Lib.hid hb.size
  have HB_1 := Lib.hid (Below_next HB_0.out hb)
  clear HB_0 hb
  rcases hq with hq | ⟨hq00, hq10, HF0⟩
  · go_wp2
    go_ret
    exact ⟨rfl, Below_next HBW.out HB_1.out⟩
  · have hq10 : q0 ≤ 1048576 := by omega
    go_wp2_with fail
    refine (szItemS_any P1 c1 xs q0 w1 (HP1.out.next HB_1.out) HQ1.out hq00 hq10).mono ?_
    rintro e w2 ⟨⟨q1, rfl, hq⟩, hb⟩
    have Z2 := Lib.hid hb.size
    have HB_2 := Lib.hid (Below_next HB_1.out hb)
    clear HB_1 hb
    rcases hq with hq | ⟨hq01, hq11, HF1⟩
    · go_wp2
      go_ret
      exact ⟨rfl, Below_next HBW.out HB_2.out⟩
    · have hq11 : q1 ≤ 1048576 := by omega
      obtain ⟨c0, c1, c2, c3, c4, c5⟩ := (HX.out.next HB_2.out).box
      go_wp2_with fail
      clear c0 c1 c2 c3 c4 c5
      refine (toCode_any A L c d x w2 (HR.out.below HB_2.out) HF0.out).mono ?_
      rintro e w3 ⟨⟨ga3, gb3, rfl, hn⟩, hb⟩
      have Z3 := Lib.hid hb.size
      have HB_3 := Lib.hid (Below_next HB_2.out hb)
      clear HB_2 hb
      have HN_3 := Lib.hid (hn.at_)
      clear hn
      go_wp2_with fail
      refine (toItemS_c P1 c1 xs w3 (HP1.out.next HB_3.out) HF1.out).mono ?_
      rintro e w4 ⟨rfl, ⟨ys4, g4, G4, hs, ho⟩, hb⟩
      have Z4 := Lib.hid hb.size
      have HB_4 := Lib.hid (Below_next HB_3.out hb)
      have HN_4 := Lib.hid (HN_3.out.below hb)
      clear HB_3 HN_3 hb
      have HS4 := Lib.hid hs
      have HIt1_4 := Lib.hid (ho)
      clear hs ho
      go_wp2_with fail
      refine (sRuleHolds_n _ _ _ _ x _ _ _ xs ys4 HS4.out rfl r w4 HN_4.out HF0.out HIt1_4.out.ims HF1.out).mono ?_
      rintro e w5 ⟨he, hb⟩
      have Z5 := Lib.hid hb.size
      have HB_5 := Lib.hid (Below_next HB_4.out hb)
      have HN_5 := Lib.hid (HN_4.out.below hb)
      have HIt1_5 := Lib.hid (HIt1_4.out.next hb)
      clear HB_4 HN_4 HIt1_4 hb
      rw [HV.out] at he
      subst he
      clear HN_5
      clear HIt1_5
      obtain ⟨c0, c1, c2, c3, c4, c5⟩ := (HX.out.next HB_5.out).box
      go_wp2_with fail
      clear c0 c1 c2 c3 c4 c5
      refine (toCode_any A L c d x w5 (HR.out.below HB_5.out) HF0.out).mono ?_
      rintro e w6 ⟨⟨ga6, gb6, rfl, hn⟩, hb⟩
      have Z6 := Lib.hid hb.size
      have HB_6 := Lib.hid (Below_next HB_5.out hb)
      clear HB_5 hb
      have HN_6 := Lib.hid (hn.at_)
      have HC_6 := Lib.hid (hn.own)
      have hne := hn.ne
      have hge1 := hn.le1
      have hge2 := hn.le2
      have hlt1 := hn.lt1
      have hlt2 := hn.lt2
      clear hn
      obtain ⟨w7, hW, hB⟩ := boxed 33 w6 (some ⟨ga6, 0, none⟩) x.els.length (some ⟨gb6, 0, none⟩) x.lims.length x
      have hb := hB.below
      have Z7 := Lib.hid hb.size
      have HB_7 := Lib.hid (Below_next HB_6.out hb)
      have HN_7 := Lib.hid (HN_6.out.below hb)
      have HC_7 := Lib.hid (HC_6.out.keepB hb)
      clear HB_6 HN_6 HC_6 hb
      have HY_7 := Lib.hid (hB.at_)
      clear hB
      unfold boxCd at hW
      go_wp2_with fail
      rw [← hW]
      clear hW
      refine (toItemS_c P1 c1 xs w7 (HP1.out.next HB_7.out) HF1.out).mono ?_
      rintro e w8 ⟨rfl, ⟨ys8, g8, G8, hs, ho⟩, hb⟩
      have Z8 := Lib.hid hb.size
      have HB_8 := Lib.hid (Below_next HB_7.out hb)
      have HN_8 := Lib.hid (HN_7.out.below hb)
      have HC_8 := Lib.hid (HC_7.out.keepB hb)
      have HY_8 := Lib.hid (HY_7.out.next hb)
      clear HB_7 HN_7 HC_7 HY_7 hb
      have HS8 := Lib.hid hs
      have HIx1_8 := Lib.hid (ho)
      clear hs ho
      obtain ⟨c0, c1, c2, c3, c4, c5⟩ := HY_8.out.box
      go_wp2_with fail
      clear c0 c1 c2 c3 c4 c5
      refine (iRuleHolds_n _ _ _ _ x _ _ _ xs ys8 HS8.out rfl r w8 HN_8.out HF0.out HIx1_8.out.ims HF1.out (HT.out.next HB_8.out)).mono ?_
      rintro e w9 ⟨he, hb⟩
      have Z9 := Lib.hid hb.size
      have HB_9 := Lib.hid (Below_next HB_8.out hb)
      have HN_9 := Lib.hid (HN_8.out.below hb)
      have HC_9 := Lib.hid (HC_8.out.keepB hb)
      have HY_9 := Lib.hid (HY_8.out.next hb)
      have HIx1_9 := Lib.hid (HIx1_8.out.next hb)
      clear HB_8 HN_8 HC_8 HY_8 HIx1_8 hb
      rw [HV.out] at he
      subst he
      go_wp2_with fail
      have hb := below_drewn w9
      have Z10 := Lib.hid hb.size
      have HB_10 := Lib.hid (Below_next HB_9.out hb)
      have HN_10 := Lib.hid (HN_9.out.below hb)
      have HC_10 := Lib.hid (HC_9.out.keepB hb)
      have HY_10 := Lib.hid (HY_9.out.next hb)
      have HIx1_10 := Lib.hid (HIx1_9.out.next hb)
      clear HB_9 HN_9 HC_9 HY_9 HIx1_9 hb
      go_region_held3 (fun w' => w'.cell? ⟨w.heap.size, 0, none⟩ = some (.slice A x.els.length c) ∧ w'.cell? ⟨w.heap.size, 1, none⟩ = some (.slice L x.lims.length d) ∧ w'.cell? ⟨w.heap.size, 2, none⟩ = some (.int .i64 x.rep) ∧ w'.cell? ⟨w.heap.size, 3, none⟩ = some (.int .i64 x.bon) ∧ w'.cell? ⟨w.heap.size, 4, none⟩ = some (.int .i64 x.kee) ∧ w'.cell? ⟨w.heap.size, 5, none⟩ = some (.int .i64 x.fal) ∧ w'.cell? ⟨w6.heap.size, 0, none⟩ = some (.slice (some ⟨ga6, 0, none⟩) x.els.length x.els.length) ∧ w'.cell? ⟨w6.heap.size, 1, none⟩ = some (.slice (some ⟨gb6, 0, none⟩) x.lims.length x.lims.length) ∧ w'.cell? ⟨w6.heap.size, 2, none⟩ = some (.int .i64 x.rep) ∧ w'.cell? ⟨w6.heap.size, 3, none⟩ = some (.int .i64 x.bon) ∧ w'.cell? ⟨w6.heap.size, 4, none⟩ = some (.int .i64 x.kee) ∧ w'.cell? ⟨w6.heap.size, 5, none⟩ = some (.int .i64 x.fal))
        (first | exact box2 (HX.out.next HB_10.out) HY_10.out | exact box2 (HX.out.next HB_11.out) HY_11.out | exact box2 (HX.out.next HB_12.out) HY_12.out)
        (first
          | (go_at_call 7; refine (toCode_any A L c d x _ (HR.out.below HB_10.out) HF0.out).mono ?_; rintro e w11 ⟨⟨ga11, gb11, rfl, hn⟩, hb⟩; have Z11 := Lib.hid hb.size; have HB_11 := Lib.hid (Below_next HB_10.out hb); have HN_11 := Lib.hid (HN_10.out.below hb); have HC_11 := Lib.hid (HC_10.out.keepB hb); have HY_11 := Lib.hid (HY_10.out.next hb); have HIx1_11 := Lib.hid (HIx1_10.out.next hb); have HM11 := Lib.hid hn.at_; clear hb hn)
          | (go_at_call 10; refine (eqCode_yes _ _ _ _ _ _ _ _ x _ HN_11.out HM11.out HF0.out).mono ?_; rintro e w12 ⟨rfl, hb⟩; have Z12 := Lib.hid hb.size; have HB_12 := Lib.hid (Below_next HB_11.out hb); have HN_12 := Lib.hid (HN_11.out.below hb); have HC_12 := Lib.hid (HC_11.out.keepB hb); have HY_12 := Lib.hid (HY_11.out.next hb); have HIx1_12 := Lib.hid (HIx1_11.out.next hb); clear hb)
          )
      clear HM11 HB_10 HB_11 HN_10 HN_11 HC_10 HC_11 HY_10 HY_11 HIx1_10 HIx1_11
      go_wp2_with fail
      refine (toItemS_c P1 c1 xs w12 (HP1.out.next HB_12.out) HF1.out).mono ?_
      rintro e w13 ⟨rfl, ⟨zs, g', G', hs', ho'⟩, hb⟩
      have Z13 := Lib.hid hb.size
      have HB_13 := Lib.hid (Below_next HB_12.out hb)
      have HN_13 := Lib.hid (HN_12.out.below hb)
      have HC_13 := Lib.hid (HC_12.out.keepB hb)
      have HY_13 := Lib.hid (HY_12.out.next hb)
      have HIx1_13 := Lib.hid (HIx1_12.out.next hb)
      clear HB_12 HN_12 HC_12 HY_12 HIx1_12 hb
      have HC := Lib.hid (eqItemS_n (some ⟨w7.heap.size, 0, none⟩) (some ⟨w12.heap.size, 0, none⟩) xs.length xs.length xs.length ys8 zs HS8.out.len w13 (HS8.out.symm.trans hs') HIx1_13.out.ims ho'.ims (HS8.out.fits HF1.out))
      clear hs' ho'
      go_wp2_with fail
      refine (HC.out).mono ?_
      rintro e w14 ⟨rfl, hb⟩
      have Z14 := Lib.hid hb.size
      have HB_14 := Lib.hid (Below_next HB_13.out hb)
      have HN_14 := Lib.hid (HN_13.out.below hb)
      have HC_14 := Lib.hid (HC_13.out.keepB hb)
      have HY_14 := Lib.hid (HY_13.out.next hb)
      have HIx1_14 := Lib.hid (HIx1_13.out.next hb)
      clear HB_13 HN_13 HC_13 HY_13 HIx1_13 hb
      clear HC
      go_wp2
      go_ret
      exact ⟨rfl, Below_next HBW.out HB_14.out⟩
end Go.Proofs.YtlghpbkchagoiaaDoor

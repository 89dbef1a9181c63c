/- The walk of the law CountSingles. -/
import Derived.Test.YtocjkhfghldnnaaDoorPnG
import Derived.Test.YtocjkhfghldnnaaDoorCdL1
import Derived.Test.YtocjkhfghldnnaaDoorCdM
import Derived.Deep.RegionHeld3
namespace Go.Proofs.YtocjkhfghldnnaaDoor
open Go.ChangeShapes Go.WideShapes Go.ChangeAt Go.RowKit Go.PlainAid Go.Sort
set_option linter.unusedVariables false

theorem sCountSingles_n (A L : Option Addr) (c d : Nat) (x : Cd) (n : Int) (w : World) (hr : CdAt w A L x) (hl : CdFits x) :
    Calls Tryd.prog 18 #[x.val A c L d, .int .i64 n] w fun e w' => e = .returned (csV x n) ∧ Below w.heap.size w w' := by
  exact sCountSingles_any A L c d x n w hr hl
theorem iCountSingles_n (A L : Option Addr) (c d : Nat) (x : Cd) (n : Int) (w : World) (hr : CdAt w A L x) (hl : CdFits x) (ht : Tab w) :
    Calls Tryd.prog 19 #[x.val A c L d, .int .i64 n] w fun e w' => e = .returned (csV x n) ∧ Below w.heap.size w w' := by
  exact iCountSingles_any A L c d x n w hr hl ht

set_option maxHeartbeats 4000000 in
theorem walkCountSingles (A : Option Addr) (c : Nat) (L : Option Addr) (d : Nat) (x : Cd) (n : Int) (w : World) (hr : CdAt w A L x) (hl : CdLen x) (hw1 : (Lit.int .i64 n).wf = true) (ht : Tab w) :
    Calls Tryd.prog 5 #[x.val A c L d, .int .i64 n] w fun e w' => e = .returned (.bool true) ∧ Below w.heap.size w w' := by
  obtain ⟨p, q, hv⟩ := csV_form x n
  have HV := Lib.hid hv
  clear hv
  obtain ⟨W, hW, hBx⟩ := boxed 25 w A c L d x
  have HBW := Lib.hid hBx.below
  have HX := Lib.hid hBx.at_
  have HR := Lib.hid (hr.below hBx.below)
  have HT := Lib.hid (ht.next hBx.below)
  have HL := Lib.hid hl
  clear hr hl ht hBx
  unfold boxCd at hW
  unfold Cd.val
  have HB_0 := Lib.hid (Below.refl W.heap.size W)
  go_enter Tryd.func5, Tryd.ntmps5
  go_wp2_with fail
  rw [← hW]
  clear hW
  refine (szCode_any A L c d x W (HR.out.below HB_0.out) HL.out).mono ?_
  rintro e w1 ⟨⟨q0, rfl, hq⟩, hb⟩
  have Z1 := Lib.hid hb.size
  have HB_1 := Lib.hid (Below_next HB_0.out hb)
  clear HB_0 hb
  rcases hq with hq | ⟨hq00, hq10, HF0⟩
  · go_wp2
    go_ret
    exact ⟨rfl, Below_next HBW.out HB_1.out⟩
  · have hq10 : q0 ≤ 1048576 := by omega
    obtain ⟨c0, c1, c2, c3, c4, c5⟩ := (HX.out.next HB_1.out).box
    go_wp2_with fail
    clear c0 c1 c2 c3 c4 c5
    refine (toCode_any A L c d x w1 (HR.out.below HB_1.out) HF0.out).mono ?_
    rintro e w2 ⟨⟨ga2, gb2, rfl, hn⟩, hb⟩
    have Z2 := Lib.hid hb.size
    have HB_2 := Lib.hid (Below_next HB_1.out hb)
    clear HB_1 hb
    have HN_2 := Lib.hid (hn.at_)
    clear hn
    go_wp2_with fail
    refine (sCountSingles_n _ _ _ _ x n w2 HN_2.out HF0.out).mono ?_
    rintro e w3 ⟨he, hb⟩
    have Z3 := Lib.hid hb.size
    have HB_3 := Lib.hid (Below_next HB_2.out hb)
    have HN_3 := Lib.hid (HN_2.out.below hb)
    clear HB_2 HN_2 hb
    rw [HV.out] at he
    subst he
    clear HN_3
    obtain ⟨c0, c1, c2, c3, c4, c5⟩ := (HX.out.next HB_3.out).box
    go_wp2_with fail
    clear c0 c1 c2 c3 c4 c5
    refine (toCode_any A L c d x w3 (HR.out.below HB_3.out) HF0.out).mono ?_
    rintro e w4 ⟨⟨ga4, gb4, rfl, hn⟩, hb⟩
    have Z4 := Lib.hid hb.size
    have HB_4 := Lib.hid (Below_next HB_3.out hb)
    clear HB_3 hb
    have HN_4 := Lib.hid (hn.at_)
    have HC_4 := Lib.hid (hn.own)
    have hne := hn.ne
    have hge1 := hn.le1
    have hge2 := hn.le2
    have hlt1 := hn.lt1
    have hlt2 := hn.lt2
    clear hn
    obtain ⟨w5, hW, hB⟩ := boxed 31 w4 (some ⟨ga4, 0, none⟩) x.els.length (some ⟨gb4, 0, none⟩) x.lims.length x
    have hb := hB.below
    have Z5 := Lib.hid hb.size
    have HB_5 := Lib.hid (Below_next HB_4.out hb)
    have HN_5 := Lib.hid (HN_4.out.below hb)
    have HC_5 := Lib.hid (HC_4.out.keepB hb)
    clear HB_4 HN_4 HC_4 hb
    have HY_5 := Lib.hid (hB.at_)
    clear hB
    unfold boxCd at hW
    go_wp2_with fail
    rw [← hW]
    clear hW
    refine (iCountSingles_n _ _ _ _ x n w5 HN_5.out HF0.out (HT.out.next HB_5.out)).mono ?_
    rintro e w6 ⟨he, hb⟩
    have Z6 := Lib.hid hb.size
    have HB_6 := Lib.hid (Below_next HB_5.out hb)
    have HN_6 := Lib.hid (HN_5.out.below hb)
    have HC_6 := Lib.hid (HC_5.out.keepB hb)
    have HY_6 := Lib.hid (HY_5.out.next hb)
    clear HB_5 HN_5 HC_5 HY_5 hb
    rw [HV.out] at he
    subst he
    go_wp2_with fail
    have hb := below_drewn w6
    have Z7 := Lib.hid hb.size
    have HB_7 := Lib.hid (Below_next HB_6.out hb)
    have HN_7 := Lib.hid (HN_6.out.below hb)
    have HC_7 := Lib.hid (HC_6.out.keepB hb)
    have HY_7 := Lib.hid (HY_6.out.next hb)
    clear HB_6 HN_6 HC_6 HY_6 hb
    go_region_held3 (fun w' => w'.cell? ⟨w.heap.size, 0, none⟩ = some (.slice A x.els.length c) ∧ w'.cell? ⟨w.heap.size, 1, none⟩ = some (.slice L x.lims.length d) ∧ w'.cell? ⟨w.heap.size, 2, none⟩ = some (.int .i64 x.rep) ∧ w'.cell? ⟨w.heap.size, 3, none⟩ = some (.int .i64 x.bon) ∧ w'.cell? ⟨w.heap.size, 4, none⟩ = some (.int .i64 x.kee) ∧ w'.cell? ⟨w.heap.size, 5, none⟩ = some (.int .i64 x.fal) ∧ w'.cell? ⟨w4.heap.size, 0, none⟩ = some (.slice (some ⟨ga4, 0, none⟩) x.els.length x.els.length) ∧ w'.cell? ⟨w4.heap.size, 1, none⟩ = some (.slice (some ⟨gb4, 0, none⟩) x.lims.length x.lims.length) ∧ w'.cell? ⟨w4.heap.size, 2, none⟩ = some (.int .i64 x.rep) ∧ w'.cell? ⟨w4.heap.size, 3, none⟩ = some (.int .i64 x.bon) ∧ w'.cell? ⟨w4.heap.size, 4, none⟩ = some (.int .i64 x.kee) ∧ w'.cell? ⟨w4.heap.size, 5, none⟩ = some (.int .i64 x.fal))
      (first | exact box2 (HX.out.next HB_7.out) HY_7.out | exact box2 (HX.out.next HB_8.out) HY_8.out | exact box2 (HX.out.next HB_9.out) HY_9.out)
      (first
        | (go_at_call 9; refine (toCode_any A L c d x _ (HR.out.below HB_7.out) HF0.out).mono ?_; rintro e w8 ⟨⟨ga8, gb8, rfl, hn⟩, hb⟩; have Z8 := Lib.hid hb.size; have HB_8 := Lib.hid (Below_next HB_7.out hb); have HN_8 := Lib.hid (HN_7.out.below hb); have HC_8 := Lib.hid (HC_7.out.keepB hb); have HY_8 := Lib.hid (HY_7.out.next hb); have HM8 := Lib.hid hn.at_; clear hb hn)
        | (go_at_call 11; refine (eqCode_yes _ _ _ _ _ _ _ _ x _ HN_8.out HM8.out HF0.out).mono ?_; rintro e w9 ⟨rfl, hb⟩; have Z9 := Lib.hid hb.size; have HB_9 := Lib.hid (Below_next HB_8.out hb); have HN_9 := Lib.hid (HN_8.out.below hb); have HC_9 := Lib.hid (HC_8.out.keepB hb); have HY_9 := Lib.hid (HY_8.out.next hb); clear hb)
        )
    clear HM8 HB_7 HB_8 HN_7 HN_8 HC_7 HC_8 HY_7 HY_8
    go_wp2
    go_ret
    exact ⟨rfl, Below_next HBW.out HB_9.out⟩
end Go.Proofs.YtocjkhfghldnnaaDoor

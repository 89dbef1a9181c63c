/- The walks of the laws GreatestBase, OfFamily and LevelsOf. -/
import Derived.Test.YtmncigeelfappaaDoorCdQ
import Derived.Test.YtmncigeelfappaaDoorCdM
namespace Go.Proofs.YtmncigeelfappaaDoor
open Go.ChangeShapes Go.WideShapes Go.ChangeAt Go.RowKit Go.PlainAid Go.Sort
set_option linter.unusedVariables false

theorem famR_len (x : Cd) (f : Int) : (famR x f).length ≤ x.els.length := by
  by_cases h : AskOk x f
  · rw [famR_yes h]
    exact famTo_len _ _ _
  · rw [famR_no h]
    exact Nat.zero_le _
theorem lvR_len (x : Cd) (f : Int) : (lvR x f).length ≤ 5 := by
  by_cases h : AskOk x f
  · rw [lvR_yes h, lvOf_len]
    exact Nat.le_refl _
  · rw [lvR_no h]
    exact Nat.zero_le _

set_option maxHeartbeats 2000000 in
theorem walkGreatestBase (A : Option Addr) (c : Nat) (L : Option Addr) (d : Nat) (x : Cd) (f : Int) (w : World) (hr : CdAt w A L x) (hl : CdLen x) (hfw : (Lit.int .i64 f).wf = true) (ht : Tab w) :
    Calls Tryd.prog 7 #[x.val A c L d, .int .i64 f] w fun e w' => e = .returned (.bool true) ∧ Below w.heap.size w w' := by
  obtain ⟨W, hW, hB⟩ := boxed 25 w A c L d x
  have HB0 := Lib.hid hB.below
  have HX0 := Lib.hid hB.at_
  have HR0 := Lib.hid (hr.below hB.below)
  have HT0 := Lib.hid (ht.next hB.below)
  have HL := Lib.hid hl
  clear hr hl ht hB
  unfold boxCd at hW
  unfold Cd.val
  go_enter Tryd.func7, Tryd.ntmps7
  go_wp2_with fail
  rw [← hW]
  clear hW
  refine (szCode_any A L c d x W HR0.out HL.out).mono ?_
  rintro e w1 ⟨⟨q, rfl, hq⟩, hb⟩
  have HB1 := Lib.hid (Below_next HB0.out hb)
  have HX1 := Lib.hid (HX0.out.next hb)
  have HR1 := Lib.hid (HR0.out.below hb)
  have HT1 := Lib.hid (HT0.out.next hb)
  clear HB0 HX0 HR0 HT0
  clear hb
  rcases hq with hq | ⟨hq0, hq1, HF⟩
  · go_wp2
    go_ret
    exact ⟨rfl, HB1.out⟩
  · clear HL
    obtain ⟨c0, c1, c2, c3, c4, c5⟩ := HX1.out.box
    go_wp2_with fail
    clear c0 c1 c2 c3 c4 c5
    refine (toCode_any A L c d x w1 HR1.out HF.out).mono ?_
    rintro e w2 ⟨⟨ga2, gb2, rfl, hn⟩, hb⟩
    have HB2 := Lib.hid (Below_next HB1.out hb)
    have HX2 := Lib.hid (HX1.out.next hb)
    have HR2 := Lib.hid (HR1.out.below hb)
    have HT2 := Lib.hid (HT1.out.next hb)
    clear HB1 HX1 HR1 HT1
    have HN2 := Lib.hid (hn.at_)
    clear hb
    clear hn
    go_wp2_with fail
    refine (sGreatest_any _ _ _ _ x f w2 HN2.out HF.out).mono ?_
    rintro e w3 ⟨rfl, hb⟩
    have HB3 := Lib.hid (Below_next HB2.out hb)
    have HX3 := Lib.hid (HX2.out.next hb)
    have HR3 := Lib.hid (HR2.out.below hb)
    have HT3 := Lib.hid (HT2.out.next hb)
    clear HB2 HX2 HR2 HT2
    clear hb
    obtain ⟨c0, c1, c2, c3, c4, c5⟩ := HX3.out.box
    go_wp2_with fail
    clear c0 c1 c2 c3 c4 c5
    refine (toCode_any A L c d x w3 HR3.out HF.out).mono ?_
    rintro e w4 ⟨⟨ga4, gb4, rfl, hn⟩, hb⟩
    have HB4 := Lib.hid (Below_next HB3.out hb)
    have HX4 := Lib.hid (HX3.out.next hb)
    have HR4 := Lib.hid (HR3.out.below hb)
    have HT4 := Lib.hid (HT3.out.next hb)
    clear HB3 HX3 HR3 HT3
    have HN4 := Lib.hid (hn.at_)
    clear hb
    obtain ⟨w5, hW, hB⟩ := boxed 30 w4 (some ⟨ga4, 0, none⟩) x.els.length (some ⟨gb4, 0, none⟩) x.lims.length x
    have hb := hB.below
    have HB5 := Lib.hid (Below_next HB4.out hb)
    have HX5 := Lib.hid (HX4.out.next hb)
    have HR5 := Lib.hid (HR4.out.below hb)
    have HT5 := Lib.hid (HT4.out.next hb)
    have HN5 := Lib.hid (HN4.out.below hb)
    clear HB4 HX4 HR4 HT4 HN4
    have HY5 := Lib.hid (hB.at_)
    clear hb hB hn
    unfold boxCd at hW
    go_wp2_with fail
    rw [← hW]
    clear hW
    refine (iGreatest_any _ _ _ _ x f w5 HN5.out HF.out HT5.out).mono ?_
    rintro e w6 ⟨rfl, hb⟩
    have HB6 := Lib.hid (Below_next HB5.out hb)
    have HX6 := Lib.hid (HX5.out.next hb)
    have HR6 := Lib.hid (HR5.out.below hb)
    have HT6 := Lib.hid (HT5.out.next hb)
    have HN6 := Lib.hid (HN5.out.below hb)
    have HY6 := Lib.hid (HY5.out.next hb)
    clear HB5 HX5 HR5 HT5 HN5 HY5
    clear hb
    go_wp2_with fail
    have hb := below_drewn w6
    have HB7 := Lib.hid (Below_next HB6.out hb)
    have HX7 := Lib.hid (HX6.out.next hb)
    have HR7 := Lib.hid (HR6.out.below hb)
    have HT7 := Lib.hid (HT6.out.next hb)
    have HN7 := Lib.hid (HN6.out.below hb)
    have HY7 := Lib.hid (HY6.out.next hb)
    clear HB6 HX6 HR6 HT6 HN6 HY6
    clear hb
    go_region_held3 (fun w' => w'.cell? ⟨w.heap.size, 0, none⟩ = some (.slice A x.els.length c) ∧ w'.cell? ⟨w.heap.size, 1, none⟩ = some (.slice L x.lims.length d) ∧ w'.cell? ⟨w.heap.size, 2, none⟩ = some (.int .i64 x.rep) ∧ w'.cell? ⟨w.heap.size, 3, none⟩ = some (.int .i64 x.bon) ∧ w'.cell? ⟨w.heap.size, 4, none⟩ = some (.int .i64 x.kee) ∧ w'.cell? ⟨w.heap.size, 5, none⟩ = some (.int .i64 x.fal) ∧ w'.cell? ⟨w4.heap.size, 0, none⟩ = some (.slice (some ⟨ga4, 0, none⟩) x.els.length x.els.length) ∧ w'.cell? ⟨w4.heap.size, 1, none⟩ = some (.slice (some ⟨gb4, 0, none⟩) x.lims.length x.lims.length) ∧ w'.cell? ⟨w4.heap.size, 2, none⟩ = some (.int .i64 x.rep) ∧ w'.cell? ⟨w4.heap.size, 3, none⟩ = some (.int .i64 x.bon) ∧ w'.cell? ⟨w4.heap.size, 4, none⟩ = some (.int .i64 x.kee) ∧ w'.cell? ⟨w4.heap.size, 5, none⟩ = some (.int .i64 x.fal))
      (first | exact box2 HX7.out HY7.out | exact box2 HX8.out HY8.out | exact box2 HX9.out HY9.out)
      (first
        | (go_at_call 14; refine (toCode_any A L c d x _ HR7.out HF.out).mono ?_; rintro e w8 ⟨⟨ga8, gb8, rfl, hn⟩, hb⟩; have HB8 := Lib.hid (Below_next HB7.out hb); have HX8 := Lib.hid (HX7.out.next hb); have HR8 := Lib.hid (HR7.out.below hb); have HT8 := Lib.hid (HT7.out.next hb); have HN8 := Lib.hid (HN7.out.below hb); have HY8 := Lib.hid (HY7.out.next hb); have HM8 := Lib.hid hn.at_; clear hb hn)
        | (go_at_call 16; refine (eqCode_yes _ _ _ _ _ _ _ _ x _ HN8.out HM8.out HF.out).mono ?_; rintro e w9 ⟨rfl, hb⟩; have HB9 := Lib.hid (Below_next HB8.out hb); have HX9 := Lib.hid (HX8.out.next hb); have HR9 := Lib.hid (HR8.out.below hb); have HT9 := Lib.hid (HT8.out.next hb); have HN9 := Lib.hid (HN8.out.below hb); have HY9 := Lib.hid (HY8.out.next hb); clear hb)
        )
    go_wp2
    go_ret
    exact ⟨rfl, HB9.out⟩

set_option maxHeartbeats 2000000 in
theorem walkOfFamily (A : Option Addr) (c : Nat) (L : Option Addr) (d : Nat) (x : Cd) (f : Int) (w : World) (hr : CdAt w A L x) (hl : CdLen x) (hfw : (Lit.int .i64 f).wf = true) (ht : Tab w) :
    Calls Tryd.prog 5 #[x.val A c L d, .int .i64 f] w fun e w' => e = .returned (.bool true) ∧ Below w.heap.size w w' := by
  obtain ⟨W, hW, hB⟩ := boxed 25 w A c L d x
  have HB0 := Lib.hid hB.below
  have HX0 := Lib.hid hB.at_
  have HR0 := Lib.hid (hr.below hB.below)
  have HT0 := Lib.hid (ht.next hB.below)
  have HL := Lib.hid hl
  clear hr hl ht hB
  unfold boxCd at hW
  unfold Cd.val
  go_enter Tryd.func5, Tryd.ntmps5
  go_wp2_with fail
  rw [← hW]
  clear hW
  refine (szCode_any A L c d x W HR0.out HL.out).mono ?_
  rintro e w1 ⟨⟨q, rfl, hq⟩, hb⟩
  have HB1 := Lib.hid (Below_next HB0.out hb)
  have HX1 := Lib.hid (HX0.out.next hb)
  have HR1 := Lib.hid (HR0.out.below hb)
  have HT1 := Lib.hid (HT0.out.next hb)
  clear HB0 HX0 HR0 HT0
  clear hb
  rcases hq with hq | ⟨hq0, hq1, HF⟩
  · go_wp2
    go_ret
    exact ⟨rfl, HB1.out⟩
  · clear HL
    have hrl : (famR x f).length ≤ 1048576 := Nat.le_trans (famR_len x f) HF.out.1.1
    obtain ⟨c0, c1, c2, c3, c4, c5⟩ := HX1.out.box
    go_wp2_with fail
    clear c0 c1 c2 c3 c4 c5
    refine (toCode_any A L c d x w1 HR1.out HF.out).mono ?_
    rintro e w2 ⟨⟨ga2, gb2, rfl, hn⟩, hb⟩
    have HB2 := Lib.hid (Below_next HB1.out hb)
    have HX2 := Lib.hid (HX1.out.next hb)
    have HR2 := Lib.hid (HR1.out.below hb)
    have HT2 := Lib.hid (HT1.out.next hb)
    clear HB1 HX1 HR1 HT1
    have HN2 := Lib.hid (hn.at_)
    clear hb
    clear hn
    go_wp2_with fail
    refine (sOfFamily_any _ _ _ _ x f w2 HN2.out HF.out).mono ?_
    rintro e w3 ⟨A0, c0', rfl, ho, hb⟩
    have HB3 := Lib.hid (Below_next HB2.out hb)
    have HX3 := Lib.hid (HX2.out.next hb)
    have HR3 := Lib.hid (HR2.out.below hb)
    have HT3 := Lib.hid (HT2.out.next hb)
    clear HB2 HX2 HR2 HT2
    have HV3 := Lib.hid (ho.lst)
    clear hb ho
    have HS3 := Lib.hid (LawAt.mk' HB3.out HX3.out HR3.out HT3.out)
    clear HB3 HX3 HR3 HT3
    have HP3 := HV3
    clear HV3
    obtain ⟨c0, c1, c2, c3, c4, c5⟩ := HS3.out.box
    go_wp2_with fail
    clear c0 c1 c2 c3 c4 c5
    refine (toCode_any A L c d x w3 HS3.out.at_ HF.out).mono ?_
    rintro e w4 ⟨⟨ga4, gb4, rfl, hn⟩, hb⟩
    have HP4 := Lib.hid (HP3.out.below hb HS3.out.le)
    have HS4 := Lib.hid (HS3.out.next hb)
    clear HP3 HS3
    have HN4 := Lib.hid (hn.at_)
    clear hb
    have HC4 := Lib.hid (hn.own)
    have hne := hn.ne
    have hge1 := hn.le1
    have hge2 := hn.le2
    have hlt1 := hn.lt1
    have hlt2 := hn.lt2
    clear hn
    obtain ⟨w5, hW, hB⟩ := boxed 30 w4 (some ⟨ga4, 0, none⟩) x.els.length (some ⟨gb4, 0, none⟩) x.lims.length x
    have hb := hB.below
    have HP5 := Lib.hid (HP4.out.below hb HS4.out.le)
    have HS5 := Lib.hid (HS4.out.next hb)
    have HN5 := Lib.hid (HN4.out.below hb)
    have HC5 := Lib.hid (HC4.out.keepB hb)
    clear HP4 HS4 HN4 HC4
    have HY5 := Lib.hid (hB.at_)
    have hga := Nat.lt_of_lt_of_le hlt1 hb.size
    have hgb := Nat.lt_of_lt_of_le hlt2 hb.size
    clear hb hB hlt1 hlt2
    unfold boxCd at hW
    go_wp2_with fail
    rw [← hW]
    clear hW
    refine (iOfFamily_any _ _ _ _ x f w5 HN5.out HF.out HS5.out.tab).mono ?_
    rintro e w6 ⟨A1, c1', rfl, ho, hb⟩
    have HP6 := Lib.hid (HP5.out.below hb HS5.out.le)
    have HS6 := Lib.hid (HS5.out.next hb)
    have HN6 := Lib.hid (HN5.out.below hb)
    have HC6 := Lib.hid (HC5.out.keepB hb)
    have HY6 := Lib.hid (HY5.out.next hb)
    clear HP5 HS5 HN5 HC5 HY5
    have HG6 := Lib.hid (ho)
    clear hb ho
    go_wp2_with fail
    refine (eqIntS_b A1 A0 c1' c0' (famR x f) w6 HG6.out.lst (HP6.out.up HS6.out.le) hrl).mono ?_
    rintro e w7 ⟨rfl, hb⟩
    have HP7 := Lib.hid (HP6.out.below hb HS6.out.le)
    have HS7 := Lib.hid (HS6.out.next hb)
    have HN7 := Lib.hid (HN6.out.below hb)
    have HC7 := Lib.hid (HC6.out.keepB hb)
    have HY7 := Lib.hid (HY6.out.next hb)
    have HG7 := Lib.hid (HG6.out.keepB hb)
    clear HP6 HS6 HN6 HC6 HY6 HG6
    clear hb
    go_wp2_with fail
    have hb := below_drewn w7
    have HP8 := Lib.hid (HP7.out.below hb HS7.out.le)
    have HS8 := Lib.hid (HS7.out.next hb)
    have HN8 := Lib.hid (HN7.out.below hb)
    have HC8 := Lib.hid (HC7.out.keepB hb)
    have HY8 := Lib.hid (HY7.out.next hb)
    have HG8 := Lib.hid (HG7.out.keepB hb)
    clear HP7 HS7 HN7 HC7 HY7 HG7
    clear hb
    go_region_held3 (fun w' => w'.cell? ⟨w.heap.size, 0, none⟩ = some (.slice A x.els.length c) ∧ w'.cell? ⟨w.heap.size, 1, none⟩ = some (.slice L x.lims.length d) ∧ w'.cell? ⟨w.heap.size, 2, none⟩ = some (.int .i64 x.rep) ∧ w'.cell? ⟨w.heap.size, 3, none⟩ = some (.int .i64 x.bon) ∧ w'.cell? ⟨w.heap.size, 4, none⟩ = some (.int .i64 x.kee) ∧ w'.cell? ⟨w.heap.size, 5, none⟩ = some (.int .i64 x.fal) ∧ w'.cell? ⟨w4.heap.size, 0, none⟩ = some (.slice (some ⟨ga4, 0, none⟩) x.els.length x.els.length) ∧ w'.cell? ⟨w4.heap.size, 1, none⟩ = some (.slice (some ⟨gb4, 0, none⟩) x.lims.length x.lims.length) ∧ w'.cell? ⟨w4.heap.size, 2, none⟩ = some (.int .i64 x.rep) ∧ w'.cell? ⟨w4.heap.size, 3, none⟩ = some (.int .i64 x.bon) ∧ w'.cell? ⟨w4.heap.size, 4, none⟩ = some (.int .i64 x.kee) ∧ w'.cell? ⟨w4.heap.size, 5, none⟩ = some (.int .i64 x.fal))
      (first | exact box2 HS8.out.boxAt HY8.out | exact box2 HS9.out.boxAt HY9.out | exact box2 HS10.out.boxAt HY10.out)
      (first
        | (go_at_call 14; refine (toCode_any A L c d x _ HS8.out.at_ HF.out).mono ?_; rintro e w9 ⟨⟨ga9, gb9, rfl, hn⟩, hb⟩; have HP9 := Lib.hid (HP8.out.below hb HS8.out.le); have HS9 := Lib.hid (HS8.out.next hb); have HN9 := Lib.hid (HN8.out.below hb); have HC9 := Lib.hid (HC8.out.keepB hb); have HY9 := Lib.hid (HY8.out.next hb); have HG9 := Lib.hid (HG8.out.keepB hb); have HM9 := Lib.hid hn.at_; clear hb hn)
        | (go_at_call 16; refine (eqCode_yes _ _ _ _ _ _ _ _ x _ HN9.out HM9.out HF.out).mono ?_; rintro e w10 ⟨rfl, hb⟩; have HP10 := Lib.hid (HP9.out.below hb HS9.out.le); have HS10 := Lib.hid (HS9.out.next hb); have HN10 := Lib.hid (HN9.out.below hb); have HC10 := Lib.hid (HC9.out.keepB hb); have HY10 := Lib.hid (HY9.out.next hb); have HG10 := Lib.hid (HG9.out.keepB hb); clear hb)
        )
    obtain ⟨c0, c1, c2, c3, c4, c5⟩ := HY10.out.box
    go_wp2_with fail
    clear c0 c1 c2 c3 c4 c5
    refine (markCode_any ga4 gb4 _ _ _ _ x _ HC10.out hne HF.out).mono ?_
    rintro e w11 ⟨rfl, _, hk⟩
    have hb := hk.below HS10.out.le (fun i hi => by rcases hi with rfl | rfl; exact hge1; exact hge2)
    clear HN10 HC10 HY10
    have HP11 := Lib.hid (HP10.out.below hb (Nat.le_refl _))
    have HS11 := Lib.hid (HS10.out.goB hb)
    have HG11 := Lib.hid (HG10.out.keep hk (fun i h1 h2 => by omega))
    clear HP10 HS10 HG10
    clear hb hk
    go_wp2_with fail
    refine (eqIntS_b A1 A0 c1' c0' (famR x f) w11 HG11.out.lst (HP11.out.up HS11.out.le) hrl).mono ?_
    rintro e w12 ⟨rfl, hb⟩
    have HP12 := Lib.hid (HP11.out.below hb HS11.out.le)
    have HS12 := Lib.hid (HS11.out.next hb)
    have HG12 := Lib.hid (HG11.out.keepB hb)
    clear HP11 HS11 HG11
    clear hb
    go_wp2_with fail
    refine (markIntS_any _ A1 c1' (famR x f) 1 w12 HG12.out hrl (by omega) (by omega)).mono ?_
    rintro e w13 ⟨rfl, ho, hk⟩
    have hb := hk.below HS12.out.le (fun i hi => Nat.le_trans (Nat.le_trans hge1 (Nat.le_of_lt hga)) hi)
    clear HG12
    have HP13 := Lib.hid (HP12.out.below hb (Nat.le_refl _))
    have HS13 := Lib.hid (HS12.out.goB hb)
    clear HP12 HS12
    have HG13 := Lib.hid (ho)
    clear hb hk ho
    go_wp2_with fail
    refine (heldIntS_any A1 c1' (famR x f).length 1 w13 _ HG13.out.lst hrl (by omega) (by omega)).mono ?_
    rintro e w' ⟨rfl, hw⟩
    obtain rfl := hw.symm
    obtain ⟨c0, c1, c2, c3, c4, c5⟩ := HS13.out.box
    go_wp2_with fail
    clear c0 c1 c2 c3 c4 c5
    refine (toCode_any A L c d x w13 HS13.out.at_ HF.out).mono ?_
    rintro e w14 ⟨⟨ga14, gb14, rfl, hn⟩, hb⟩
    have HP14 := Lib.hid (HP13.out.below hb HS13.out.le)
    have HS14 := Lib.hid (HS13.out.next hb)
    have HG14 := Lib.hid (HG13.out.keepB hb)
    clear HP13 HS13 HG13
    have HN14 := Lib.hid (hn.at_)
    clear hb
    clear hn
    go_wp2_with fail
    refine (iOfFamily_any _ _ _ _ x f w14 HN14.out HF.out HS14.out.tab).mono ?_
    rintro e w15 ⟨A2, c2', rfl, ho, hb⟩
    clear HN14
    have HP15 := Lib.hid (HP14.out.below hb HS14.out.le)
    have HS15 := Lib.hid (HS14.out.next hb)
    have HG15 := Lib.hid (HG14.out.keepB hb)
    clear HP14 HS14 HG14
    have HH15 := Lib.hid (ho)
    clear hb ho
    go_wp2_with fail
    refine (eqIntS_b A2 A0 c2' c0' (famR x f) w15 HH15.out.lst (HP15.out.up HS15.out.le) hrl).mono ?_
    rintro e w16 ⟨rfl, hb⟩
    have HP16 := Lib.hid (HP15.out.below hb HS15.out.le)
    have HS16 := Lib.hid (HS15.out.next hb)
    have HG16 := Lib.hid (HG15.out.keepB hb)
    have HH16 := Lib.hid (HH15.out.keepB hb)
    clear HP15 HS15 HG15 HH15
    clear hb
    go_wp2_with fail
    refine (heldIntS_any A1 c1' (famR x f).length 1 w16 _ HG16.out.lst hrl (by omega) (by omega)).mono ?_
    rintro e w' ⟨rfl, hw⟩
    obtain rfl := hw.symm
    go_wp2_with fail
    go_ret
    exact ⟨rfl, HS16.out.bel⟩

set_option maxHeartbeats 2000000 in
theorem walkLevelsOf (A : Option Addr) (c : Nat) (L : Option Addr) (d : Nat) (x : Cd) (f : Int) (w : World) (hr : CdAt w A L x) (hl : CdLen x) (hfw : (Lit.int .i64 f).wf = true) (ht : Tab w) :
    Calls Tryd.prog 6 #[x.val A c L d, .int .i64 f] w fun e w' => e = .returned (.bool true) ∧ Below w.heap.size w w' := by
  obtain ⟨W, hW, hB⟩ := boxed 25 w A c L d x
  have HB0 := Lib.hid hB.below
  have HX0 := Lib.hid hB.at_
  have HR0 := Lib.hid (hr.below hB.below)
  have HT0 := Lib.hid (ht.next hB.below)
  have HL := Lib.hid hl
  clear hr hl ht hB
  unfold boxCd at hW
  unfold Cd.val
  go_enter Tryd.func6, Tryd.ntmps6
  go_wp2_with fail
  rw [← hW]
  clear hW
  refine (szCode_any A L c d x W HR0.out HL.out).mono ?_
  rintro e w1 ⟨⟨q, rfl, hq⟩, hb⟩
  have HB1 := Lib.hid (Below_next HB0.out hb)
  have HX1 := Lib.hid (HX0.out.next hb)
  have HR1 := Lib.hid (HR0.out.below hb)
  have HT1 := Lib.hid (HT0.out.next hb)
  clear HB0 HX0 HR0 HT0
  clear hb
  rcases hq with hq | ⟨hq0, hq1, HF⟩
  · go_wp2
    go_ret
    exact ⟨rfl, HB1.out⟩
  · clear HL
    have hrl : (lvR x f).length ≤ 1048576 := Nat.le_trans (lvR_len x f) (by decide)
    obtain ⟨c0, c1, c2, c3, c4, c5⟩ := HX1.out.box
    go_wp2_with fail
    clear c0 c1 c2 c3 c4 c5
    refine (toCode_any A L c d x w1 HR1.out HF.out).mono ?_
    rintro e w2 ⟨⟨ga2, gb2, rfl, hn⟩, hb⟩
    have HB2 := Lib.hid (Below_next HB1.out hb)
    have HX2 := Lib.hid (HX1.out.next hb)
    have HR2 := Lib.hid (HR1.out.below hb)
    have HT2 := Lib.hid (HT1.out.next hb)
    clear HB1 HX1 HR1 HT1
    have HN2 := Lib.hid (hn.at_)
    clear hb
    clear hn
    go_wp2_with fail
    refine (sLevels_any _ _ _ _ x f w2 HN2.out HF.out).mono ?_
    rintro e w3 ⟨A0, c0', rfl, ho, hb⟩
    have HB3 := Lib.hid (Below_next HB2.out hb)
    have HX3 := Lib.hid (HX2.out.next hb)
    have HR3 := Lib.hid (HR2.out.below hb)
    have HT3 := Lib.hid (HT2.out.next hb)
    clear HB2 HX2 HR2 HT2
    have HV3 := Lib.hid (ho.lst)
    clear hb ho
    have HS3 := Lib.hid (LawAt.mk' HB3.out HX3.out HR3.out HT3.out)
    clear HB3 HX3 HR3 HT3
    have HP3 := HV3
    clear HV3
    obtain ⟨c0, c1, c2, c3, c4, c5⟩ := HS3.out.box
    go_wp2_with fail
    clear c0 c1 c2 c3 c4 c5
    refine (toCode_any A L c d x w3 HS3.out.at_ HF.out).mono ?_
    rintro e w4 ⟨⟨ga4, gb4, rfl, hn⟩, hb⟩
    have HP4 := Lib.hid (HP3.out.below hb HS3.out.le)
    have HS4 := Lib.hid (HS3.out.next hb)
    clear HP3 HS3
    have HN4 := Lib.hid (hn.at_)
    clear hb
    have HC4 := Lib.hid (hn.own)
    have hne := hn.ne
    have hge1 := hn.le1
    have hge2 := hn.le2
    have hlt1 := hn.lt1
    have hlt2 := hn.lt2
    clear hn
    obtain ⟨w5, hW, hB⟩ := boxed 30 w4 (some ⟨ga4, 0, none⟩) x.els.length (some ⟨gb4, 0, none⟩) x.lims.length x
    have hb := hB.below
    have HP5 := Lib.hid (HP4.out.below hb HS4.out.le)
    have HS5 := Lib.hid (HS4.out.next hb)
    have HN5 := Lib.hid (HN4.out.below hb)
    have HC5 := Lib.hid (HC4.out.keepB hb)
    clear HP4 HS4 HN4 HC4
    have HY5 := Lib.hid (hB.at_)
    have hga := Nat.lt_of_lt_of_le hlt1 hb.size
    have hgb := Nat.lt_of_lt_of_le hlt2 hb.size
    clear hb hB hlt1 hlt2
    unfold boxCd at hW
    go_wp2_with fail
    rw [← hW]
    clear hW
    refine (iLevels_any _ _ _ _ x f w5 HN5.out HF.out HS5.out.tab).mono ?_
    rintro e w6 ⟨A1, c1', rfl, ho, hb⟩
    have HP6 := Lib.hid (HP5.out.below hb HS5.out.le)
    have HS6 := Lib.hid (HS5.out.next hb)
    have HN6 := Lib.hid (HN5.out.below hb)
    have HC6 := Lib.hid (HC5.out.keepB hb)
    have HY6 := Lib.hid (HY5.out.next hb)
    clear HP5 HS5 HN5 HC5 HY5
    have HG6 := Lib.hid (ho)
    clear hb ho
    go_wp2_with fail
    refine (eqIntS_b A1 A0 c1' c0' (lvR x f) w6 HG6.out.lst (HP6.out.up HS6.out.le) hrl).mono ?_
    rintro e w7 ⟨rfl, hb⟩
    have HP7 := Lib.hid (HP6.out.below hb HS6.out.le)
    have HS7 := Lib.hid (HS6.out.next hb)
    have HN7 := Lib.hid (HN6.out.below hb)
    have HC7 := Lib.hid (HC6.out.keepB hb)
    have HY7 := Lib.hid (HY6.out.next hb)
    have HG7 := Lib.hid (HG6.out.keepB hb)
    clear HP6 HS6 HN6 HC6 HY6 HG6
    clear hb
    go_wp2_with fail
    have hb := below_drewn w7
    have HP8 := Lib.hid (HP7.out.below hb HS7.out.le)
    have HS8 := Lib.hid (HS7.out.next hb)
    have HN8 := Lib.hid (HN7.out.below hb)
    have HC8 := Lib.hid (HC7.out.keepB hb)
    have HY8 := Lib.hid (HY7.out.next hb)
    have HG8 := Lib.hid (HG7.out.keepB hb)
    clear HP7 HS7 HN7 HC7 HY7 HG7
    clear hb
    go_region_held3 (fun w' => w'.cell? ⟨w.heap.size, 0, none⟩ = some (.slice A x.els.length c) ∧ w'.cell? ⟨w.heap.size, 1, none⟩ = some (.slice L x.lims.length d) ∧ w'.cell? ⟨w.heap.size, 2, none⟩ = some (.int .i64 x.rep) ∧ w'.cell? ⟨w.heap.size, 3, none⟩ = some (.int .i64 x.bon) ∧ w'.cell? ⟨w.heap.size, 4, none⟩ = some (.int .i64 x.kee) ∧ w'.cell? ⟨w.heap.size, 5, none⟩ = some (.int .i64 x.fal) ∧ w'.cell? ⟨w4.heap.size, 0, none⟩ = some (.slice (some ⟨ga4, 0, none⟩) x.els.length x.els.length) ∧ w'.cell? ⟨w4.heap.size, 1, none⟩ = some (.slice (some ⟨gb4, 0, none⟩) x.lims.length x.lims.length) ∧ w'.cell? ⟨w4.heap.size, 2, none⟩ = some (.int .i64 x.rep) ∧ w'.cell? ⟨w4.heap.size, 3, none⟩ = some (.int .i64 x.bon) ∧ w'.cell? ⟨w4.heap.size, 4, none⟩ = some (.int .i64 x.kee) ∧ w'.cell? ⟨w4.heap.size, 5, none⟩ = some (.int .i64 x.fal))
      (first | exact box2 HS8.out.boxAt HY8.out | exact box2 HS9.out.boxAt HY9.out | exact box2 HS10.out.boxAt HY10.out)
      (first
        | (go_at_call 14; refine (toCode_any A L c d x _ HS8.out.at_ HF.out).mono ?_; rintro e w9 ⟨⟨ga9, gb9, rfl, hn⟩, hb⟩; have HP9 := Lib.hid (HP8.out.below hb HS8.out.le); have HS9 := Lib.hid (HS8.out.next hb); have HN9 := Lib.hid (HN8.out.below hb); have HC9 := Lib.hid (HC8.out.keepB hb); have HY9 := Lib.hid (HY8.out.next hb); have HG9 := Lib.hid (HG8.out.keepB hb); have HM9 := Lib.hid hn.at_; clear hb hn)
        | (go_at_call 16; refine (eqCode_yes _ _ _ _ _ _ _ _ x _ HN9.out HM9.out HF.out).mono ?_; rintro e w10 ⟨rfl, hb⟩; have HP10 := Lib.hid (HP9.out.below hb HS9.out.le); have HS10 := Lib.hid (HS9.out.next hb); have HN10 := Lib.hid (HN9.out.below hb); have HC10 := Lib.hid (HC9.out.keepB hb); have HY10 := Lib.hid (HY9.out.next hb); have HG10 := Lib.hid (HG9.out.keepB hb); clear hb)
        )
    obtain ⟨c0, c1, c2, c3, c4, c5⟩ := HY10.out.box
    go_wp2_with fail
    clear c0 c1 c2 c3 c4 c5
    refine (markCode_any ga4 gb4 _ _ _ _ x _ HC10.out hne HF.out).mono ?_
    rintro e w11 ⟨rfl, _, hk⟩
    have hb := hk.below HS10.out.le (fun i hi => by rcases hi with rfl | rfl; exact hge1; exact hge2)
    clear HN10 HC10 HY10
    have HP11 := Lib.hid (HP10.out.below hb (Nat.le_refl _))
    have HS11 := Lib.hid (HS10.out.goB hb)
    have HG11 := Lib.hid (HG10.out.keep hk (fun i h1 h2 => by omega))
    clear HP10 HS10 HG10
    clear hb hk
    go_wp2_with fail
    refine (eqIntS_b A1 A0 c1' c0' (lvR x f) w11 HG11.out.lst (HP11.out.up HS11.out.le) hrl).mono ?_
    rintro e w12 ⟨rfl, hb⟩
    have HP12 := Lib.hid (HP11.out.below hb HS11.out.le)
    have HS12 := Lib.hid (HS11.out.next hb)
    have HG12 := Lib.hid (HG11.out.keepB hb)
    clear HP11 HS11 HG11
    clear hb
    go_wp2_with fail
    refine (markIntS_any _ A1 c1' (lvR x f) 1 w12 HG12.out hrl (by omega) (by omega)).mono ?_
    rintro e w13 ⟨rfl, ho, hk⟩
    have hb := hk.below HS12.out.le (fun i hi => Nat.le_trans (Nat.le_trans hge1 (Nat.le_of_lt hga)) hi)
    clear HG12
    have HP13 := Lib.hid (HP12.out.below hb (Nat.le_refl _))
    have HS13 := Lib.hid (HS12.out.goB hb)
    clear HP12 HS12
    have HG13 := Lib.hid (ho)
    clear hb hk ho
    go_wp2_with fail
    refine (heldIntS_any A1 c1' (lvR x f).length 1 w13 _ HG13.out.lst hrl (by omega) (by omega)).mono ?_
    rintro e w' ⟨rfl, hw⟩
    obtain rfl := hw.symm
    obtain ⟨c0, c1, c2, c3, c4, c5⟩ := HS13.out.box
    go_wp2_with fail
    clear c0 c1 c2 c3 c4 c5
    refine (toCode_any A L c d x w13 HS13.out.at_ HF.out).mono ?_
    rintro e w14 ⟨⟨ga14, gb14, rfl, hn⟩, hb⟩
    have HP14 := Lib.hid (HP13.out.below hb HS13.out.le)
    have HS14 := Lib.hid (HS13.out.next hb)
    have HG14 := Lib.hid (HG13.out.keepB hb)
    clear HP13 HS13 HG13
    have HN14 := Lib.hid (hn.at_)
    clear hb
    clear hn
    go_wp2_with fail
    refine (iLevels_any _ _ _ _ x f w14 HN14.out HF.out HS14.out.tab).mono ?_
    rintro e w15 ⟨A2, c2', rfl, ho, hb⟩
    clear HN14
    have HP15 := Lib.hid (HP14.out.below hb HS14.out.le)
    have HS15 := Lib.hid (HS14.out.next hb)
    have HG15 := Lib.hid (HG14.out.keepB hb)
    clear HP14 HS14 HG14
    have HH15 := Lib.hid (ho)
    clear hb ho
    go_wp2_with fail
    refine (eqIntS_b A2 A0 c2' c0' (lvR x f) w15 HH15.out.lst (HP15.out.up HS15.out.le) hrl).mono ?_
    rintro e w16 ⟨rfl, hb⟩
    have HP16 := Lib.hid (HP15.out.below hb HS15.out.le)
    have HS16 := Lib.hid (HS15.out.next hb)
    have HG16 := Lib.hid (HG15.out.keepB hb)
    have HH16 := Lib.hid (HH15.out.keepB hb)
    clear HP15 HS15 HG15 HH15
    clear hb
    go_wp2_with fail
    refine (heldIntS_any A1 c1' (lvR x f).length 1 w16 _ HG16.out.lst hrl (by omega) (by omega)).mono ?_
    rintro e w' ⟨rfl, hw⟩
    obtain rfl := hw.symm
    go_wp2_with fail
    go_ret
    exact ⟨rfl, HS16.out.bel⟩
end Go.Proofs.YtmncigeelfappaaDoor

/- The walk of the law CodeText. -/
import Derived.Test.YtnlcdfaojcnkpaaDoorCdT
import Derived.Test.YtnlcdfaojcnkpaaDoorBc
namespace Go.Proofs.YtnlcdfaojcnkpaaDoor
open Go.ChangeShapes Go.WideShapes Go.ChangeAt Go.RowKit Go.PlainAid Go.Sort
set_option linter.unusedVariables false

set_option maxHeartbeats 2000000 in
theorem walkCodeText (A : Option Addr) (c : Nat) (L : Option Addr) (d : Nat) (x : Cd) (w : World) (hr : CdAt w A L x) (hl : CdLen x) (ht0 : Tab w ∧ Tab10 w) :
    Calls Tryd.prog 3 #[x.val A c L d] w fun e w' => e = .returned (.bool true) ∧ Below w.heap.size w w' := by
  obtain ⟨ht, hu⟩ := ht0
  obtain ⟨W, hW, hB⟩ := boxed 25 w A c L d x
  have HB0 := Lib.hid hB.below
  have HX0 := Lib.hid hB.at_
  have HR0 := Lib.hid (hr.below hB.below)
  have HT0 := Lib.hid (ht.next hB.below)
  have HL := Lib.hid hl
  have HU0 := Lib.hid (hu.next hB.below)
  clear hu
  clear hr hl ht hB
  unfold boxCd at hW
  unfold Cd.val
  go_enter Tryd.func3, Tryd.ntmps3
  go_wp2_with fail
  rw [← hW]
  clear hW
  refine (szCode_any A L c d x W HR0.out HL.out).mono ?_
  rintro e w1 ⟨⟨q, rfl, hq⟩, hb⟩
  have HB1 := Lib.hid (Below_next HB0.out hb)
  have HX1 := Lib.hid (HX0.out.next hb)
  have HR1 := Lib.hid (HR0.out.below hb)
  have HT1 := Lib.hid (HT0.out.next hb)
  have HU1 := Lib.hid (HU0.out.next hb)
  clear HB0 HX0 HR0 HT0 HU0
  clear hb
  rcases hq with hq | ⟨hq0, hq1, HF⟩
  · go_wp2
    go_ret
    exact ⟨rfl, HB1.out⟩
  · clear HL
    obtain ⟨c0, c1, c2, c3, c4, c5⟩ := HX1.out.box
    go_wp2_with fail
    clear c0 c1 c2 c3 c4 c5
    refine (toCode_any A L c d x w1 HR1.out HF.out).mono ?_
    rintro e w2 ⟨⟨ga2, gb2, rfl, hn⟩, hb⟩
    have HB2 := Lib.hid (Below_next HB1.out hb)
    have HX2 := Lib.hid (HX1.out.next hb)
    have HR2 := Lib.hid (HR1.out.below hb)
    have HT2 := Lib.hid (HT1.out.next hb)
    have HU2 := Lib.hid (HU1.out.next hb)
    clear HB1 HX1 HR1 HT1 HU1
    have HN2 := Lib.hid (hn.at_)
    clear hb
    clear hn
    go_wp2_with fail
    refine (sCodeText_any _ _ _ _ x w2 HN2.out HF.out).mono ?_
    rintro e w3 ⟨rfl, hb⟩
    have HB3 := Lib.hid (Below_next HB2.out hb)
    have HX3 := Lib.hid (HX2.out.next hb)
    have HR3 := Lib.hid (HR2.out.below hb)
    have HT3 := Lib.hid (HT2.out.next hb)
    have HU3 := Lib.hid (HU2.out.next hb)
    clear HB2 HX2 HR2 HT2 HU2
    clear hb
    obtain ⟨c0, c1, c2, c3, c4, c5⟩ := HX3.out.box
    go_wp2_with fail
    clear c0 c1 c2 c3 c4 c5
    refine (toCode_any A L c d x w3 HR3.out HF.out).mono ?_
    rintro e w4 ⟨⟨ga4, gb4, rfl, hn⟩, hb⟩
    have HB4 := Lib.hid (Below_next HB3.out hb)
    have HX4 := Lib.hid (HX3.out.next hb)
    have HR4 := Lib.hid (HR3.out.below hb)
    have HT4 := Lib.hid (HT3.out.next hb)
    have HU4 := Lib.hid (HU3.out.next hb)
    clear HB3 HX3 HR3 HT3 HU3
    have HN4 := Lib.hid (hn.at_)
    clear hb
    obtain ⟨w5, hW, hB⟩ := boxed 31 w4 (some ⟨ga4, 0, none⟩) x.els.length (some ⟨gb4, 0, none⟩) x.lims.length x
    have hb := hB.below
    have HB5 := Lib.hid (Below_next HB4.out hb)
    have HX5 := Lib.hid (HX4.out.next hb)
    have HR5 := Lib.hid (HR4.out.below hb)
    have HT5 := Lib.hid (HT4.out.next hb)
    have HU5 := Lib.hid (HU4.out.next hb)
    have HN5 := Lib.hid (HN4.out.below hb)
    clear HB4 HX4 HR4 HT4 HU4 HN4
    have HY5 := Lib.hid (hB.at_)
    clear hb hB hn
    unfold boxCd at hW
    go_wp2_with fail
    rw [← hW]
    clear hW
    refine (iCodeText_any _ _ _ _ x w5 HN5.out HF.out HT5.out HU5.out).mono ?_
    rintro e w6 ⟨rfl, hb⟩
    have HB6 := Lib.hid (Below_next HB5.out hb)
    have HX6 := Lib.hid (HX5.out.next hb)
    have HR6 := Lib.hid (HR5.out.below hb)
    have HT6 := Lib.hid (HT5.out.next hb)
    have HU6 := Lib.hid (HU5.out.next hb)
    have HN6 := Lib.hid (HN5.out.below hb)
    have HY6 := Lib.hid (HY5.out.next hb)
    clear HB5 HX5 HR5 HT5 HU5 HN5 HY5
    clear hb
    go_wp2_with fail
    have hb := below_drewn w6
    have HB7 := Lib.hid (Below_next HB6.out hb)
    have HX7 := Lib.hid (HX6.out.next hb)
    have HR7 := Lib.hid (HR6.out.below hb)
    have HT7 := Lib.hid (HT6.out.next hb)
    have HU7 := Lib.hid (HU6.out.next hb)
    have HN7 := Lib.hid (HN6.out.below hb)
    have HY7 := Lib.hid (HY6.out.next hb)
    clear HB6 HX6 HR6 HT6 HU6 HN6 HY6
    clear hb
    go_region_held3 (fun w' => w'.cell? ⟨w.heap.size, 0, none⟩ = some (.slice A x.els.length c) ∧ w'.cell? ⟨w.heap.size, 1, none⟩ = some (.slice L x.lims.length d) ∧ w'.cell? ⟨w.heap.size, 2, none⟩ = some (.int .i64 x.rep) ∧ w'.cell? ⟨w.heap.size, 3, none⟩ = some (.int .i64 x.bon) ∧ w'.cell? ⟨w.heap.size, 4, none⟩ = some (.int .i64 x.kee) ∧ w'.cell? ⟨w.heap.size, 5, none⟩ = some (.int .i64 x.fal) ∧ w'.cell? ⟨w4.heap.size, 0, none⟩ = some (.slice (some ⟨ga4, 0, none⟩) x.els.length x.els.length) ∧ w'.cell? ⟨w4.heap.size, 1, none⟩ = some (.slice (some ⟨gb4, 0, none⟩) x.lims.length x.lims.length) ∧ w'.cell? ⟨w4.heap.size, 2, none⟩ = some (.int .i64 x.rep) ∧ w'.cell? ⟨w4.heap.size, 3, none⟩ = some (.int .i64 x.bon) ∧ w'.cell? ⟨w4.heap.size, 4, none⟩ = some (.int .i64 x.kee) ∧ w'.cell? ⟨w4.heap.size, 5, none⟩ = some (.int .i64 x.fal))
      (first | exact box2 HX7.out HY7.out | exact box2 HX8.out HY8.out | exact box2 HX9.out HY9.out)
      (first
        | (go_at_call 9; refine (toCode_any A L c d x _ HR7.out HF.out).mono ?_; rintro e w8 ⟨⟨ga8, gb8, rfl, hn⟩, hb⟩; have HB8 := Lib.hid (Below_next HB7.out hb); have HX8 := Lib.hid (HX7.out.next hb); have HR8 := Lib.hid (HR7.out.below hb); have HT8 := Lib.hid (HT7.out.next hb); have HU8 := Lib.hid (HU7.out.next hb); have HN8 := Lib.hid (HN7.out.below hb); have HY8 := Lib.hid (HY7.out.next hb); have HM8 := Lib.hid hn.at_; clear hb hn)
        | (go_at_call 11; refine (eqCode_yes _ _ _ _ _ _ _ _ x _ HN8.out HM8.out HF.out).mono ?_; rintro e w9 ⟨rfl, hb⟩; have HB9 := Lib.hid (Below_next HB8.out hb); have HX9 := Lib.hid (HX8.out.next hb); have HR9 := Lib.hid (HR8.out.below hb); have HT9 := Lib.hid (HT8.out.next hb); have HU9 := Lib.hid (HU8.out.next hb); have HN9 := Lib.hid (HN8.out.below hb); have HY9 := Lib.hid (HY8.out.next hb); clear hb)
        )
    go_wp2
    go_ret
    exact ⟨rfl, HB9.out⟩
end Go.Proofs.YtnlcdfaojcnkpaaDoor

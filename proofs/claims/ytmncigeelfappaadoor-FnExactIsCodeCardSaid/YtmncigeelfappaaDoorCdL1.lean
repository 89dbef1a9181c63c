/- The walk of the law IsCode: it answers true at every code. -/
import Derived.Test.YtmncigeelfappaaDoorCdI
import Derived.Deep.RegionHeld3
namespace Go.Proofs.YtmncigeelfappaaDoor
open Go.ChangeShapes Go.WideShapes Go.ChangeAt Go.RowKit Go.PlainAid Go.Sort
set_option linter.unusedVariables false

/-- The cells of two boxes. -/
theorem box2 {w : World} {b b' : Nat} {A L A' L' : Option Addr} {c d c' d' : Nat} {x x' : Cd} (h : BoxAt w b A c L d x) (k : BoxAt w b' A' c' L' d' x') :
    w.cell? ⟨b, 0, none⟩ = some (.slice A x.els.length c) ∧ w.cell? ⟨b, 1, none⟩ = some (.slice L x.lims.length d) ∧ w.cell? ⟨b, 2, none⟩ = some (.int .i64 x.rep) ∧ w.cell? ⟨b, 3, none⟩ = some (.int .i64 x.bon) ∧ w.cell? ⟨b, 4, none⟩ = some (.int .i64 x.kee) ∧ w.cell? ⟨b, 5, none⟩ = some (.int .i64 x.fal) ∧
    w.cell? ⟨b', 0, none⟩ = some (.slice A' x'.els.length c') ∧ w.cell? ⟨b', 1, none⟩ = some (.slice L' x'.lims.length d') ∧ w.cell? ⟨b', 2, none⟩ = some (.int .i64 x'.rep) ∧ w.cell? ⟨b', 3, none⟩ = some (.int .i64 x'.bon) ∧ w.cell? ⟨b', 4, none⟩ = some (.int .i64 x'.kee) ∧ w.cell? ⟨b', 5, none⟩ = some (.int .i64 x'.fal) :=
  ⟨h.box.c0, h.box.c1, h.box.c2, h.box.c3, h.box.c4, h.box.c5, k.box.c0, k.box.c1, k.box.c2, k.box.c3, k.box.c4, k.box.c5⟩
theorem below_drewn (w : World) : Below w.heap.size w w.drew := (Below.refl _ _).drew

set_option maxHeartbeats 1000000 in
theorem walkIsCode (A : Option Addr) (c : Nat) (L : Option Addr) (d : Nat) (x : Cd) (w : World) (hr : CdAt w A L x) (hl : CdLen x) (ht : Tab w) :
    Calls Tryd.prog 3 #[x.val A c L d] w fun e w' => e = .returned (.bool true) ∧ Below w.heap.size w w' := by
  obtain ⟨W, hW, hB⟩ := boxed 25 w A c L d x
  have HB0 := Lib.hid hB.below
  have HX0 := Lib.hid hB.at_
  have HR0 := Lib.hid (hr.below hB.below)
  have HT0 := Lib.hid (ht.next hB.below)
  have HL := Lib.hid hl
  clear hr hl ht hB
  unfold boxCd at hW
  unfold Cd.val
  go_enter Tryd.func3, Tryd.ntmps3
  go_wp2_with fail
  rw [← hW]
  clear hW
  refine (szCode_any A L c d x W HR0.out HL.out).mono ?_
  rintro e w1 ⟨⟨q, rfl, hq⟩, hb1⟩
  have HB1 := Lib.hid (Below_next HB0.out hb1)
  have HX1 := Lib.hid (HX0.out.next hb1)
  have HR1 := Lib.hid (HR0.out.below hb1)
  have HT1 := Lib.hid (HT0.out.next hb1)
  clear hb1
  rcases hq with hq | ⟨hq0, hq1, HF⟩
  · go_wp2
    go_ret
    exact ⟨rfl, HB1.out⟩
  · obtain ⟨c0, c1, c2, c3, c4, c5⟩ := HX1.out.box
    go_wp2_with fail
    clear c0 c1 c2 c3 c4 c5
    refine (toCode_any A L c d x w1 HR1.out HF.out).mono ?_
    rintro e w2 ⟨⟨g1, g2, rfl, hn⟩, hb2⟩
    have HB2 := Lib.hid (Below_next HB1.out hb2)
    have HX2 := Lib.hid (HX1.out.next hb2)
    have HR2 := Lib.hid (HR1.out.below hb2)
    have HT2 := Lib.hid (HT1.out.next hb2)
    have HN2 := Lib.hid hn.at_
    clear hb2 hn
    go_wp2_with fail
    refine (sIsCode_any _ _ _ _ x w2 HN2.out HF.out).mono ?_
    rintro e w3 ⟨rfl, hb3⟩
    have HB3 := Lib.hid (Below_next HB2.out hb3)
    have HX3 := Lib.hid (HX2.out.next hb3)
    have HR3 := Lib.hid (HR2.out.below hb3)
    have HT3 := Lib.hid (HT2.out.next hb3)
    clear hb3
    obtain ⟨c0, c1, c2, c3, c4, c5⟩ := HX3.out.box
    go_wp2_with fail
    clear c0 c1 c2 c3 c4 c5
    refine (toCode_any A L c d x w3 HR3.out HF.out).mono ?_
    rintro e w4 ⟨⟨g3, g4, rfl, hn⟩, hb4⟩
    obtain ⟨W5, hW5, hB5⟩ := boxed 30 w4 (some ⟨g3, 0, none⟩) x.els.length (some ⟨g4, 0, none⟩) x.lims.length x
    have HB5 := Lib.hid (Below_next (Below_next HB3.out hb4) hB5.below)
    have HX5 := Lib.hid ((HX3.out.next hb4).next hB5.below)
    have HR5 := Lib.hid ((HR3.out.below hb4).below hB5.below)
    have HT5 := Lib.hid ((HT3.out.next hb4).next hB5.below)
    have HN5 := Lib.hid (hn.at_.below hB5.below)
    have HY5 := Lib.hid hB5.at_
    clear hb4 hn hB5
    unfold boxCd at hW5
    go_wp2_with fail
    rw [← hW5]
    clear hW5
    refine (iIsCode_any _ _ _ _ x W5 HN5.out HF.out HT5.out).mono ?_
    rintro e w6 ⟨rfl, hb6⟩
    have HB6 := Lib.hid (Below_next HB5.out hb6)
    have HX6 := Lib.hid (HX5.out.next hb6)
    have HR6 := Lib.hid (HR5.out.below hb6)
    have HN6 := Lib.hid (HN5.out.below hb6)
    have HY6 := Lib.hid (HY5.out.next hb6)
    clear hb6
    go_wp2_with fail
    have HB6' := Lib.hid (Below_next HB6.out (below_drewn _))
    have HX6' := Lib.hid (HX6.out.next (below_drewn _))
    have HY6' := Lib.hid (HY6.out.next (below_drewn _))
    have HR6' := Lib.hid (HR6.out.below (below_drewn _))
    have HN6' := Lib.hid (HN6.out.below (below_drewn _))
    clear HB6 HX6 HY6 HR6 HN6
    go_region_held3 (fun w' => w'.cell? ⟨w.heap.size, 0, none⟩ = some (.slice A x.els.length c) ∧ w'.cell? ⟨w.heap.size, 1, none⟩ = some (.slice L x.lims.length d) ∧ w'.cell? ⟨w.heap.size, 2, none⟩ = some (.int .i64 x.rep) ∧ w'.cell? ⟨w.heap.size, 3, none⟩ = some (.int .i64 x.bon) ∧ w'.cell? ⟨w.heap.size, 4, none⟩ = some (.int .i64 x.kee) ∧ w'.cell? ⟨w.heap.size, 5, none⟩ = some (.int .i64 x.fal) ∧ w'.cell? ⟨w4.heap.size, 0, none⟩ = some (.slice (some ⟨g3, 0, none⟩) x.els.length x.els.length) ∧ w'.cell? ⟨w4.heap.size, 1, none⟩ = some (.slice (some ⟨g4, 0, none⟩) x.lims.length x.lims.length) ∧ w'.cell? ⟨w4.heap.size, 2, none⟩ = some (.int .i64 x.rep) ∧ w'.cell? ⟨w4.heap.size, 3, none⟩ = some (.int .i64 x.bon) ∧ w'.cell? ⟨w4.heap.size, 4, none⟩ = some (.int .i64 x.kee) ∧ w'.cell? ⟨w4.heap.size, 5, none⟩ = some (.int .i64 x.fal))
      (first | exact box2 HX6'.out HY6'.out | exact box2 HX7.out HY7.out | exact box2 HX8.out HY8.out)
      (first
        | (go_at_call 14; refine (toCode_any A L c d x _ HR6'.out HF.out).mono ?_; rintro e w7 ⟨⟨g5, g6, rfl, hn⟩, hb7⟩; have HB7 := Lib.hid (Below_next HB6'.out hb7); have HX7 := Lib.hid (HX6'.out.next hb7); have HY7 := Lib.hid (HY6'.out.next hb7); have HN7 := Lib.hid (HN6'.out.below hb7); have HM7 := Lib.hid hn.at_; clear hb7 hn)
        | (go_at_call 16; refine (eqCode_yes _ _ _ _ _ _ _ _ x _ HN7.out HM7.out HF.out).mono ?_; rintro e w8 ⟨rfl, hb8⟩; have HB8 := Lib.hid (Below_next HB7.out hb8); have HX8 := Lib.hid (HX7.out.next hb8); have HY8 := Lib.hid (HY7.out.next hb8); clear hb8)
        )
    go_wp2
    go_ret
    exact ⟨rfl, HB8.out⟩
end Go.Proofs.YtmncigeelfappaaDoor

/- MostSingles in the model. -/
import Derived.Test.YtocjkhfghldnnaaDoorPnH
namespace Go.Proofs.YtocjkhfghldnnaaDoor
open Go.ChangeShapes Go.WideShapes Go.ChangeAt Go.RowKit Go.PlainAid Go.Sort
set_option linter.unusedVariables false

theorem msV_form (x : Cd) : ∃ (a : Int) (b : Bool), msV x = .tuple #[.int .i64 a, .bool b] := pnV_form _ _
set_option maxHeartbeats 1000000 in
theorem sMostSingles_any (A L : Option Addr) (c d : Nat) (x : Cd) (w : World) (hr : CdAt w A L x) (hl : CdFits x) :
    Calls Tryd.prog 8 #[x.val A c L d] w fun e w' => e = .returned (msV x) ∧ Below w.heap.size w w' := by
  obtain ⟨W, hW, hB⟩ := boxed 31 w A c L d x
  have HB := Lib.hid hB
  have HX := Lib.hid hB.at_
  have HR := Lib.hid (hr.below hB.below)
  have HL := Lib.hid hl
  clear hr hl hB
  unfold boxCd at hW
  unfold Cd.val
  go_enter Tryd.func8, Tryd.ntmps8
  go_wp2_with fail
  rw [← hW]
  clear hW
  refine (cdGood_any A L c d x W HR.out HL.out).mono ?_
  rintro e w1 ⟨he, hb1⟩
  have HB1 := Lib.hid (Below_next HB.out.below hb1)
  have HX1 := Lib.hid (HX.out.next hb1)
  have HR1 := Lib.hid (HR.out.below hb1)
  clear hb1
  by_cases hok : CdOk x
  · rw [pB_yes hok] at he
    subst he
    have HK := Lib.hid hok
    have HV := Lib.hid (show msV x = _ from pnV_yes hok)
    clear hok
    obtain ⟨x0, x1, x2, x3, x4, x5⟩ := HX1.out.box
    go_wp2_with (first | (go_at_call 25; refine (pnChoose_any A L c d x 14 _ HR1.out HK.out (Nat.le_refl _)).mono ?_; rintro e w2 ⟨⟨A', c', rfl, ho⟩, hb⟩; have HB2 := Lib.hid (Below_next HB1.out hb); clear ho hb))
    go_returns
    exact ⟨by rw [HV.out] <;> rfl, HB2.out⟩
  · rw [pB_no hok] at he
    subst he
    have HV := Lib.hid (show msV x = _ from pnV_no hok)
    clear hok
    go_wp2
    go_returns
    exact ⟨by rw [HV.out] <;> rfl, HB1.out⟩
end Go.Proofs.YtocjkhfghldnnaaDoor

/- The walk of the law IsTrimmed. -/
import Derived.Test.YtnambmpnolkfjaaTmK
namespace Go.Proofs.Ytnambmpnolkfjaa.One
open Go.ChangeShapes Go.WideShapes Go.ChangeAt Go.RowKit Go.Lib Go.Proofs
set_option linter.unusedVariables false

set_option maxHeartbeats 1000000 in
theorem walkIsTrimmed (A : Option Addr) (c : Nat) (xs : List Int) (k : Int) (w : World) (hw1 : (Lit.int .i64 k).wf = true) (hx : Ints w w.heap.size A xs) :
    Calls Try.prog 13 #[.slice A xs.length c, .int .i64 k] w fun e w' => e = .returned (.bool true) ∧ Below w.heap.size w w' := by
  clear hw1
  by_cases hl : xs.length ≤ 1048576
  · have HX := Lib.hid hx
    clear hx
    go_enter Try.func13, Try.ntmps13
    go_wp2_with fail
    refine (toIntS_ints _ _ _ _ HX.out hl).mono ?_
    rintro e w1 ⟨rfl, hi1, hb1⟩
    have HI1 := Lib.hid hi1; have HB1 := Lib.hid hb1; have HX1 := Lib.hid (HX.out.next hb1); clear hi1 hb1
    go_wp2_with fail
    refine (sIsTrimmed_any _ _ _ k _ HI1.out hl).mono ?_
    rintro e w2 ⟨rfl, hb2⟩
    have HB2 := Lib.hid hb2; have HX2 := Lib.hid (HX1.out.next hb2); clear hb2
    go_wp2_with fail
    refine (toIntS_ints _ _ _ _ HX2.out hl).mono ?_
    rintro e w3 ⟨rfl, hi3, hb3⟩
    have HI3 := Lib.hid hi3; have HB3 := Lib.hid hb3; have HX3 := Lib.hid (HX2.out.next hb3); clear hi3 hb3
    go_wp2_with fail
    refine (iIsTrimmed_any _ _ _ k _ HI3.out hl).mono ?_
    rintro e w4 ⟨rfl, hb4⟩
    have HB4 := Lib.hid hb4; have HX4 := Lib.hid (HX3.out.next hb4); have HI4 := Lib.hid (HI3.out.next hb4); clear hb4
    go_wp2_with fail
    refine (toIntS_ints _ _ _ _ HX4.out hl).mono ?_
    rintro e w5 ⟨rfl, hi5, hb5⟩
    have HI5 := Lib.hid hi5; have HB5 := Lib.hid hb5; clear hi5 hb5
    go_wp2_with fail
    refine (eqIntS_below _ _ _ _ _ _ (HI4.out.next HB5.out) HI5.out hl).mono ?_
    rintro e w6 ⟨rfl, hb6⟩
    have HB6 := Lib.hid hb6; clear hb6
    go_wp2_with fail
    go_ret
    exact ⟨rfl, Below_then HB1.out (Below_then HB2.out (Below_then HB3.out (Below_then HB4.out (Below_then HB5.out HB6.out))))⟩
  · clear hx
    go_enter Try.func13, Try.ntmps13
    go_wp2
    go_ret
    exact ⟨rfl, Below.refl _ _⟩
end Go.Proofs.Ytnambmpnolkfjaa.One

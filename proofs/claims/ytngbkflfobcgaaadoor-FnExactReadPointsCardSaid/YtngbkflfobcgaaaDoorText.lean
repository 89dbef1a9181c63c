/- PointsText in the program and in its model. -/
import Derived.Test.YtngbkflfobcgaaaDoorNum
import Derived.Lib.LaidTab
import Derived.WalkSmall
namespace Go.Proofs.YtngbkflfobcgaaaDoor
open Go.ChangeShapes Go.WideShapes Go.ChangeAt Go.RowKit
set_option linter.unusedVariables false

/-- The decimal digits of a number that is not negative. -/
def DI (v : Int) : ByteArray := ⟨(Lib.decDigits v.toNat).toArray⟩
theorem DI_size (v : Int) (h0 : 0 ≤ v) (h : v ≤ 1000000000000) : (DI v).size ≤ 14 := by
  have := dec_len 13 v.toNat (by omega)
  show (Lib.decDigits v.toNat).toArray.size ≤ 14
  simp
  omega
theorem l1Num_i (v : Int) (w : World) (h0 : 0 ≤ v) (h : v ≤ 1000000000000) :
    Calls Tryd.prog 15 #[.int .i64 v] w fun e w' => e = .returned (.string (DI v)) ∧ Below w.heap.size w w' := by
  have := l1Num_any v.toNat v.toNat (Nat.le_refl _) (by omega) w
  rw [show ((v.toNat : Nat) : Int) = v by omega] at this
  exact this
theorem Below_then {w w1 w2 : World} (h : Below w.heap.size w w1) (k : Below w1.heap.size w1 w2) : Below w.heap.size w w2 := h.trans (k.mono h.size)

/-- The text of points that are not negative. -/
def PT (m : Int) : ByteArray := DI (m / 100) ++ ⟨#[46]⟩ ++ DI (m / 10 % 10) ++ DI (m % 10)

theorem poText_pos (m : Int) (w : World) (h0 : 0 ≤ m) (h : m ≤ 1000000000) :
    Calls Tryd.prog 10 #[.int .i64 m] w fun e w' => e = .returned (.string (PT m)) ∧ Below w.heap.size w w' := by
  have s1 := DI_size (m / 100) (by omega) (by omega)
  have s2 := DI_size (m / 10 % 10) (by omega) (by omega)
  have s3 := DI_size (m % 10) (by omega) (by omega)
  go_enter Tryd.func10, Tryd.ntmps10
  go_wp2_with fail
  refine (l1Num_i (m / 100) _ (by omega) (by omega)).mono ?_
  rintro e w1 ⟨rfl, hb1⟩
  have HB1 := Lib.hid hb1; clear hb1
  go_wp2_with fail
  refine (l1Num_i (m / 10 % 10) _ (by omega) (by omega)).mono ?_
  rintro e w2 ⟨rfl, hb2⟩
  have HB2 := Lib.hid hb2; clear hb2
  go_wp2_with fail
  refine (l1Num_i (m % 10) _ (by omega) (by omega)).mono ?_
  rintro e w3 ⟨rfl, hb3⟩
  have HB3 := Lib.hid hb3; clear hb3
  go_wp2_with fail
  go_ret
  exact ⟨rfl, Below_then HB1.out (Below_then HB2.out HB3.out)⟩
theorem PT_size (m : Int) (h0 : 0 ≤ m) (h : m ≤ 1000000000) : (PT m).size ≤ 43 := by
  have s1 := DI_size (m / 100) (by omega) (by omega)
  have s2 := DI_size (m / 10 % 10) (by omega) (by omega)
  have s3 := DI_size (m % 10) (by omega) (by omega)
  unfold PT
  rw [ByteArray.size_append, ByteArray.size_append, ByteArray.size_append]
  have : (⟨#[46]⟩ : ByteArray).size = 1 := rfl
  omega

/-- The text of points. -/
def PX (n : Int) : ByteArray := if n < 0 then ⟨#[45]⟩ ++ PT (-n) else PT n
theorem poText_any (n : Int) (w : World) (h0 : -1000000000 ≤ n) (h : n ≤ 1000000000) :
    Calls Tryd.prog 10 #[.int .i64 n] w fun e w' => e = .returned (.string (PX n)) ∧ Below w.heap.size w w' := by
  by_cases hn : n < 0
  · have hs := PT_size (-n) (by omega) (by omega)
    have HP := Lib.hid (show PX n = ⟨#[45]⟩ ++ PT (-n) by unfold PX; rw [if_pos hn])
    go_enter Tryd.func10, Tryd.ntmps10
    go_wp2_with fail
    refine (poText_pos (-n) _ (by omega) (by omega)).mono ?_
    rintro e w1 ⟨rfl, hb1⟩
    have HB1 := Lib.hid hb1; clear hb1
    go_wp2_with fail
    go_ret
    exact ⟨by rw [HP.out]; rfl, HB1.out⟩
  · have := poText_pos n w (by omega) h
    unfold PX
    rw [if_neg hn]
    exact this
end Go.Proofs.YtngbkflfobcgaaaDoor

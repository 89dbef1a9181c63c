/- The walks of chapter 1's laws on fractions and percents: each law answers true at every argument; no conditions. -/
import Derived.Test.YtnambmpnolkfjaaOneParts
import Derived.Test.YtnambmpnolkfjaaOneGcd
namespace Go.Proofs.Ytnambmpnolkfjaa.One
open Go.ChangeShapes Go.WideShapes Go.ChangeAt Go.RowKit
set_option linter.unusedVariables false

def partB (a b : Int) : Prop := -1000000000000 ≤ a ∧ a ≤ 1000000000000 ∧ 1 ≤ b ∧ b ≤ 1000000
theorem isPart_no (a b : Int) (w : World) (h : ¬ partB a b) :
    Calls Try.prog 91 #[.int .i64 a, .int .i64 b] w fun e w' => e = .returned (.bool false) ∧ w = w' := by
  unfold partB at h
  by_cases h1 : -1000000000000 ≤ a <;> by_cases h2 : a ≤ 1000000000000 <;> by_cases h3 : 1 ≤ b <;> by_cases h4 : b ≤ 1000000 <;> first | (exfalso; omega) | skip
  all_goals
    clear h
    go_enter Try.func91, Try.ntmps91
    go_wp2
    go_ret
    exact ⟨rfl, rfl⟩
theorem isPart_yes (a b : Int) (w : World) (h1 : -1000000000000 ≤ a) (h2 : a ≤ 1000000000000) (h3 : 1 ≤ b) (h4 : b ≤ 1000000) :
    Calls Try.prog 91 #[.int .i64 a, .int .i64 b] w fun e w' => e = .returned (.bool true) ∧ w = w' := by
  go_enter Try.func91, Try.ntmps91
  go_wp2
  go_ret
  exact ⟨rfl, rfl⟩

theorem grown_drewN (w : World) (n : Nat) : Grown w (w.drewN n) := by
  induction n with
  | zero => exact Grown.refl _
  | succ n ih => exact ih.drew

theorem implLowest_yes (a b : Int) (w : World) (ha1 : -1000000000000 ≤ a) (ha2 : a ≤ 1000000000000) (hb : 1 ≤ b) (hb2 : b ≤ 1000000) :
    Calls Try.prog 55 #[.int .i64 a, .int .i64 b] w fun e w' => e = .returned (.tuple #[.int .i64 (lowA a b), .int .i64 (lowB a b), .bool true]) ∧ ∃ n, w' = w.drewN n := by
  go_enter Try.func55, Try.ntmps55
  go_wp2_with (first | (go_at_call 91; refine (isPart_yes _ _ _ ha1 ha2 hb hb2).mono ?_; rintro e w' ⟨rfl, rfl⟩) | (go_at_call 70; refine (reduced_any _ _ _ (by omega) (by omega) (by omega) (by omega)).mono ?_; rintro e w' ⟨rfl, n, rfl⟩))
  go_ret3
  exact ⟨rfl, _, rfl⟩
theorem implLowest_no (a b : Int) (w : World) (h : ¬ partB a b) :
    Calls Try.prog 55 #[.int .i64 a, .int .i64 b] w fun e w' => e = .returned (.tuple #[.int .i64 0, .int .i64 0, .bool false]) ∧ w = w' := by
  have H := Lib.hid h
  clear h
  go_enter Try.func55, Try.ntmps55
  go_wp2_with (go_at_call 91; refine (isPart_no _ _ _ H.out).mono ?_; rintro e w' ⟨rfl, rfl⟩)
  go_ret3
  exact ⟨rfl, rfl⟩

theorem mul_bd (a d A D : Int) (h1 : -A ≤ a) (h2 : a ≤ A) (h3 : 0 ≤ d) (h4 : d ≤ D) : -(A * D) ≤ a * d ∧ a * d ≤ A * D := by
  have hA : 0 ≤ A := by omega
  have e1 : a * d ≤ A * d := Int.mul_le_mul_of_nonneg_right h2 h3
  have e2 : -A * d ≤ a * d := Int.mul_le_mul_of_nonneg_right h1 h3
  have e3 : A * d ≤ A * D := Int.mul_le_mul_of_nonneg_left h4 hA
  rw [Int.neg_mul] at e2
  omega


/-- The facts on the products of two fractions. -/
theorem prods {a b c d : Int} (ha1 : -1000000000000 ≤ a) (ha2 : a ≤ 1000000000000) (hb : 1 ≤ b) (hb2 : b ≤ 1000000) (hc1 : -1000000000000 ≤ c) (hc2 : c ≤ 1000000000000) (hd : 1 ≤ d) (hd2 : d ≤ 1000000) :
    -1000000000000000000 ≤ a * d ∧ a * d ≤ 1000000000000000000 ∧ -1000000000000000000 ≤ c * b ∧ c * b ≤ 1000000000000000000 ∧ 1 ≤ b * d ∧ b * d ≤ 1000000000000 := by
  have p1 := mul_bd a d 1000000000000 1000000 ha1 ha2 (by omega) hd2
  have p2 := mul_bd c b 1000000000000 1000000 hc1 hc2 (by omega) hb2
  have p3 := mul_bd b d 1000000 1000000 (by omega) hb2 (by omega) hd2
  have p4 : b * 1 ≤ b * d := Int.mul_le_mul_of_nonneg_left hd (by omega)
  exact ⟨p1.1, p1.2, p2.1, p2.2, by omega, p3.2⟩

def cmpP (x y : Int) : Int := if x < y then -1 else if y < x then 1 else 0
theorem ret_ib {a b : Int} {c : Bool} (h : a = b) : Ending.returned (.tuple #[.int .i64 a, .bool c]) = .returned (.tuple #[.int .i64 b, .bool c]) := by rw [h]
theorem cmp_lt {x y : Int} (h : x < y) : -1 = cmpP x y := by unfold cmpP; rw [if_pos h]
theorem cmp_gt {x y : Int} (h : y < x) : 1 = cmpP x y := by unfold cmpP; rw [if_neg (by omega), if_pos h]
theorem cmp_eq {x y : Int} (h : ¬ x < y) (h' : ¬ y < x) : 0 = cmpP x y := by unfold cmpP; rw [if_neg h, if_neg h']
end Go.Proofs.Ytnambmpnolkfjaa.One

/- What chapter 1's functions on fractions answer, in the program and in its model: roundings, one contract a function; no conditions but those of each contract. -/
import Derived.Test.YtnambmpnolkfjaaRows
import Derived.WalkKit
import Derived.ProofKit
import Derived.OpenShut
import Derived.Handy
import Derived.Lib.Hide
namespace Go.Proofs.Ytnambmpnolkfjaa.One
open Go.ChangeShapes Go.WideShapes Go.ChangeAt Go.RowKit
set_option linter.unusedVariables false

theorem floor_neg {a b : Int} (hb : 1 ≤ b) (h : a.tmod b < 0) : a.tdiv b - 1 = a / b := by
  have hr := Int.mul_tdiv_add_tmod a b
  have h1 := Int.lt_tmod_of_pos a (show 0 < b by omega)
  have := (Int.ediv_emod_unique (a := a) (b := b) (r := a.tmod b + b) (q := a.tdiv b - 1) (by omega)).2 ⟨by rw [Int.mul_sub]; omega, by omega, by omega⟩
  omega
theorem floor_pos {a b : Int} (hb : 1 ≤ b) (h : 0 ≤ a.tmod b) : a.tdiv b = a / b := by
  have hr := Int.mul_tdiv_add_tmod a b
  have h1 := Int.tmod_lt_of_pos a (show 0 < b by omega)
  have := (Int.ediv_emod_unique (a := a) (b := b) (r := a.tmod b) (q := a.tdiv b) (by omega)).2 ⟨by omega, by omega, by omega⟩
  omega
theorem tdiv_bd (a b : Int) : (a.tdiv b).natAbs ≤ a.natAbs := by
  rw [Int.natAbs_tdiv]; exact Nat.div_le_self _ _
theorem ceil_eq (a b : Int) (hb : 1 ≤ b) : -((-a) / b) = (a + b - 1) / b := by
  have h1 := Int.mul_ediv_add_emod (-a) b
  have h2 := Int.emod_nonneg (-a) (show b ≠ 0 by omega)
  have h3 := Int.emod_lt_of_pos (-a) (show 0 < b by omega)
  have := (Int.ediv_emod_unique (a := a + b - 1) (b := b) (r := b - 1 - (-a) % b) (q := -((-a) / b)) (by omega)).2 ⟨by rw [Int.mul_neg]; omega, by omega, by omega⟩
  omega
theorem ret_int {k : IntKind} {a b : Int} (h : a = b) : Ending.returned (.int k a) = .returned (.int k b) := by rw [h]

theorem poDown_any (a b : Int) (w : World) (ha1 : -10000000000000 ≤ a) (ha2 : a ≤ 10000000000000) (hb : 1 ≤ b) :
    Calls Try.prog 92 #[.int .i64 a, .int .i64 b] w fun e w' => e = .returned (.int .i64 (a / b)) ∧ w = w' := by
  have hq := tdiv_bd a b
  by_cases h : a.tmod b < 0
  · have h2 : -1 + a.tdiv b ≤ 10000000000000 := by omega
    go_enter Try.func92, Try.ntmps92
    go_wp2
    go_ret
    exact ⟨ret_int (floor_neg hb h), rfl⟩
  · go_enter Try.func92, Try.ntmps92
    go_wp2
    go_ret
    exact ⟨ret_int (floor_pos hb (by omega)), rfl⟩
theorem floorPart_any (a b : Int) (w : World) (ha1 : -10000000000000 ≤ a) (ha2 : a ≤ 10000000000000) (hb : 1 ≤ b) :
    Calls Try.prog 106 #[.int .i64 a, .int .i64 b] w fun e w' => e = .returned (.int .i64 (a / b)) ∧ w = w' := by
  have hq := tdiv_bd a b
  by_cases h : a.tmod b < 0
  · have h2 : -1 + a.tdiv b ≤ 10000000000000 := by omega
    go_enter Try.func106, Try.ntmps106
    go_wp2
    go_ret
    exact ⟨ret_int (floor_neg hb h), rfl⟩
  · go_enter Try.func106, Try.ntmps106
    go_wp2
    go_ret
    exact ⟨ret_int (floor_pos hb (by omega)), rfl⟩

/-- A fraction rounded by a mode. -/
def rnd (a b m : Int) : Int := if m = -1 then a / b else if m = 0 then (2 * a + b) / (2 * b) else -((-a) / b)

theorem ediv_bd (a b : Int) : (a / b).natAbs ≤ a.natAbs := Int.natAbs_ediv_le_natAbs a b

theorem poMode_any (a b m : Int) (w : World) (ha1 : -1000000000000 ≤ a) (ha2 : a ≤ 1000000000000) (hb : 1 ≤ b) (hb2 : b ≤ 1000000) (hm1 : -1 ≤ m) (hm2 : m ≤ 1) :
    Calls Try.prog 58 #[.int .i64 a, .int .i64 b, .int .i64 m] w fun e w' => e = .returned (.int .i64 (rnd a b m)) ∧ w = w' := by
  have hm : m = -1 ∨ m = 0 ∨ m = 1 := by omega
  clear hm1 hm2
  rcases hm with rfl | rfl | rfl
  · go_enter Try.func58, Try.ntmps58
    go_wp2_with (first | (go_at_call 92; refine (poDown_any _ _ _ (by omega) (by omega) (by omega)).mono ?_; rintro e w' ⟨rfl, rfl⟩) | go_in)
    go_ret
    exact ⟨rfl, rfl⟩
  · go_enter Try.func58, Try.ntmps58
    go_wp2_with (first | (go_at_call 92; refine (poDown_any _ _ _ (by omega) (by omega) (by omega)).mono ?_; rintro e w' ⟨rfl, rfl⟩) | go_in)
    go_ret
    exact ⟨rfl, rfl⟩
  · have hq := ediv_bd (-a) b
    have h1 : -10000000000000 ≤ -a / b := by omega
    have h2 : -a / b ≤ 10000000000000 := by omega
    go_enter Try.func58, Try.ntmps58
    go_wp2_with (first | (go_at_call 92; refine (poDown_any _ _ _ (by omega) (by omega) (by omega)).mono ?_; rintro e w' ⟨rfl, rfl⟩) | go_in)
    go_ret
    exact ⟨rfl, rfl⟩

theorem implRound_yes (a b m : Int) (w : World) (ha1 : -1000000000000 ≤ a) (ha2 : a ≤ 1000000000000) (hb : 1 ≤ b) (hb2 : b ≤ 1000000) (hm1 : -1 ≤ m) (hm2 : m ≤ 1) :
    Calls Try.prog 59 #[.int .i64 a, .int .i64 b, .int .i64 m] w fun e w' => e = .returned (.tuple #[.int .i64 (rnd a b m), .bool true]) ∧ w = w' := by
  have hm : m = -1 ∨ m = 0 ∨ m = 1 := by omega
  have hc := Lib.hid (ceil_eq a b hb)
  clear hm1 hm2
  rcases hm with rfl | rfl | rfl
  all_goals
    go_enter Try.func59, Try.ntmps59
    go_wp2_with (first | (go_at_call 106; refine (floorPart_any _ _ _ (by omega) (by omega) (by omega)).mono ?_; rintro e w' ⟨rfl, rfl⟩) | go_in)
    go_ret2
    first | exact ⟨rfl, rfl⟩ | exact ⟨by rw [← hc.out]; rfl, rfl⟩
theorem implRound_no (a b m : Int) (w : World) (h : ¬ (-1000000000000 ≤ a ∧ a ≤ 1000000000000 ∧ 1 ≤ b ∧ b ≤ 1000000 ∧ -1 ≤ m ∧ m ≤ 1)) :
    Calls Try.prog 59 #[.int .i64 a, .int .i64 b, .int .i64 m] w fun e w' => e = .returned (.tuple #[.int .i64 0, .bool false]) ∧ w = w' := by
  by_cases h1 : -1000000000000 ≤ a <;> by_cases h2 : a ≤ 1000000000000 <;> by_cases h3 : 1 ≤ b <;> by_cases h4 : b ≤ 1000000 <;> by_cases h5 : -1 ≤ m <;> by_cases h6 : m ≤ 1 <;> first | (exfalso; omega) | skip
  all_goals
    clear h
    go_enter Try.func59, Try.ntmps59
    go_wp2
    go_ret2
    exact ⟨rfl, rfl⟩

end Go.Proofs.Ytnambmpnolkfjaa.One

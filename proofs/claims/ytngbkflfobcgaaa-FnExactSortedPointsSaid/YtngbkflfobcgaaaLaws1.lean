/- The walks of chapter 1's laws on fractions and percents: each law answers true at every argument; no conditions. -/
import Derived.Test.YtngbkflfobcgaaaParts
import Derived.Test.YtngbkflfobcgaaaGcd
namespace Go.Proofs.Ytngbkflfobcgaaa
open Go.ChangeShapes Go.WideShapes Go.ChangeAt Go.RowKit
set_option linter.unusedVariables false

def partB (a b : Int) : Prop := -1000000000000 ≤ a ∧ a ≤ 1000000000000 ∧ 1 ≤ b ∧ b ≤ 1000000
theorem poPart_no (a b : Int) (w : World) (h : ¬ partB a b) :
    Calls Try.prog 34 #[.int .i64 a, .int .i64 b] w fun e w' => e = .returned (.bool false) ∧ w = w' := by
  unfold partB at h
  by_cases h1 : -1000000000000 ≤ a <;> by_cases h2 : a ≤ 1000000000000 <;> by_cases h3 : 1 ≤ b <;> by_cases h4 : b ≤ 1000000 <;> first | (exfalso; omega) | skip
  all_goals
    clear h
    go_enter Try.func34, Try.ntmps34
    go_wp2
    go_ret
    exact ⟨rfl, rfl⟩
theorem isPart_no (a b : Int) (w : World) (h : ¬ partB a b) :
    Calls Try.prog 37 #[.int .i64 a, .int .i64 b] w fun e w' => e = .returned (.bool false) ∧ w = w' := by
  unfold partB at h
  by_cases h1 : -1000000000000 ≤ a <;> by_cases h2 : a ≤ 1000000000000 <;> by_cases h3 : 1 ≤ b <;> by_cases h4 : b ≤ 1000000 <;> first | (exfalso; omega) | skip
  all_goals
    clear h
    go_enter Try.func37, Try.ntmps37
    go_wp2
    go_ret
    exact ⟨rfl, rfl⟩
theorem poPart_yes (a b : Int) (w : World) (h1 : -1000000000000 ≤ a) (h2 : a ≤ 1000000000000) (h3 : 1 ≤ b) (h4 : b ≤ 1000000) :
    Calls Try.prog 34 #[.int .i64 a, .int .i64 b] w fun e w' => e = .returned (.bool true) ∧ w = w' := by
  go_enter Try.func34, Try.ntmps34
  go_wp2
  go_ret
  exact ⟨rfl, rfl⟩
theorem isPart_yes (a b : Int) (w : World) (h1 : -1000000000000 ≤ a) (h2 : a ≤ 1000000000000) (h3 : 1 ≤ b) (h4 : b ≤ 1000000) :
    Calls Try.prog 37 #[.int .i64 a, .int .i64 b] w fun e w' => e = .returned (.bool true) ∧ w = w' := by
  go_enter Try.func37, Try.ntmps37
  go_wp2
  go_ret
  exact ⟨rfl, rfl⟩

theorem grown_drewN (w : World) (n : Nat) : Grown w (w.drewN n) := by
  induction n with
  | zero => exact Grown.refl _
  | succ n ih => exact ih.drew

theorem specLowest_yes (a b : Int) (w : World) (ha1 : -1000000000000 ≤ a) (ha2 : a ≤ 1000000000000) (hb : 1 ≤ b) (hb2 : b ≤ 1000000) :
    Calls Try.prog 14 #[.int .i64 a, .int .i64 b] w fun e w' => e = .returned (.tuple #[.int .i64 (lowA a b), .int .i64 (lowB a b), .bool true]) ∧ ∃ n, w' = w.drewN n := by
  go_enter Try.func14, Try.ntmps14
  go_wp2_with (first | (go_at_call 34; refine (poPart_yes _ _ _ ha1 ha2 hb hb2).mono ?_; rintro e w' ⟨rfl, rfl⟩) | (go_at_call 40; refine (poLowest_any _ _ _ (by omega) (by omega) (by omega) (by omega)).mono ?_; rintro e w' ⟨rfl, n, rfl⟩))
  go_ret3
  exact ⟨rfl, _, rfl⟩
theorem implLowest_yes (a b : Int) (w : World) (ha1 : -1000000000000 ≤ a) (ha2 : a ≤ 1000000000000) (hb : 1 ≤ b) (hb2 : b ≤ 1000000) :
    Calls Try.prog 15 #[.int .i64 a, .int .i64 b] w fun e w' => e = .returned (.tuple #[.int .i64 (lowA a b), .int .i64 (lowB a b), .bool true]) ∧ ∃ n, w' = w.drewN n := by
  go_enter Try.func15, Try.ntmps15
  go_wp2_with (first | (go_at_call 37; refine (isPart_yes _ _ _ ha1 ha2 hb hb2).mono ?_; rintro e w' ⟨rfl, rfl⟩) | (go_at_call 41; refine (reduced_any _ _ _ (by omega) (by omega) (by omega) (by omega)).mono ?_; rintro e w' ⟨rfl, n, rfl⟩))
  go_ret3
  exact ⟨rfl, _, rfl⟩
theorem specLowest_no (a b : Int) (w : World) (h : ¬ partB a b) :
    Calls Try.prog 14 #[.int .i64 a, .int .i64 b] w fun e w' => e = .returned (.tuple #[.int .i64 0, .int .i64 0, .bool false]) ∧ w = w' := by
  have H := Lib.hid h
  clear h
  go_enter Try.func14, Try.ntmps14
  go_wp2_with (go_at_call 34; refine (poPart_no _ _ _ H.out).mono ?_; rintro e w' ⟨rfl, rfl⟩)
  go_ret3
  exact ⟨rfl, rfl⟩
theorem implLowest_no (a b : Int) (w : World) (h : ¬ partB a b) :
    Calls Try.prog 15 #[.int .i64 a, .int .i64 b] w fun e w' => e = .returned (.tuple #[.int .i64 0, .int .i64 0, .bool false]) ∧ w = w' := by
  have H := Lib.hid h
  clear h
  go_enter Try.func15, Try.ntmps15
  go_wp2_with (go_at_call 37; refine (isPart_no _ _ _ H.out).mono ?_; rintro e w' ⟨rfl, rfl⟩)
  go_ret3
  exact ⟨rfl, rfl⟩

theorem walkLowestPart (a0 : Int) (a1 : Int) (w0 : (Lit.int .i64 a0).wf = true) (w1 : (Lit.int .i64 a1).wf = true) (w : World) :
    Calls Try.prog 4 #[.int .i64 a0, .int .i64 a1] w fun e w' => e = .returned (.bool true) ∧ Grown w w' := by
  by_cases h : partB a0 a1
  · obtain ⟨h1, h2, h3, h4⟩ := h
    go_enter Try.func4, Try.ntmps4
    go_wp2_with (first | (go_at_call 14; refine (specLowest_yes _ _ _ h1 h2 h3 h4).mono ?_; rintro e w' ⟨rfl, n, rfl⟩) | (go_at_call 15; refine (implLowest_yes _ _ _ h1 h2 h3 h4).mono ?_; rintro e w' ⟨rfl, n', rfl⟩))
    go_ret
    exact ⟨rfl, grown_drewN _ _⟩
  · have H := Lib.hid h
    clear h
    go_enter Try.func4, Try.ntmps4
    go_wp2_with (first | (go_at_call 14; refine (specLowest_no _ _ _ H.out).mono ?_; rintro e w' ⟨rfl, rfl⟩) | (go_at_call 15; refine (implLowest_no _ _ _ H.out).mono ?_; rintro e w' ⟨rfl, rfl⟩))
    go_ret
    exact ⟨rfl, Grown.refl _⟩

theorem mul_bd (a d A D : Int) (h1 : -A ≤ a) (h2 : a ≤ A) (h3 : 0 ≤ d) (h4 : d ≤ D) : -(A * D) ≤ a * d ∧ a * d ≤ A * D := by
  have hA : 0 ≤ A := by omega
  have e1 : a * d ≤ A * d := Int.mul_le_mul_of_nonneg_right h2 h3
  have e2 : -A * d ≤ a * d := Int.mul_le_mul_of_nonneg_right h1 h3
  have e3 : A * d ≤ A * D := Int.mul_le_mul_of_nonneg_left h4 hA
  rw [Int.neg_mul] at e2
  omega


/-- The facts on the products of two fractions. -/
theorem prods {a b c d : Int} (ha1 : -1000000000000 ≤ a) (ha2 : a ≤ 1000000000000) (hb : 1 ≤ b) (hb2 : b ≤ 1000000) (hc1 : -1000000000000 ≤ c) (hc2 : c ≤ 1000000000000) (hd : 1 ≤ d) (hd2 : d ≤ 1000000) :
    -1000000000000000000 ≤ a * d ∧ a * d ≤ 1000000000000000000 ∧ -1000000000000000000 ≤ c * b ∧ c * b ≤ 1000000000000000000 ∧ 1 ≤ b * d ∧ b * d ≤ 1000000000000 := by
  have p1 := mul_bd a d 1000000000000 1000000 ha1 ha2 (by omega) hd2
  have p2 := mul_bd c b 1000000000000 1000000 hc1 hc2 (by omega) hb2
  have p3 := mul_bd b d 1000000 1000000 (by omega) hb2 (by omega) hd2
  have p4 : b * 1 ≤ b * d := Int.mul_le_mul_of_nonneg_left hd (by omega)
  exact ⟨p1.1, p1.2, p2.1, p2.2, by omega, p3.2⟩

def cmpP (x y : Int) : Int := if x < y then -1 else if y < x then 1 else 0
theorem ret_ib {a b : Int} {c : Bool} (h : a = b) : Ending.returned (.tuple #[.int .i64 a, .bool c]) = .returned (.tuple #[.int .i64 b, .bool c]) := by rw [h]
theorem cmp_lt {x y : Int} (h : x < y) : -1 = cmpP x y := by unfold cmpP; rw [if_pos h]
theorem cmp_gt {x y : Int} (h : y < x) : 1 = cmpP x y := by unfold cmpP; rw [if_neg (by omega), if_pos h]
theorem cmp_eq {x y : Int} (h : ¬ x < y) (h' : ¬ y < x) : 0 = cmpP x y := by unfold cmpP; rw [if_neg h, if_neg h']
theorem specCompare (a b c d : Int) (w : World) (ha1 : -1000000000000 ≤ a) (ha2 : a ≤ 1000000000000) (hb : 1 ≤ b) (hb2 : b ≤ 1000000) (hc1 : -1000000000000 ≤ c) (hc2 : c ≤ 1000000000000) (hd : 1 ≤ d) (hd2 : d ≤ 1000000) :
    Calls Try.prog 16 #[.int .i64 a, .int .i64 b, .int .i64 c, .int .i64 d] w fun e w' => e = .returned (.tuple #[.int .i64 (cmpP (a * d) (c * b)), .bool true]) ∧ w = w' := by
  obtain ⟨p1, p2, p3, p4, p5, p6⟩ := prods ha1 ha2 hb hb2 hc1 hc2 hd hd2
  by_cases hlt : a * d < c * b <;> by_cases hgt : c * b < a * d
  all_goals first | (exfalso; omega) | skip
  all_goals
    go_enter Try.func16, Try.ntmps16
    go_wp2
    go_ret2
    exact ⟨ret_ib (by first | exact cmp_lt ‹_› | exact cmp_gt ‹_› | exact cmp_eq (by omega) (by omega)), rfl⟩
theorem implCompare (a b c d : Int) (w : World) (ha1 : -1000000000000 ≤ a) (ha2 : a ≤ 1000000000000) (hb : 1 ≤ b) (hb2 : b ≤ 1000000) (hc1 : -1000000000000 ≤ c) (hc2 : c ≤ 1000000000000) (hd : 1 ≤ d) (hd2 : d ≤ 1000000) :
    Calls Try.prog 17 #[.int .i64 a, .int .i64 b, .int .i64 c, .int .i64 d] w fun e w' => e = .returned (.tuple #[.int .i64 (cmpP (a * d) (c * b)), .bool true]) ∧ w = w' := by
  obtain ⟨p1, p2, p3, p4, p5, p6⟩ := prods ha1 ha2 hb hb2 hc1 hc2 hd hd2
  by_cases hlt : a * d < c * b <;> by_cases hgt : c * b < a * d
  all_goals first | (exfalso; omega) | skip
  all_goals
    go_enter Try.func17, Try.ntmps17
    go_wp2
    go_ret2
    exact ⟨ret_ib (by first | exact cmp_lt ‹_› | exact cmp_gt ‹_› | exact cmp_eq (by omega) (by omega)), rfl⟩
theorem specCompare_no (a b c d : Int) (w : World) (h : ¬ partB a b ∨ (partB a b ∧ ¬ partB c d)) :
    Calls Try.prog 16 #[.int .i64 a, .int .i64 b, .int .i64 c, .int .i64 d] w fun e w' => e = .returned (.tuple #[.int .i64 0, .bool false]) ∧ w = w' := by
  rcases h with h | ⟨⟨h1, h2, h3, h4⟩, h⟩
  all_goals
    have H := Lib.hid h
    clear h
    go_enter Try.func16, Try.ntmps16
    go_wp2_with (first | (go_at_call 34; (with_reducible refine (poPart_yes _ _ _ h1 h2 h3 h4).mono ?_); rintro e w' ⟨rfl, rfl⟩) | (go_at_call 34; (with_reducible refine (poPart_no _ _ _ H.out).mono ?_); rintro e w' ⟨rfl, rfl⟩))
    go_ret2
    exact ⟨rfl, rfl⟩
theorem implCompare_no (a b c d : Int) (w : World) (h : ¬ partB a b ∨ (partB a b ∧ ¬ partB c d)) :
    Calls Try.prog 17 #[.int .i64 a, .int .i64 b, .int .i64 c, .int .i64 d] w fun e w' => e = .returned (.tuple #[.int .i64 0, .bool false]) ∧ w = w' := by
  rcases h with h | ⟨⟨h1, h2, h3, h4⟩, h⟩
  all_goals
    have H := Lib.hid h
    clear h
    go_enter Try.func17, Try.ntmps17
    go_wp2_with (first | (go_at_call 37; (with_reducible refine (isPart_yes _ _ _ h1 h2 h3 h4).mono ?_); rintro e w' ⟨rfl, rfl⟩) | (go_at_call 37; (with_reducible refine (isPart_no _ _ _ H.out).mono ?_); rintro e w' ⟨rfl, rfl⟩))
    go_ret2
    exact ⟨rfl, rfl⟩
theorem walkCompareParts (a0 : Int) (a1 : Int) (a2 : Int) (a3 : Int) (w0 : (Lit.int .i64 a0).wf = true) (w1 : (Lit.int .i64 a1).wf = true) (w2 : (Lit.int .i64 a2).wf = true) (w3 : (Lit.int .i64 a3).wf = true) (w : World) :
    Calls Try.prog 5 #[.int .i64 a0, .int .i64 a1, .int .i64 a2, .int .i64 a3] w fun e w' => e = .returned (.bool true) ∧ Grown w w' := by
  clear w0 w1 w2 w3
  by_cases h : partB a0 a1 ∧ partB a2 a3
  · obtain ⟨⟨h1, h2, h3, h4⟩, ⟨k1, k2, k3, k4⟩⟩ := h
    go_enter Try.func5, Try.ntmps5
    go_wp2_with (first | (go_at_call 16; refine (specCompare _ _ _ _ _ h1 h2 h3 h4 k1 k2 k3 k4).mono ?_; rintro e w' ⟨rfl, rfl⟩) | (go_at_call 17; refine (implCompare _ _ _ _ _ h1 h2 h3 h4 k1 k2 k3 k4).mono ?_; rintro e w' ⟨rfl, rfl⟩))
    go_ret
    exact ⟨rfl, Grown.refl _⟩
  · have H : RowKit.Hid (¬ partB a0 a1 ∨ (partB a0 a1 ∧ ¬ partB a2 a3)) := Lib.hid (by
      by_cases h' : partB a0 a1
      · exact .inr ⟨h', fun k => h ⟨h', k⟩⟩
      · exact .inl h')
    clear h
    go_enter Try.func5, Try.ntmps5
    go_wp2_with (first | (go_at_call 16; refine (specCompare_no _ _ _ _ _ H.out).mono ?_; rintro e w' ⟨rfl, rfl⟩) | (go_at_call 17; refine (implCompare_no _ _ _ _ _ H.out).mono ?_; rintro e w' ⟨rfl, rfl⟩))
    go_ret
    exact ⟨rfl, Grown.refl _⟩
end Go.Proofs.Ytngbkflfobcgaaa

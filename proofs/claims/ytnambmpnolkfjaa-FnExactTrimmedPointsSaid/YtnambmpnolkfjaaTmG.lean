/- OrderOf and MiddleOf, in the program and in its model. -/
import Derived.Test.YtnambmpnolkfjaaTmF
import Derived.Deep.QuietTactic
import Derived.BigQuiet
namespace Go.Proofs.Ytnambmpnolkfjaa.One
open Go.ChangeShapes Go.WideShapes Go.ChangeAt Go.RowKit Go.Lib Go.Proofs
set_option linter.unusedVariables false

theorem iOrderOf_any (A : Option Addr) (c : Nat) (xs : List Int) (k : Int) (w : World) (hr : Ints w w.heap.size A xs) (hl : xs.length ≤ 1048576) :
    Calls Try.prog 26 #[.slice A xs.length c, .int .i64 k] w fun e w' => e = .returned (.tuple #[.int .i64 (sel (TmHas xs k) (ix (asc xs) k.toNat)), .bool (pB (TmHas xs k))]) ∧ Below w.heap.size w w' := by
  have HC := Lib.hid (hasMarkOf_any A c xs k w _ hr hl)
  have HR := Lib.hid hr
  clear hr
  by_cases h : TmHas xs k
  · rw [pB_yes h] at HC
    rw [sel_yes h, pB_yes h]
    have HO := Lib.hid h.ok
    obtain ⟨j, rfl⟩ : ∃ j : Nat, k = (j : Int) := ⟨k.toNat, by have := h.lo; omega⟩
    have hj : j < xs.length := by have := h.hi; omega
    have q1 : (0 : Int) ≤ (j : Int) := by omega
    have q2 : (j : Int) < (xs.length : Int) := by omega
    clear h
    go_enter Try.func26, Try.ntmps26
    go_wp2_with (first | (go_at_call 62; refine HC.out.mono ?_; rintro e w2 ⟨rfl, rfl⟩) | (go_at_call 63; refine (inOrder_any _ _ _ _ HR.out HO.out).mono ?_; rintro e w3 ⟨g, cap, rfl, hc, _, _, hb⟩; have HB := Lib.hid hb; have HCC := Lib.hid hc; clear hb hc; have c1 := HCC.out j hj))
    go_ret2
    exact ⟨rfl, HB.out⟩
  · rw [pB_no h] at HC
    rw [sel_no h, pB_no h]
    clear h
    go_enter Try.func26, Try.ntmps26
    go_wp2_with (go_at_call 62; refine HC.out.mono ?_; rintro e w2 ⟨rfl, rfl⟩)
    go_ret2
    exact ⟨rfl, Below.refl _ _⟩
theorem sOrderOf_any (A : Option Addr) (c : Nat) (xs : List Int) (k : Int) (w : World) (hr : Ints w w.heap.size A xs) (hl : xs.length ≤ 1048576) :
    Calls Try.prog 25 #[.slice A xs.length c, .int .i64 k] w fun e w' => e = .returned (.tuple #[.int .i64 (sel (TmHas xs k) (ix (asc xs) k.toNat)), .bool (pB (TmHas xs k))]) ∧ Below w.heap.size w w' := by
  have HC := Lib.hid (tmHas_any A c xs k w _ hr hl)
  have HR := Lib.hid hr
  clear hr
  by_cases h : TmHas xs k
  · rw [pB_yes h] at HC
    rw [sel_yes h, pB_yes h]
    have HO := Lib.hid h.ok
    obtain ⟨j, rfl⟩ : ∃ j : Nat, k = (j : Int) := ⟨k.toNat, by have := h.lo; omega⟩
    have hj : j < xs.length := by have := h.hi; omega
    have q1 : (0 : Int) ≤ (j : Int) := by omega
    have q2 : (j : Int) < (xs.length : Int) := by omega
    clear h
    go_enter Try.func25, Try.ntmps25
    go_wp2_with (first | (go_at_call 60; refine HC.out.mono ?_; rintro e w2 ⟨rfl, rfl⟩) | (go_at_call 61; refine (tmOrder_any _ _ _ _ HR.out HO.out).mono ?_; rintro e w3 ⟨g, cap, rfl, hc, hb⟩; have HB := Lib.hid hb; have HCC := Lib.hid hc; clear hb hc; have c1 := HCC.out j hj))
    go_ret2
    exact ⟨rfl, HB.out⟩
  · rw [pB_no h] at HC
    rw [sel_no h, pB_no h]
    clear h
    go_enter Try.func25, Try.ntmps25
    go_wp2_with (go_at_call 60; refine HC.out.mono ?_; rintro e w2 ⟨rfl, rfl⟩)
    go_ret2
    exact ⟨rfl, Below.refl _ _⟩
def midS (xs : List Int) : Int := ix (asc xs) ((xs.length - 1) / 2) + ix (asc xs) (xs.length / 2)
set_option maxHeartbeats 1000000 in
theorem iMiddleOf_any (A : Option Addr) (c : Nat) (xs : List Int) (w : World) (hr : Ints w w.heap.size A xs) (hl : xs.length ≤ 1048576) :
    Calls Try.prog 28 #[.slice A xs.length c] w fun e w' => e = .returned (.tuple #[.int .i64 (sel (TmOk xs) (lowA (midS xs) 2)), .int .i64 (sel (TmOk xs) (lowB (midS xs) 2)), .bool (pB (TmOk xs))]) ∧ Below w.heap.size w w' := by
  have HC := Lib.hid (iAreMarksOf_any A c xs w _ hr hl)
  have HR := Lib.hid hr
  clear hr
  by_cases h : TmOk xs
  · rw [pB_yes h] at HC
    rw [sel_yes h, sel_yes h, pB_yes h]
    have HO := Lib.hid h
    have h1 := h.lo
    have h9 := h.hi
    obtain ⟨b1, b2⟩ := asc_bd h ((xs.length - 1) / 2) (by omega)
    obtain ⟨b3, b4⟩ := asc_bd h (xs.length / 2) (by omega)
    have HM := Lib.hid (show midS xs = ix (asc xs) ((xs.length - 1) / 2) + ix (asc xs) (xs.length / 2) from rfl)
    clear h
    go_enter Try.func28, Try.ntmps28
    go_wp2_with (first | (go_at_call 17; refine HC.out.mono ?_; rintro e w2 ⟨rfl, rfl⟩) | (go_at_call 63; refine (inOrder_any _ _ _ _ HR.out HO.out).mono ?_; rintro e w3 ⟨g, cap, rfl, hc, _, _, hb⟩; have HB := Lib.hid hb; have HCC := Lib.hid hc; clear hb hc; skip))
    have c1 := HCC.out ((xs.length - 1) / 2) (by omega)
    have c2 := HCC.out (xs.length / 2) (by omega)
    have e1 : ((xs.length : Int) - 1).tdiv 2 = (((xs.length - 1) / 2 : Nat) : Int) := by rw [Int.tdiv_eq_ediv_of_nonneg (by omega)]; omega
    have e2 : (xs.length : Int).tdiv 2 = ((xs.length / 2 : Nat) : Int) := by rw [Int.tdiv_eq_ediv_of_nonneg (by omega)]; omega
    have q1 : (((xs.length - 1) / 2 : Nat) : Int) < (xs.length : Int) := by omega
    have q2 : ((xs.length / 2 : Nat) : Int) < (xs.length : Int) := by omega
    have q3 : (0 : Int) ≤ (((xs.length - 1) / 2 : Nat) : Int) := by omega
    have q4 : (0 : Int) ≤ ((xs.length / 2 : Nat) : Int) := by omega
    generalize (xs.length - 1) / 2 = i1 at *
    generalize xs.length / 2 = i2 at *
    go_quiet ((go_at_call 55; exact Calls.quiet_of (implLowest_yes _ _ _ (by omega) (by omega) (by omega) (by omega))))
    go_wp2
    go_ret3
    rw [HM.out]
    exact ⟨rfl, Below_then HB.out (below_drewN _ _)⟩
  · rw [pB_no h] at HC
    rw [sel_no h, sel_no h, pB_no h]
    clear h
    go_enter Try.func28, Try.ntmps28
    go_wp2_with (go_at_call 17; refine HC.out.mono ?_; rintro e w2 ⟨rfl, rfl⟩)
    go_ret3
    exact ⟨rfl, Below.refl _ _⟩
set_option maxHeartbeats 1000000 in
theorem sMiddleOf_any (A : Option Addr) (c : Nat) (xs : List Int) (w : World) (hr : Ints w w.heap.size A xs) (hl : xs.length ≤ 1048576) :
    Calls Try.prog 27 #[.slice A xs.length c] w fun e w' => e = .returned (.tuple #[.int .i64 (sel (TmOk xs) (lowA (midS xs) 2)), .int .i64 (sel (TmOk xs) (lowB (midS xs) 2)), .bool (pB (TmOk xs))]) ∧ Below w.heap.size w w' := by
  have HC := Lib.hid (tmGood_any A c xs w _ hr hl)
  have HR := Lib.hid hr
  clear hr
  by_cases h : TmOk xs
  · rw [pB_yes h] at HC
    rw [sel_yes h, sel_yes h, pB_yes h]
    have HO := Lib.hid h
    have h1 := h.lo
    have h9 := h.hi
    obtain ⟨b1, b2⟩ := asc_bd h ((xs.length - 1) / 2) (by omega)
    obtain ⟨b3, b4⟩ := asc_bd h (xs.length / 2) (by omega)
    have HM := Lib.hid (show midS xs = ix (asc xs) ((xs.length - 1) / 2) + ix (asc xs) (xs.length / 2) from rfl)
    clear h
    go_enter Try.func27, Try.ntmps27
    go_wp2_with (first | (go_at_call 48; refine HC.out.mono ?_; rintro e w2 ⟨rfl, rfl⟩) | (go_at_call 61; refine (tmOrder_any _ _ _ _ HR.out HO.out).mono ?_; rintro e w3 ⟨g, cap, rfl, hc, hb⟩; have HB := Lib.hid hb; have HCC := Lib.hid hc; clear hb hc; skip))
    have c1 := HCC.out ((xs.length - 1) / 2) (by omega)
    have c2 := HCC.out (xs.length / 2) (by omega)
    have e1 : ((xs.length : Int) - 1).tdiv 2 = (((xs.length - 1) / 2 : Nat) : Int) := by rw [Int.tdiv_eq_ediv_of_nonneg (by omega)]; omega
    have e2 : (xs.length : Int).tdiv 2 = ((xs.length / 2 : Nat) : Int) := by rw [Int.tdiv_eq_ediv_of_nonneg (by omega)]; omega
    have q1 : (((xs.length - 1) / 2 : Nat) : Int) < (xs.length : Int) := by omega
    have q2 : ((xs.length / 2 : Nat) : Int) < (xs.length : Int) := by omega
    have q3 : (0 : Int) ≤ (((xs.length - 1) / 2 : Nat) : Int) := by omega
    have q4 : (0 : Int) ≤ ((xs.length / 2 : Nat) : Int) := by omega
    have w1 : IntKind.i64.wrap ((xs.length : Int) - 1) = (xs.length : Int) - 1 := IntWalk.i64_in _ (by omega)
    have w2 : IntKind.i64.wrap (((xs.length - 1) / 2 : Nat) : Int) = (((xs.length - 1) / 2 : Nat) : Int) := IntWalk.i64_in _ (by omega)
    have w5 : IntKind.i64.wrap ((xs.length / 2 : Nat) : Int) = ((xs.length / 2 : Nat) : Int) := IntWalk.i64_in _ (by omega)
    generalize (xs.length - 1) / 2 = i1 at *
    generalize xs.length / 2 = i2 at *
    have w6 : IntKind.i64.wrap (ix (asc xs) i1 + ix (asc xs) i2) = ix (asc xs) i1 + ix (asc xs) i2 := IntWalk.i64_in _ (by omega)
    go_quiet ((go_at_call 54; exact Calls.quiet_of (poLowest_any _ _ _ (by omega) (by omega) (by omega) (by omega))))
    go_wp2
    go_ret3
    rw [HM.out]
    exact ⟨rfl, Below_then HB.out (below_drewN _ _)⟩
  · rw [pB_no h] at HC
    rw [sel_no h, sel_no h, pB_no h]
    clear h
    go_enter Try.func27, Try.ntmps27
    go_wp2_with (go_at_call 48; refine HC.out.mono ?_; rintro e w2 ⟨rfl, rfl⟩)
    go_ret3
    exact ⟨rfl, Below.refl _ _⟩
end Go.Proofs.Ytnambmpnolkfjaa.One

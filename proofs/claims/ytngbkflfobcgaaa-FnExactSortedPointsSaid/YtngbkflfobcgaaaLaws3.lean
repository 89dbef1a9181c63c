/- The walks of chapter 1's laws SumPoints, MeanPoints and PlaceOfPoints: each answers true at every argument; no conditions. -/
import Derived.Test.YtngbkflfobcgaaaIntsB
import Derived.Test.YtngbkflfobcgaaaLaws2
namespace Go.Proofs.Ytngbkflfobcgaaa
open Go.ChangeShapes Go.WideShapes Go.ChangeAt Go.RowKit
set_option linter.unusedVariables false

theorem Ints.next {w w' : World} {A : Option Addr} {xs : List Int} (h : Ints w w.heap.size A xs) (hb : Below w.heap.size w w') : Ints w' w'.heap.size A xs :=
  (h.below hb (Nat.le_refl _)).up hb.size
theorem below_drewN {B : Nat} (w : World) (n : Nat) : Below B w (w.drewN n) := by
  induction n with
  | zero => exact Below.refl _ _
  | succ n ih => exact ih.drew
theorem toIntS_ints (A : Option Addr) (c : Nat) (xs : List Int) (w : World) (hr : Ints w w.heap.size A xs) (hl : xs.length ≤ 1048576) :
    Calls Try.prog 21 #[.slice A xs.length c] w fun e w' => e = .returned (.slice (some ⟨w.heap.size, 0, none⟩) xs.length xs.length) ∧ Ints w' w'.heap.size (some ⟨w.heap.size, 0, none⟩) xs ∧ Below w.heap.size w w' :=
  (toIntS_any A c xs w hr hl).mono fun e w' ⟨he, ho, hb⟩ => ⟨he, (Own.ints ho (Nat.le_refl _)).up (ho.lt _ rfl).2, hb⟩
theorem eqIntS_below (A A' : Option Addr) (c c' : Nat) (xs : List Int) (w : World) (hr : Ints w w.heap.size A xs) (hr' : Ints w w.heap.size A' xs) (hl : xs.length ≤ 1048576) :
    Calls Try.prog 23 #[.slice A xs.length c, .slice A' xs.length c'] w fun e w' => e = .returned (.bool true) ∧ Below w.heap.size w w' :=
  (eqIntS_yes A A' c c' xs w _ _ hr hr' hl).mono fun e w' ⟨he, n, hw⟩ => ⟨he, hw ▸ below_drewN _ _⟩

/-- Steps that leave alone what was there before each, in a row. -/
theorem Below_then {w w1 w2 : World} (h : Below w.heap.size w w1) (k : Below w1.heap.size w1 w2) : Below w.heap.size w w2 := h.trans (k.mono h.size)

def SumOk (xs : List Int) : Prop := Good xs ∧ -1000000 ≤ sumTo xs xs.length ∧ sumTo xs xs.length ≤ 1000000
theorem sSum_yes (A : Option Addr) (c : Nat) (xs : List Int) (w : World) (B : Nat) (hr : Ints w B A xs) (h : SumOk xs) :
    Calls Try.prog 20 #[.slice A xs.length c] w fun e w' => e = .returned (.tuple #[.int .i64 (sumTo xs xs.length), .bool true]) ∧ w = w' := by
  have HG := Lib.hid h.1
  obtain ⟨h1, h2⟩ := h.2
  have HR := Lib.hid hr
  clear h hr
  go_enter Try.func20, Try.ntmps20
  go_wp2_with (first | (go_at_call 43; refine (poList_yes _ _ _ _ B HR.out HG.out).mono ?_; rintro e w' ⟨rfl, rfl⟩) | (go_at_call 45; refine (poSum_any _ _ _ _ B HR.out HG.out).mono ?_; rintro e w' ⟨rfl, rfl⟩) | (go_at_call 44; refine (poGood_yes _ _ h1 h2).mono ?_; rintro e w' ⟨rfl, rfl⟩))
  go_ret2
  exact ⟨rfl, rfl⟩
theorem sSum_no (A : Option Addr) (c : Nat) (xs : List Int) (w : World) (B : Nat) (hr : Ints w B A xs) (hm : xs.length ≤ 1048576) (h : ¬ SumOk xs) :
    Calls Try.prog 20 #[.slice A xs.length c] w fun e w' => e = .returned (.tuple #[.int .i64 0, .bool false]) ∧ w = w' := by
  have HR := Lib.hid hr
  clear hr
  by_cases hg : Good xs
  · have HG := Lib.hid hg
    have HN := Lib.hid (show ¬ (-1000000 ≤ sumTo xs xs.length ∧ sumTo xs xs.length ≤ 1000000) from fun k => h ⟨hg, k⟩)
    clear h hg
    go_enter Try.func20, Try.ntmps20
    go_wp2_with (first | (go_at_call 43; refine (poList_yes _ _ _ _ B HR.out HG.out).mono ?_; rintro e w' ⟨rfl, rfl⟩) | (go_at_call 45; refine (poSum_any _ _ _ _ B HR.out HG.out).mono ?_; rintro e w' ⟨rfl, rfl⟩) | (go_at_call 44; refine (poGood_no _ _ HN.out).mono ?_; rintro e w' ⟨rfl, rfl⟩))
    go_ret2
    exact ⟨rfl, rfl⟩
  · have HG := Lib.hid hg
    clear h hg
    go_enter Try.func20, Try.ntmps20
    go_wp2_with (go_at_call 43; refine (poList_no _ _ _ _ B HR.out hm HG.out).mono ?_; rintro e w' ⟨rfl, rfl⟩)
    go_ret2
    exact ⟨rfl, rfl⟩
theorem iSum_yes (A : Option Addr) (c : Nat) (xs : List Int) (w : World) (B : Nat) (hr : Ints w B A xs) (h : SumOk xs) :
    Calls Try.prog 22 #[.slice A xs.length c] w fun e w' => e = .returned (.tuple #[.int .i64 (sumTo xs xs.length), .bool true]) ∧ w = w' := by
  have HG := Lib.hid h.1
  obtain ⟨h1, h2⟩ := h.2
  have HR := Lib.hid hr
  clear h hr
  go_enter Try.func22, Try.ntmps22
  go_wp2_with (first | (go_at_call 46; refine (isPointsList_yes _ _ _ _ B HR.out HG.out).mono ?_; rintro e w' ⟨rfl, rfl⟩) | (go_at_call 47; refine (plainSum_any _ _ _ _ B HR.out HG.out).mono ?_; rintro e w' ⟨rfl, rfl⟩) | (go_at_call 48; refine (arePoints_yes _ _ h1 h2).mono ?_; rintro e w' ⟨rfl, rfl⟩))
  go_ret2
  exact ⟨rfl, rfl⟩
theorem iSum_no (A : Option Addr) (c : Nat) (xs : List Int) (w : World) (B : Nat) (hr : Ints w B A xs) (hm : xs.length ≤ 1048576) (h : ¬ SumOk xs) :
    Calls Try.prog 22 #[.slice A xs.length c] w fun e w' => e = .returned (.tuple #[.int .i64 0, .bool false]) ∧ w = w' := by
  have HR := Lib.hid hr
  clear hr
  by_cases hg : Good xs
  · have HG := Lib.hid hg
    have HN := Lib.hid (show ¬ (-1000000 ≤ sumTo xs xs.length ∧ sumTo xs xs.length ≤ 1000000) from fun k => h ⟨hg, k⟩)
    clear h hg
    go_enter Try.func22, Try.ntmps22
    go_wp2_with (first | (go_at_call 46; refine (isPointsList_yes _ _ _ _ B HR.out HG.out).mono ?_; rintro e w' ⟨rfl, rfl⟩) | (go_at_call 47; refine (plainSum_any _ _ _ _ B HR.out HG.out).mono ?_; rintro e w' ⟨rfl, rfl⟩) | (go_at_call 48; refine (arePoints_no _ _ HN.out).mono ?_; rintro e w' ⟨rfl, rfl⟩))
    go_ret2
    exact ⟨rfl, rfl⟩
  · have HG := Lib.hid hg
    clear h hg
    go_enter Try.func22, Try.ntmps22
    go_wp2_with (go_at_call 46; refine (isPointsList_no _ _ _ _ B HR.out hm HG.out).mono ?_; rintro e w' ⟨rfl, rfl⟩)
    go_ret2
    exact ⟨rfl, rfl⟩

theorem walkSumPoints (A : Option Addr) (c : Nat) (xs : List Int) (w : World) (hx : Ints w w.heap.size A xs) :
    Calls Try.prog 7 #[.slice A xs.length c] w fun e w' => e = .returned (.bool true) ∧ Below w.heap.size w w' := by
  by_cases hl : xs.length ≤ 1048576
  · by_cases h : SumOk xs
    all_goals
      have H := Lib.hid h
      have HX := Lib.hid hx
      clear h hx
      go_enter Try.func7, Try.ntmps7
      go_wp2_with fail
      refine (toIntS_ints _ _ _ _ HX.out hl).mono ?_
      rintro e w1 ⟨rfl, hi1, hb1⟩
      have HI1 := Lib.hid hi1; have HB1 := Lib.hid hb1; have HX1 := Lib.hid (HX.out.next hb1); clear hi1 hb1
      go_wp2_with fail
      first | refine (sSum_yes _ _ _ _ _ HI1.out H.out).mono ?_ | refine (sSum_no _ _ _ _ _ HI1.out hl H.out).mono ?_
      rintro e w' ⟨rfl, rfl⟩
      go_wp2_with fail
      refine (toIntS_ints _ _ _ _ HX1.out hl).mono ?_
      rintro e w2 ⟨rfl, hi2, hb2⟩
      have HI2 := Lib.hid hi2; have HB2 := Lib.hid hb2; have HX2 := Lib.hid (HX1.out.next hb2); clear hi2 hb2
      go_wp2_with fail
      first | refine (iSum_yes _ _ _ _ _ HI2.out H.out).mono ?_ | refine (iSum_no _ _ _ _ _ HI2.out hl H.out).mono ?_
      rintro e w' ⟨rfl, rfl⟩
      go_wp2_with fail
      refine (toIntS_ints _ _ _ _ HX2.out hl).mono ?_
      rintro e w3 ⟨rfl, hi3, hb3⟩
      have HI3 := Lib.hid hi3; have HB3 := Lib.hid hb3; clear hi3 hb3
      go_wp2_with fail
      refine (eqIntS_below _ _ _ _ _ _ (HI2.out.next HB3.out) HI3.out hl).mono ?_
      rintro e w4 ⟨rfl, hb4⟩
      have HB4 := Lib.hid hb4; clear hb4
      go_wp2_with fail
      go_ret
      exact ⟨rfl, HB1.out.trans ((HB2.out.mono HB1.out.size).trans ((HB3.out.mono (Nat.le_trans HB1.out.size HB2.out.size)).trans (HB4.out.mono (Nat.le_trans HB1.out.size (Nat.le_trans HB2.out.size HB3.out.size)))))⟩
  · go_enter Try.func7, Try.ntmps7
    go_wp2
    go_ret
    exact ⟨rfl, Below.refl _ _⟩

theorem sPlace_yes (A : Option Addr) (c : Nat) (xs : List Int) (n : Int) (w : World) (B : Nat) (hr : Ints w B A xs) (h : Good xs ∧ -1000000 ≤ n ∧ n ≤ 1000000) :
    Calls Try.prog 32 #[.slice A xs.length c, .int .i64 n] w fun e w' => e = .returned (.tuple #[.int .i64 (1 + (moreTo xs n xs.length : Int)), .bool true]) ∧ w = w' := by
  have HG := Lib.hid h.1
  obtain ⟨h1, h2⟩ := h.2
  have HR := Lib.hid hr
  clear h hr
  go_enter Try.func32, Try.ntmps32
  go_wp2_with (first | (go_at_call 43; refine (poList_yes _ _ _ _ B HR.out HG.out).mono ?_; rintro e w' ⟨rfl, rfl⟩) | (go_at_call 53; refine (poPlace_any _ _ _ _ _ B HR.out HG.out.1).mono ?_; rintro e w' ⟨rfl, rfl⟩) | (go_at_call 44; refine (poGood_yes _ _ h1 h2).mono ?_; rintro e w' ⟨rfl, rfl⟩))
  go_ret2
  exact ⟨rfl, rfl⟩
theorem sPlace_no (A : Option Addr) (c : Nat) (xs : List Int) (n : Int) (w : World) (B : Nat) (hr : Ints w B A xs) (hm : xs.length ≤ 1048576) (h : ¬ (Good xs ∧ -1000000 ≤ n ∧ n ≤ 1000000)) :
    Calls Try.prog 32 #[.slice A xs.length c, .int .i64 n] w fun e w' => e = .returned (.tuple #[.int .i64 0, .bool false]) ∧ w = w' := by
  have HR := Lib.hid hr
  clear hr
  by_cases hg : Good xs
  · have HG := Lib.hid hg
    have HN := Lib.hid (show ¬ (-1000000 ≤ n ∧ n ≤ 1000000) from fun k => h ⟨hg, k⟩)
    clear h hg
    go_enter Try.func32, Try.ntmps32
    go_wp2_with (first | (go_at_call 43; refine (poList_yes _ _ _ _ B HR.out HG.out).mono ?_; rintro e w' ⟨rfl, rfl⟩) | (go_at_call 44; refine (poGood_no _ _ HN.out).mono ?_; rintro e w' ⟨rfl, rfl⟩))
    go_ret2
    exact ⟨rfl, rfl⟩
  · have HG := Lib.hid hg
    clear h hg
    go_enter Try.func32, Try.ntmps32
    go_wp2_with (go_at_call 43; refine (poList_no _ _ _ _ B HR.out hm HG.out).mono ?_; rintro e w' ⟨rfl, rfl⟩)
    go_ret2
    exact ⟨rfl, rfl⟩
theorem iPlace_yes (A : Option Addr) (c : Nat) (xs : List Int) (n : Int) (w : World) (B : Nat) (hr : Ints w B A xs) (h : Good xs ∧ -1000000 ≤ n ∧ n ≤ 1000000) :
    Calls Try.prog 33 #[.slice A xs.length c, .int .i64 n] w fun e w' => e = .returned (.tuple #[.int .i64 (1 + (moreTo xs n xs.length : Int)), .bool true]) ∧ w = w' := by
  have HG := Lib.hid h.1
  have hl := h.1.1
  obtain ⟨h1, h2⟩ := h.2
  have HR := Lib.hid hr
  clear h hr
  go_enter Try.func33, Try.ntmps33
  go_wp2_with (first | (go_at_call 46; refine (isPointsList_yes _ _ _ _ B HR.out HG.out).mono ?_; rintro e w' ⟨rfl, rfl⟩) | (go_at_call 48; refine (arePoints_yes _ _ h1 h2).mono ?_; rintro e w' ⟨rfl, rfl⟩))
  go_loop [6, 8, 19] (fun s _ i => ∃ k : Nat, k ≤ xs.length ∧ i = .int .i64 k ∧ s = .int .i64 (1 + (moreTo xs n k : Int))) (fun _ _ i => xs.length - (intOf i).toNat)
  case atStart => exact ⟨0, Nat.zero_le _, rfl, rfl⟩
  case round =>
    obtain ⟨k, hk, rfl, rfl⟩ := hrel
    by_cases hlt : k < xs.length
    · obtain ⟨b, o, rfl, hb, hc⟩ := HR.out (by omega)
      have hm := more_bd xs n k
      have hck := hc k hlt
      clear hc
      by_cases hg : n < ix xs k
      · have HS := Lib.hid (more_step xs n k hg)
        go_wp2
        go_round
        case rel => exact ⟨k + 1, by omega, by go_num, by rw [HS.out]; go_num⟩
        case measure => simp [intOf]; omega
      · have HS := Lib.hid (more_stay xs n k hg)
        go_wp2
        go_round
        case rel => exact ⟨k + 1, by omega, by go_num, by rw [HS.out]⟩
        case measure => simp [intOf]; omega
    · obtain rfl : k = xs.length := by omega
      go_wp2
      go_ret2
      exact ⟨rfl, rfl⟩
theorem iPlace_no (A : Option Addr) (c : Nat) (xs : List Int) (n : Int) (w : World) (B : Nat) (hr : Ints w B A xs) (hm : xs.length ≤ 1048576) (h : ¬ (Good xs ∧ -1000000 ≤ n ∧ n ≤ 1000000)) :
    Calls Try.prog 33 #[.slice A xs.length c, .int .i64 n] w fun e w' => e = .returned (.tuple #[.int .i64 0, .bool false]) ∧ w = w' := by
  have HR := Lib.hid hr
  clear hr
  by_cases hg : Good xs
  · have HG := Lib.hid hg
    have HN := Lib.hid (show ¬ (-1000000 ≤ n ∧ n ≤ 1000000) from fun k => h ⟨hg, k⟩)
    clear h hg
    go_enter Try.func33, Try.ntmps33
    go_wp2_with (first | (go_at_call 46; refine (isPointsList_yes _ _ _ _ B HR.out HG.out).mono ?_; rintro e w' ⟨rfl, rfl⟩) | (go_at_call 48; refine (arePoints_no _ _ HN.out).mono ?_; rintro e w' ⟨rfl, rfl⟩))
    go_ret2
    exact ⟨rfl, rfl⟩
  · have HG := Lib.hid hg
    clear h hg
    go_enter Try.func33, Try.ntmps33
    go_wp2_with (go_at_call 46; refine (isPointsList_no _ _ _ _ B HR.out hm HG.out).mono ?_; rintro e w' ⟨rfl, rfl⟩)
    go_ret2
    exact ⟨rfl, rfl⟩

def MeanOk (xs : List Int) : Prop := Good xs ∧ 0 < xs.length
theorem sMean_yes (A : Option Addr) (c : Nat) (xs : List Int) (w : World) (hr : Ints w w.heap.size A xs) (h : MeanOk xs) :
    Calls Try.prog 24 #[.slice A xs.length c] w fun e w' => e = .returned (.tuple #[.int .i64 (lowA (sumTo xs xs.length) xs.length), .int .i64 (lowB (sumTo xs xs.length) xs.length), .bool true]) ∧ Below w.heap.size w w' := by
  have HG := Lib.hid h.1
  have hl := h.1.1
  have h0 := h.2
  obtain ⟨h1, h2⟩ := sum_bd h.1 xs.length (Nat.le_refl _)
  have HR := Lib.hid hr
  clear h hr
  go_enter Try.func24, Try.ntmps24
  go_wp2_with (first | (go_at_call 43; refine (poList_yes _ _ _ _ _ HR.out HG.out).mono ?_; rintro e w' ⟨rfl, rfl⟩) | (go_at_call 45; refine (poSum_any _ _ _ _ _ HR.out HG.out).mono ?_; rintro e w' ⟨rfl, rfl⟩) | (go_at_call 40; refine (poLowest_any _ _ _ (by omega) (by omega) (by omega) (by omega)).mono ?_; rintro e w' ⟨rfl, n, rfl⟩))
  go_ret3
  exact ⟨rfl, below_drewN _ _⟩
theorem sMean_no (A : Option Addr) (c : Nat) (xs : List Int) (w : World) (hr : Ints w w.heap.size A xs) (hm : xs.length ≤ 1048576) (h : ¬ MeanOk xs) :
    Calls Try.prog 24 #[.slice A xs.length c] w fun e w' => e = .returned (.tuple #[.int .i64 0, .int .i64 0, .bool false]) ∧ Below w.heap.size w w' := by
  have HR := Lib.hid hr
  clear hr
  by_cases hg : Good xs
  · have HG := Lib.hid hg
    have h0 : xs.length = 0 := by
      rcases Nat.eq_zero_or_pos xs.length with h0 | h0
      · exact h0
      · exact absurd ⟨hg, h0⟩ h
    obtain rfl : xs = [] := List.eq_nil_of_length_eq_zero h0
    clear h hg h0
    go_enter Try.func24, Try.ntmps24
    go_wp2_with (go_at_call 43; refine (poList_yes _ _ [] _ _ HR.out HG.out).mono ?_; rintro e w' ⟨rfl, rfl⟩)
    go_ret3
    exact ⟨rfl, Below.refl _ _⟩
  · have HG := Lib.hid hg
    clear h hg
    go_enter Try.func24, Try.ntmps24
    go_wp2_with (go_at_call 43; refine (poList_no _ _ _ _ _ HR.out hm HG.out).mono ?_; rintro e w' ⟨rfl, rfl⟩)
    go_ret3
    exact ⟨rfl, Below.refl _ _⟩
theorem iMean_yes (A : Option Addr) (c : Nat) (xs : List Int) (w : World) (hr : Ints w w.heap.size A xs) (h : MeanOk xs) :
    Calls Try.prog 25 #[.slice A xs.length c] w fun e w' => e = .returned (.tuple #[.int .i64 (lowA (sumTo xs xs.length) xs.length), .int .i64 (lowB (sumTo xs xs.length) xs.length), .bool true]) ∧ Below w.heap.size w w' := by
  have HG := Lib.hid h.1
  have hl := h.1.1
  have h0 := h.2
  obtain ⟨h1, h2⟩ := sum_bd h.1 xs.length (Nat.le_refl _)
  have HR := Lib.hid hr
  clear h hr
  go_enter Try.func25, Try.ntmps25
  go_wp2_with (first | (go_at_call 46; refine (isPointsList_yes _ _ _ _ _ HR.out HG.out).mono ?_; rintro e w' ⟨rfl, rfl⟩) | (go_at_call 47; refine (plainSum_any _ _ _ _ _ HR.out HG.out).mono ?_; rintro e w' ⟨rfl, rfl⟩) | (go_at_call 15; refine (implLowest_yes _ _ _ (by omega) (by omega) (by omega) (by omega)).mono ?_; rintro e w' ⟨rfl, n, rfl⟩))
  go_ret3
  exact ⟨rfl, below_drewN _ _⟩
theorem iMean_no (A : Option Addr) (c : Nat) (xs : List Int) (w : World) (hr : Ints w w.heap.size A xs) (hm : xs.length ≤ 1048576) (h : ¬ MeanOk xs) :
    Calls Try.prog 25 #[.slice A xs.length c] w fun e w' => e = .returned (.tuple #[.int .i64 0, .int .i64 0, .bool false]) ∧ Below w.heap.size w w' := by
  have HR := Lib.hid hr
  clear hr
  by_cases hg : Good xs
  · have HG := Lib.hid hg
    have h0 : xs.length = 0 := by
      rcases Nat.eq_zero_or_pos xs.length with h0 | h0
      · exact h0
      · exact absurd ⟨hg, h0⟩ h
    obtain rfl : xs = [] := List.eq_nil_of_length_eq_zero h0
    clear h hg h0
    go_enter Try.func25, Try.ntmps25
    go_wp2_with (go_at_call 46; refine (isPointsList_yes _ _ [] _ _ HR.out HG.out).mono ?_; rintro e w' ⟨rfl, rfl⟩)
    go_ret3
    exact ⟨rfl, Below.refl _ _⟩
  · have HG := Lib.hid hg
    clear h hg
    go_enter Try.func25, Try.ntmps25
    go_wp2_with (go_at_call 46; refine (isPointsList_no _ _ _ _ _ HR.out hm HG.out).mono ?_; rintro e w' ⟨rfl, rfl⟩)
    go_ret3
    exact ⟨rfl, Below.refl _ _⟩
theorem walkPlaceOfPoints (A : Option Addr) (c : Nat) (xs : List Int) (n : Int) (w : World) (w1 : (Lit.int .i64 n).wf = true) (hx : Ints w w.heap.size A xs) :
    Calls Try.prog 11 #[.slice A xs.length c, .int .i64 n] w fun e w' => e = .returned (.bool true) ∧ Below w.heap.size w w' := by
  clear w1
  by_cases hl : xs.length ≤ 1048576
  · by_cases h : Good xs ∧ -1000000 ≤ n ∧ n ≤ 1000000
    all_goals
      have H := Lib.hid h
      have HX := Lib.hid hx
      clear h hx
      go_enter Try.func11, Try.ntmps11
      go_wp2_with fail
      refine (toIntS_ints _ _ _ _ HX.out hl).mono ?_
      rintro e w1 ⟨rfl, hi1, hb1⟩
      have HI1 := Lib.hid hi1; have HB1 := Lib.hid hb1; have HX1 := Lib.hid (HX.out.next hb1); clear hi1 hb1
      go_wp2_with fail
      first | refine (sPlace_yes _ _ _ _ _ _ HI1.out H.out).mono ?_ | refine (sPlace_no _ _ _ _ _ _ HI1.out hl H.out).mono ?_
      rintro e w' ⟨rfl, rfl⟩
      go_wp2_with fail
      refine (toIntS_ints _ _ _ _ HX1.out hl).mono ?_
      rintro e w2 ⟨rfl, hi2, hb2⟩
      have HI2 := Lib.hid hi2; have HB2 := Lib.hid hb2; have HX2 := Lib.hid (HX1.out.next hb2); clear hi2 hb2
      go_wp2_with fail
      first | refine (iPlace_yes _ _ _ _ _ _ HI2.out H.out).mono ?_ | refine (iPlace_no _ _ _ _ _ _ HI2.out hl H.out).mono ?_
      rintro e w' ⟨rfl, rfl⟩
      go_wp2_with fail
      refine (toIntS_ints _ _ _ _ HX2.out hl).mono ?_
      rintro e w3 ⟨rfl, hi3, hb3⟩
      have HI3 := Lib.hid hi3; have HB3 := Lib.hid hb3; clear hi3 hb3
      go_wp2_with fail
      refine (eqIntS_below _ _ _ _ _ _ (HI2.out.next HB3.out) HI3.out hl).mono ?_
      rintro e w4 ⟨rfl, hb4⟩
      have HB4 := Lib.hid hb4; clear hb4
      go_wp2_with fail
      go_ret
      exact ⟨rfl, HB1.out.trans ((HB2.out.mono HB1.out.size).trans ((HB3.out.mono (Nat.le_trans HB1.out.size HB2.out.size)).trans (HB4.out.mono (Nat.le_trans HB1.out.size (Nat.le_trans HB2.out.size HB3.out.size)))))⟩
  · go_enter Try.func11, Try.ntmps11
    go_wp2
    go_ret
    exact ⟨rfl, Below.refl _ _⟩
theorem walkMeanPoints (A : Option Addr) (c : Nat) (xs : List Int) (w : World) (hx : Ints w w.heap.size A xs) :
    Calls Try.prog 8 #[.slice A xs.length c] w fun e w' => e = .returned (.bool true) ∧ Below w.heap.size w w' := by
  by_cases hl : xs.length ≤ 1048576
  · by_cases h : MeanOk xs
    all_goals
      have H := Lib.hid h
      have HX := Lib.hid hx
      clear h hx
      go_enter Try.func8, Try.ntmps8
      go_wp2_with fail
      refine (toIntS_ints _ _ _ _ HX.out hl).mono ?_
      rintro e w1 ⟨rfl, hi1, hb1⟩
      have HI1 := Lib.hid hi1; have HB1 := Lib.hid hb1; have HX1 := Lib.hid (HX.out.next hb1); clear hi1 hb1
      go_wp2_with fail
      first | refine (sMean_yes _ _ _ _ HI1.out H.out).mono ?_ | refine (sMean_no _ _ _ _ HI1.out hl H.out).mono ?_
      rintro e w2 ⟨rfl, hb2⟩
      have HB2 := Lib.hid hb2; have HX2 := Lib.hid (HX1.out.next hb2); clear hb2
      go_wp2_with fail
      refine (toIntS_ints _ _ _ _ HX2.out hl).mono ?_
      rintro e w3 ⟨rfl, hi3, hb3⟩
      have HI3 := Lib.hid hi3; have HB3 := Lib.hid hb3; have HX3 := Lib.hid (HX2.out.next hb3); clear hi3 hb3
      go_wp2_with fail
      first | refine (iMean_yes _ _ _ _ HI3.out H.out).mono ?_ | refine (iMean_no _ _ _ _ HI3.out hl H.out).mono ?_
      rintro e w4 ⟨rfl, hb4⟩
      have HB4 := Lib.hid hb4; have HX4 := Lib.hid (HX3.out.next hb4); have HI4 := Lib.hid (HI3.out.next hb4); clear hb4
      go_wp2_with fail
      refine (toIntS_ints _ _ _ _ HX4.out hl).mono ?_
      rintro e w5 ⟨rfl, hi5, hb5⟩
      have HI5 := Lib.hid hi5; have HB5 := Lib.hid hb5; clear hi5 hb5
      go_wp2_with fail
      refine (eqIntS_below _ _ _ _ _ _ (HI4.out.next HB5.out) HI5.out hl).mono ?_
      rintro e w6 ⟨rfl, hb6⟩
      have HB6 := Lib.hid hb6; clear hb6
      go_wp2_with fail
      go_ret
      exact ⟨rfl, Below_then HB1.out (Below_then HB2.out (Below_then HB3.out (Below_then HB4.out (Below_then HB5.out HB6.out))))⟩
  · go_enter Try.func8, Try.ntmps8
    go_wp2
    go_ret
    exact ⟨rfl, Below.refl _ _⟩
end Go.Proofs.Ytngbkflfobcgaaa

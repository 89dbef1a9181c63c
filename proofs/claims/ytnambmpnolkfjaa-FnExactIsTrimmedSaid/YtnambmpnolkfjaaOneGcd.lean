/- What chapter 1's lowest terms are, in the program and in its model: one contract a function. -/
import Derived.Test.YtnambmpnolkfjaaRows
import Derived.WalkKit
import Derived.ProofKit
import Derived.OpenShut
import Derived.Handy
import Derived.Lib.Hide
import Derived.LoopTactic
import Derived.Deep.QuietTactic
import Derived.BigQuiet
import Derived.Outline
namespace Go.Proofs.Ytnambmpnolkfjaa.One
open Go.ChangeShapes Go.WideShapes Go.ChangeAt Go.RowKit
set_option linter.unusedVariables false

theorem gcd_step (x y : Int) : Int.gcd y (x.tmod y) = Int.gcd x y := by
  rw [Int.gcd_comm x y]
  have := Int.mul_tdiv_add_tmod x y
  conv => rhs; rw [← this]
  rw [Int.add_comm, Int.gcd_add_mul_left_right]
theorem ret_int' {k : IntKind} {a b : Int} (h : a = b) : Ending.returned (.int k a) = .returned (.int k b) := by rw [h]
theorem ret_pair {k l : IntKind} {a b c d : Int} (h : a = b) (h' : c = d) : Ending.returned (.tuple #[.int k a, .int l c]) = .returned (.tuple #[.int k b, .int l d]) := by rw [h, h']
theorem tmod_bd (p q : Int) (h : q ≠ 0) : (p.tmod q).natAbs < q.natAbs := by
  rw [Int.natAbs_tmod]; exact Nat.mod_lt _ (by omega)
theorem l1Abs_any (a : Int) (w : World) (ha1 : -4000000000000000000 ≤ a) (ha2 : a ≤ 4000000000000000000) :
    Calls Try.prog 72 #[.int .i64 a] w fun e w' => e = .returned (.int .i64 (a.natAbs : Int)) ∧ w = w' := by
  by_cases h : -a < a
  all_goals
    go_enter Try.func72, Try.ntmps72
    go_wp2
    go_ret
    exact ⟨ret_int' (by omega), rfl⟩

/-- The two parts of a / b in lowest terms. -/
def lowA (a b : Int) : Int := a.tdiv (Int.gcd a b)
def lowB (a b : Int) : Int := b.tdiv (Int.gcd a b)

theorem poLowest_any (a b : Int) (w : World) (ha1 : -4000000000000000000 ≤ a) (ha2 : a ≤ 4000000000000000000) (hb : 1 ≤ b) (hb2 : b ≤ 1000000000000) :
    Calls Try.prog 54 #[.int .i64 a, .int .i64 b] w fun e w' => e = .returned (.tuple #[.int .i64 (lowA a b), .int .i64 (lowB a b)]) ∧ ∃ n, w' = w.drewN n := by
  have hn : ((a.natAbs : Nat) : Int) ≤ 4000000000000000000 := by omega
  have hg : Int.gcd ((a.natAbs : Nat) : Int) b = Int.gcd a b := by simp [Int.gcd]
  have HG := Lib.hid hg
  clear hg
  go_enter Try.func54, Try.ntmps54
  go_wp2_with (first | (go_at_call 72; refine (l1Abs_any _ _ ha1 ha2).mono ?_; rintro e w' ⟨rfl, rfl⟩) | go_in)
  go_loop [6, 7, 8] (fun x y z => ∃ p q : Int, 0 ≤ p ∧ p ≤ 4000000000000000000 ∧ 0 ≤ q ∧ q ≤ 4000000000000000000 ∧ Int.gcd p q = Int.gcd a b ∧ x = .int .i64 p ∧ y = .int .i64 q) (fun _ y _ => (intOf y).toNat)
  case atStart => exact ⟨_, _, by omega, hn, by omega, by omega, HG.out, rfl, rfl⟩
  case round =>
    obtain ⟨p, q, hp, hp2, hq, hq2, hpq, rfl, rfl⟩ := hrel
    by_cases h0 : 0 < q
    · have hs := gcd_step p q
      have hm := Int.emod_lt_of_pos p h0
      have hm2 := Int.emod_nonneg p (show q ≠ 0 by omega)
      rw [Int.tmod_eq_emod_of_nonneg hp] at hs
      have HS := Lib.hid hs
      have HP := Lib.hid hpq
      clear hs hpq
      go_wp2
      go_round
      case rel => exact ⟨_, _, hq, hq2, hm2, by omega, by rw [HS.out]; exact HP.out, rfl, rfl⟩
      case measure => simp [intOf]; omega
    · have hq0 : q = 0 := by omega
      subst hq0
      have hg1 : ((Int.gcd a b : Nat) : Int) = p := by rw [← hpq]; simp; omega
      have hp1 : 1 ≤ p := by
        have : 0 < Int.gcd a b := Int.gcd_pos_of_ne_zero_right _ (by omega)
        omega
      have hgg := Lib.hid hg1
      clear hg1 hpq HG
      go_wp2
      go_quiet (fail)
      go_wp2
      go_ret2
      exact ⟨ret_pair (by unfold lowA; rw [hgg.out]) (by unfold lowB; rw [hgg.out, Int.tdiv_eq_ediv_of_nonneg (by omega)]), nq, rfl⟩

theorem reduced_any (a b : Int) (w : World) (ha1 : -4000000000000000000 ≤ a) (ha2 : a ≤ 4000000000000000000) (hb : 1 ≤ b) (hb2 : b ≤ 1000000000000) :
    Calls Try.prog 70 #[.int .i64 a, .int .i64 b] w fun e w' => e = .returned (.tuple #[.int .i64 (lowA a b), .int .i64 (lowB a b)]) ∧ ∃ n, w' = w.drewN n := by
  go_enter Try.func70, Try.ntmps70
  go_wp2
  go_loopw [6, 7] (fun x y wr => ∃ p q : Int, ∃ n : Nat, -4000000000000000000 ≤ p ∧ p ≤ 4000000000000000000 ∧ -4000000000000000000 ≤ q ∧ q ≤ 4000000000000000000 ∧ Int.gcd p q = Int.gcd a b ∧ x = .int .i64 p ∧ y = .int .i64 q ∧ wr = w.drewN n) (fun _ y _ => (intOf y).natAbs)
  case atStart => exact ⟨_, _, 0, ha1, ha2, by omega, by omega, rfl, rfl, rfl, rfl⟩
  case round =>
    obtain ⟨p, q, n, hp, hp2, hq, hq2, hpq, rfl, rfl, rfl⟩ := hrel
    by_cases h0 : q = 0
    · subst h0
      have hg1 : ((Int.gcd a b : Nat) : Int) = (p.natAbs : Int) := by rw [← hpq]; simp
      have hp1 : 1 ≤ p.natAbs := by
        have : 0 < Int.gcd a b := Int.gcd_pos_of_ne_zero_right _ (by omega)
        omega
      have hgg := Lib.hid hg1
      clear hg1 hpq
      by_cases hlt : p < 0
      · obtain ⟨m, rfl⟩ : ∃ m, p = -m := ⟨-p, by omega⟩
        have hl := Lib.hid (show ((-m).natAbs : Int) = m by omega)
        have hp3 : 1 ≤ m := by omega
        clear hp1
        go_wp2
        go_quiet (fail)
        go_wp2
        go_ret2
        exact ⟨ret_pair (by unfold lowA; rw [hgg.out, hl.out]) (by unfold lowB; rw [hgg.out, hl.out, Int.tdiv_eq_ediv_of_nonneg (by omega)]), _, World.drewN_drewN _ _ _⟩
      · have hl := Lib.hid (show (p.natAbs : Int) = p by omega)
        have hp3 : 1 ≤ p := by omega
        clear hp1
        go_wp2
        go_quiet (fail)
        go_wp2
        go_ret2
        exact ⟨ret_pair (by unfold lowA; rw [hgg.out, hl.out]) (by unfold lowB; rw [hgg.out, hl.out, Int.tdiv_eq_ediv_of_nonneg (by omega)]), _, World.drewN_drewN _ _ _⟩
    · have hs := gcd_step p q
      have hm := tmod_bd p q h0
      have HS := Lib.hid hs
      have HP := Lib.hid hpq
      have hm1 : -4000000000000000000 ≤ p.tmod q := by omega
      have hm2 : p.tmod q ≤ 4000000000000000000 := by omega
      have HM := Lib.hid hm
      clear hs hpq hm
      go_wp2
      go_quiet (fail)
      go_wp2
      go_roundw
      case rel => exact ⟨_, _, _, hq, hq2, hm1, hm2, by rw [HS.out]; exact HP.out, rfl, rfl, World.drewN_drewN _ _ _⟩
      case measure => simpa [intOf] using HM.out
end Go.Proofs.Ytnambmpnolkfjaa.One

/- Slices of ints that are read: what the laws' helpers and chapter 1's loops answer; one contract a function. -/
import Derived.Test.YtnambmpnolkfjaaRows
import Derived.WalkKit
import Derived.ProofKit
import Derived.OpenShut
import Derived.Handy
import Derived.Lib.Hide
import Derived.LoopTactic
import Derived.Below
import Derived.OwnWalk
import Derived.Deep.QuietTactic
import Derived.BigQuiet
import Derived.Outline
namespace Go.Proofs.Ytnambmpnolkfjaa.One
open Go.ChangeShapes Go.WideShapes Go.ChangeAt Go.RowKit
set_option linter.unusedVariables false

/-- The number at an index; 0 behind the end. -/
def ix (xs : List Int) (i : Nat) : Int := xs.getD i 0
/-- The slice at A holds the numbers xs, in a block below B. -/
def Ints (w : World) (B : Nat) (A : Option Addr) (xs : List Int) : Prop :=
  0 < xs.length → ∃ b o, A = some ⟨b, o, none⟩ ∧ b < B ∧ ∀ i, i < xs.length → w.cell? ⟨b, o + i, none⟩ = some (.int .i64 (ix xs i))

theorem Ints.below {w w' : World} {B B' : Nat} {A : Option Addr} {xs : List Int} (h : Ints w B A xs) (hb : Below B' w w') (hB : B ≤ B') : Ints w' B A xs := fun hp => by
  obtain ⟨b, o, rfl, hlt, hc⟩ := h hp
  exact ⟨b, o, rfl, hlt, fun i hi => (hb.cell (p := ⟨b, o + i, none⟩) (by show b < B'; omega)).trans (hc i hi)⟩
theorem Ints.up {w : World} {B B' : Nat} {A : Option Addr} {xs : List Int} (h : Ints w B A xs) (hB : B ≤ B') : Ints w B' A xs := fun hp => by
  obtain ⟨b, o, rfl, hlt, hc⟩ := h hp
  exact ⟨b, o, rfl, by omega, hc⟩
theorem Ints.drewN {w : World} {B : Nat} {A : Option Addr} {xs : List Int} (h : Ints w B A xs) (n : Nat) : Ints (w.drewN n) B A xs := h

/-- Sum of the first k numbers. -/
def sumTo (xs : List Int) : Nat → Int
  | 0 => 0
  | k + 1 => sumTo xs k + ix xs k
/-- How many of the first k numbers are greater than n. -/
def moreTo (xs : List Int) (n : Int) : Nat → Nat
  | 0 => 0
  | k + 1 => moreTo xs n k + if n < ix xs k then 1 else 0
def Good (xs : List Int) : Prop := xs.length ≤ 60 ∧ ∀ i, i < xs.length → -1000000 ≤ ix xs i ∧ ix xs i ≤ 1000000

theorem sum_bd {xs : List Int} (h : Good xs) : ∀ k, k ≤ xs.length → -(1000000 * (k : Int)) ≤ sumTo xs k ∧ sumTo xs k ≤ 1000000 * (k : Int)
  | 0, _ => by simp [sumTo]
  | k + 1, hk => by
    have ih := sum_bd h k (by omega)
    have := h.2 k (by omega)
    simp only [sumTo]
    omega
theorem more_bd (xs : List Int) (n : Int) : ∀ k, moreTo xs n k ≤ k
  | 0 => by simp [moreTo]
  | k + 1 => by
    have ih := more_bd xs n k
    simp only [moreTo]
    split <;> omega

theorem l1All_yes (A : Option Addr) (c : Nat) (xs : List Int) (lo hi : Int) (w : World) (B : Nat) (hr : Ints w B A xs) (hl : xs.length ≤ 1048576) (h : ∀ i, i < xs.length → lo ≤ ix xs i ∧ ix xs i ≤ hi) :
    Calls Try.prog 86 #[.slice A xs.length c, .int .i64 lo, .int .i64 hi] w fun e w' => e = .returned (.bool true) ∧ w = w' := by
  have H := Lib.hid h
  have HR := Lib.hid hr
  clear h hr
  go_enter Try.func86, Try.ntmps86
  go_wp2
  go_loop [8, 11] (fun _ i => ∃ k : Nat, k ≤ xs.length ∧ i = .int .i64 k) (fun _ i => xs.length - (intOf i).toNat)
  case atStart => exact ⟨0, Nat.zero_le _, rfl⟩
  case round =>
    obtain ⟨k, hk, rfl⟩ := hrel
    by_cases hlt : k < xs.length
    · obtain ⟨b, o, rfl, hb, hc⟩ := HR.out (by omega)
      obtain ⟨h1, h2⟩ := H.out k hlt
      have hck := hc k hlt
      clear hc
      go_wp2
      go_round
      case rel => exact ⟨k + 1, by omega, by go_num⟩
      case measure => simp [intOf]; omega
    · go_wp2
      go_ret
      exact ⟨rfl, rfl⟩
theorem l1All_no (A : Option Addr) (c : Nat) (xs : List Int) (lo hi : Int) (w : World) (B : Nat) (hr : Ints w B A xs) (hl : xs.length ≤ 1048576) (h : ¬ ∀ i, i < xs.length → lo ≤ ix xs i ∧ ix xs i ≤ hi) :
    Calls Try.prog 86 #[.slice A xs.length c, .int .i64 lo, .int .i64 hi] w fun e w' => e = .returned (.bool false) ∧ w = w' := by
  have H := Lib.hid h
  have HR := Lib.hid hr
  clear h hr
  go_enter Try.func86, Try.ntmps86
  go_wp2
  go_loop [8, 11] (fun _ i => ∃ k : Nat, k ≤ xs.length ∧ i = .int .i64 k ∧ Hid (∀ i, i < k → lo ≤ ix xs i ∧ ix xs i ≤ hi)) (fun _ i => xs.length - (intOf i).toNat)
  case atStart => exact ⟨0, Nat.zero_le _, rfl, Lib.hid (fun i hi => absurd hi (by omega))⟩
  case round =>
    obtain ⟨k, hk, rfl, hall⟩ := hrel
    by_cases hlt : k < xs.length
    · obtain ⟨b, o, rfl, hb, hc⟩ := HR.out (by omega)
      have hck := hc k hlt
      clear hc
      by_cases h1 : lo ≤ ix xs k
      · by_cases h2 : ix xs k ≤ hi
        · go_wp2
          go_round
          case rel => exact ⟨k + 1, by omega, by go_num, Lib.hid (fun i hi => by
            rcases Nat.lt_or_ge i k with h | h
            · exact hall.out i h
            · obtain rfl : i = k := by omega
              exact ⟨h1, h2⟩)⟩
          case measure => simp [intOf]; omega
        · go_wp2
          go_ret
          exact ⟨rfl, rfl⟩
      · go_wp2
        go_ret
        exact ⟨rfl, rfl⟩
    · exact absurd (fun i hi => hall.out i (by omega)) H.out

theorem poSum_any (A : Option Addr) (c : Nat) (xs : List Int) (w : World) (B : Nat) (hr : Ints w B A xs) (h : Good xs) :
    Calls Try.prog 88 #[.slice A xs.length c] w fun e w' => e = .returned (.int .i64 (sumTo xs xs.length)) ∧ w = w' := by
  have HG := Lib.hid h
  have hl := h.1
  have HR := Lib.hid hr
  clear h hr
  go_enter Try.func88, Try.ntmps88
  go_wp2
  go_loop [3, 5, 8] (fun s _ i => ∃ k : Nat, k ≤ xs.length ∧ i = .int .i64 k ∧ s = .int .i64 (sumTo xs k)) (fun _ _ i => xs.length - (intOf i).toNat)
  case atStart => exact ⟨0, Nat.zero_le _, rfl, rfl⟩
  case round =>
    obtain ⟨k, hk, rfl, rfl⟩ := hrel
    by_cases hlt : k < xs.length
    · obtain ⟨b, o, rfl, hb, hc⟩ := HR.out (by omega)
      obtain ⟨h1, h2⟩ := HG.out.2 k hlt
      obtain ⟨h3, h4⟩ := sum_bd HG.out k hk
      have hck := hc k hlt
      clear hc
      go_wp2
      go_round
      case rel => exact ⟨k + 1, by omega, by go_num, rfl⟩
      case measure => simp [intOf]; omega
    · obtain rfl : k = xs.length := by omega
      go_wp2
      go_ret
      exact ⟨rfl, rfl⟩
end Go.Proofs.Ytnambmpnolkfjaa.One

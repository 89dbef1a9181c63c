/- Names, in the program and in the model. -/
import Derived.Test.YtnambmpnolkfjaaRows
import Derived.WalkKit
import Derived.ProofKit
import Derived.OpenShut
import Derived.Handy
import Derived.Lib.Hide
import Derived.LoopTactic
import Derived.Below
import Derived.PlainAid
import Derived.WalkLawsBesides
namespace Go.Proofs.Ytnambmpnolkfjaa
open Go.ChangeShapes Go.WideShapes Go.ChangeAt Go.RowKit Go.PlainAid
set_option linter.unusedVariables false

/-- A proposition as a boolean. -/
noncomputable def pB (p : Prop) : Bool := @decide p (Classical.propDecidable p)
theorem pB_yes {p : Prop} (h : p) : pB p = true := by unfold pB; exact @decide_eq_true p (Classical.propDecidable p) h
theorem pB_no {p : Prop} (h : ¬ p) : pB p = false := by unfold pB; exact @decide_eq_false p (Classical.propDecidable p) h
theorem pB_iff {p q : Prop} (h : p ↔ q) : pB p = pB q := by
  by_cases k : q
  · rw [pB_yes k, pB_yes (h.2 k)]
  · rw [pB_no k, pB_no (fun j => k (h.1 j))]

def LetOk (v : Int) : Prop := 65 ≤ v ∧ v ≤ 90 ∨ 48 ≤ v ∧ v ≤ 57
structure NameOk (s : ByteArray) : Prop where
  lo : 1 ≤ s.size
  hi : s.size ≤ 5
  byte : ∀ i, i < s.size → LetOk (bt s i)
theorem letOk_cases (v : Int) : (v < 48 ∨ 57 < v ∧ v < 65 ∨ 90 < v) ∨ (48 ≤ v ∧ v ≤ 57) ∨ (65 ≤ v ∧ v ≤ 90) := by omega
theorem l1In_yes (n lo hi : Int) (w : World) (h1 : lo ≤ n) (h2 : n ≤ hi) :
    Calls Try.prog 56 #[.int .i64 n, .int .i64 lo, .int .i64 hi] w fun e w' => e = .returned (.bool true) ∧ w = w' := by
  go_enter Try.func56, Try.ntmps56
  go_wp2
  go_ret
  simp [*]
theorem l1In_no (n lo hi : Int) (w : World) (h : ¬ (lo ≤ n ∧ n ≤ hi)) :
    Calls Try.prog 56 #[.int .i64 n, .int .i64 lo, .int .i64 hi] w fun e w' => e = .returned (.bool false) ∧ w = w' := by
  by_cases h1 : lo ≤ n
  · have h2 : hi < n := by omega
    go_enter Try.func56, Try.ntmps56
    go_wp2
    go_ret
    simp
    omega
  · have h2 : n < lo := by omega
    go_enter Try.func56, Try.ntmps56
    go_wp2
    go_ret
    simp
end Go.Proofs.Ytnambmpnolkfjaa

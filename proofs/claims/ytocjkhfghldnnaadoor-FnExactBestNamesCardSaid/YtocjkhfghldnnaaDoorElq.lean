/- Elements compared. -/
import Derived.Test.YtocjkhfghldnnaaDoorEls
import Derived.RegionTactic
import Derived.Deep.RegionHeld3
namespace Go.Proofs.YtocjkhfghldnnaaDoor
open Go.ChangeShapes Go.WideShapes Go.ChangeAt Go.RowKit
set_option linter.unusedVariables false

theorem eqElement_yes (x : El) (w : World) :
    Calls Tryd.prog 56 #[x.val, x.val] w fun e w' => e = .returned (.bool true) ∧ Below w.heap.size w w' := by
  unfold El.val
  go_enter Tryd.func56, Tryd.ntmps56
  go_wp2
  go_ret
  refine ⟨rfl, ?_⟩
  go_grown

theorem eqElementS_yes (A A' : Option Addr) (c c' : Nat) (xs : List El) (w : World) (hr : Lst w w.heap.size A xs) (hr' : Lst w w.heap.size A' xs) (hl : xs.length ≤ 1048576) :
    Calls Tryd.prog 30 #[.slice A xs.length c, .slice A' xs.length c'] w fun e w' => e = .returned (.bool true) ∧ Below w.heap.size w w' := by
  have HR := Lib.hid hr
  have HR' := Lib.hid hr'
  clear hr hr'
  go_enter Tryd.func30, Tryd.ntmps30
  go_wp2
  go_loopw [5] (fun i wr => ∃ k : Nat, k ≤ xs.length ∧ i = .int .i64 k ∧ Below w.heap.size w wr) (fun i _ => xs.length - (intOf i).toNat)
  case atStart => exact ⟨0, Nat.zero_le _, rfl, Below.refl _ _⟩
  case round =>
    obtain ⟨k, hk, rfl, hb⟩ := hrel
    by_cases hlt : k < xs.length
    · obtain ⟨b, o, rfl, hbl, hc⟩ := HR.out.el (by omega)
      obtain ⟨b', o', rfl, hbl', hc'⟩ := HR'.out.el (by omega)
      obtain ⟨c0, c1, c2, c3⟩ := (hc k hlt).below hb hbl
      obtain ⟨d0, d1, d2, d3⟩ := (hc' k hlt).below hb hbl'
      have hi1 : (0 : Int) ≤ (k : Int) := by omega
      have hi2 : (k : Int) < (xs.length : Int) := by omega
      have HB := Lib.hid hb
      clear hc hc' hb
      go_wp2
      go_region_with (go_at_call 56; (with_reducible refine (eqElement_yes (it xs k) _).mono ?_); rintro e w1 ⟨rfl, hb1⟩)
      all_goals
        have HB1 := Lib.hid (HB.out.trans ((Below.refl _ _).drew.trans (hb1.mono (by exact HB.out.size))))
        clear hb1
        go_simp
        go_wp2
        go_roundw
        case rel => exact ⟨k + 1, by omega, by go_num, HB1.out⟩
        case measure => simp [intOf]; omega
    · go_wp2
      go_ret
      exact ⟨rfl, hb⟩
end Go.Proofs.YtocjkhfghldnnaaDoor

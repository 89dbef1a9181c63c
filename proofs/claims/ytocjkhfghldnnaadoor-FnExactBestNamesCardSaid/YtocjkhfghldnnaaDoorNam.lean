/- Names, in the program and in the model. -/
import Derived.Test.YtocjkhfghldnnaaDoorCdN
import Derived.Test.YtocjkhfghldnnaaDoorCdP
import Derived.Test.YtocjkhfghldnnaaDoorRows
import Derived.WalkKit
import Derived.ProofKit
import Derived.OpenShut
import Derived.Handy
import Derived.Lib.Hide
import Derived.LoopTactic
import Derived.Below
import Derived.PlainAid
import Derived.WalkLawsBesides
namespace Go.Proofs.YtocjkhfghldnnaaDoor
open Go.ChangeShapes Go.WideShapes Go.ChangeAt Go.RowKit Go.PlainAid
set_option linter.unusedVariables false

theorem iElName_any (s : ByteArray) (w : World) (hs : s.size ≤ 1048576) :
    Calls Tryd.prog 87 #[.string s] w fun e w' => e = .returned (.bool (pB (NameOk s))) ∧ w = w' := by
  by_cases h : 1 ≤ s.size ∧ s.size ≤ 5
  · obtain ⟨h1, h2⟩ := h
    have hbt := get_bt s
    go_enter Tryd.func87, Tryd.ntmps87
    go_wp2
    go_loop [14] (fun i => ∃ k : Nat, k ≤ s.size ∧ i = .int .i64 k ∧ Hid (∀ j, j < k → LetOk (bt s j))) (fun i => s.size - (intOf i).toNat)
    case atStart => exact ⟨0, Nat.zero_le _, rfl, Lib.hid (fun j hj => absurd hj (by omega))⟩
    case round =>
      obtain ⟨k, hk, rfl, HI⟩ := hrel
      by_cases hlt : k < s.size
      · have q1 : (0 : Int) ≤ (k : Int) := by omega
        have q2 : (k : Int) < (s.size : Int) := by omega
        by_cases h : LetOk (bt s k)
        · have HL := Lib.hid h
          clear h
          go_wp2_with (go_at_call 98; refine (isNameByte_yes _ _ HL.out).mono ?_; rintro e w' ⟨rfl, rfl⟩)
          go_round
          case rel => exact ⟨k + 1, by omega, by go_num, Lib.hid (fun j hj => by
            rcases Nat.lt_or_ge j k with h1 | h1
            · exact HI.out j h1
            · obtain rfl : j = k := by omega
              exact HL.out)⟩
          case measure => simp [intOf]; omega
        · have HV := Lib.hid (pB_no (fun h2 : NameOk s => h (h2.byte k hlt)))
          have HL := Lib.hid h
          clear h
          go_wp2_with (go_at_call 98; refine (isNameByte_no _ _ HL.out).mono ?_; rintro e w' ⟨rfl, rfl⟩)
          go_ret
          exact ⟨by rw [HV.out]; rfl, rfl⟩
      · obtain rfl : k = s.size := by omega
        have HV := Lib.hid (pB_yes (⟨h1, h2, HI.out⟩ : NameOk s))
        go_wp2
        go_ret
        exact ⟨by rw [HV.out]; rfl, rfl⟩
  · have HV := Lib.hid (pB_no (fun h' : NameOk s => h ⟨h'.lo, h'.hi⟩))
    by_cases h1 : 1 ≤ s.size
    · have h2 : 5 < s.size := by omega
      go_enter Tryd.func87, Tryd.ntmps87
      go_wp2
      go_ret
      exact ⟨by rw [HV.out]; rfl, rfl⟩
    · have h2 : s.size < 1 := by omega
      go_enter Tryd.func87, Tryd.ntmps87
      go_wp2
      go_ret
      exact ⟨by rw [HV.out]; rfl, rfl⟩
end Go.Proofs.YtocjkhfghldnnaaDoor

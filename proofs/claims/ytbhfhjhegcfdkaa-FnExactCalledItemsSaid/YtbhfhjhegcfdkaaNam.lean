/- Names, in the program and in the model. -/
import Derived.Test.YtbhfhjhegcfdkaaRows
import Derived.WalkKit
import Derived.ProofKit
import Derived.OpenShut
import Derived.Handy
import Derived.Lib.Hide
import Derived.LoopTactic
import Derived.Below
import Derived.PlainAid
import Derived.WalkLawsBesides
namespace Go.Proofs.Ytbhfhjhegcfdkaa
open Go.ChangeShapes Go.WideShapes Go.ChangeAt Go.RowKit Go.PlainAid
set_option linter.unusedVariables false

/-- A proposition as a boolean. -/
noncomputable def pB (p : Prop) : Bool := @decide p (Classical.propDecidable p)
theorem pB_yes {p : Prop} (h : p) : pB p = true := by unfold pB; exact @decide_eq_true p (Classical.propDecidable p) h
theorem pB_no {p : Prop} (h : ¬ p) : pB p = false := by unfold pB; exact @decide_eq_false p (Classical.propDecidable p) h
theorem pB_iff {p q : Prop} (h : p ↔ q) : pB p = pB q := by
  by_cases k : q
  · rw [pB_yes k, pB_yes (h.2 k)]
  · rw [pB_no k, pB_no (fun j => k (h.1 j))]

def LetOk (v : Int) : Prop := 65 ≤ v ∧ v ≤ 90 ∨ 48 ≤ v ∧ v ≤ 57
structure NameOk (s : ByteArray) : Prop where
  lo : 1 ≤ s.size
  hi : s.size ≤ 5
  byte : ∀ i, i < s.size → LetOk (bt s i)
theorem letOk_cases (v : Int) : (v < 48 ∨ 57 < v ∧ v < 65 ∨ 90 < v) ∨ (48 ≤ v ∧ v ≤ 57) ∨ (65 ≤ v ∧ v ≤ 90) := by omega
theorem l1In_yes (n lo hi : Int) (w : World) (h1 : lo ≤ n) (h2 : n ≤ hi) :
    Calls Try.prog 62 #[.int .i64 n, .int .i64 lo, .int .i64 hi] w fun e w' => e = .returned (.bool true) ∧ w = w' := by
  go_enter Try.func62, Try.ntmps62
  go_wp2
  go_ret
  simp [*]
theorem l1In_no (n lo hi : Int) (w : World) (h : ¬ (lo ≤ n ∧ n ≤ hi)) :
    Calls Try.prog 62 #[.int .i64 n, .int .i64 lo, .int .i64 hi] w fun e w' => e = .returned (.bool false) ∧ w = w' := by
  by_cases h1 : lo ≤ n
  · have h2 : hi < n := by omega
    go_enter Try.func62, Try.ntmps62
    go_wp2
    go_ret
    simp
    omega
  · have h2 : n < lo := by omega
    go_enter Try.func62, Try.ntmps62
    go_wp2
    go_ret
    simp
theorem itByte_yes (v : Int) (w : World) (h : LetOk v) :
    Calls Try.prog 85 #[.int .u8 v] w fun e w' => e = .returned (.bool true) ∧ w = w' := by
  rcases h with ⟨h1, h2⟩ | ⟨h1, h2⟩ <;>
    (go_enter Try.func85, Try.ntmps85
     go_wp2
     go_ret
     exact ⟨by first | rfl | (simp; omega) | simp, rfl⟩)
theorem itByte_no (v : Int) (w : World) (h : ¬ LetOk v) :
    Calls Try.prog 85 #[.int .u8 v] w fun e w' => e = .returned (.bool false) ∧ w = w' := by
  unfold LetOk at h
  rcases letOk_cases v with (h1 | ⟨h1, h2⟩ | h1) | h1 | h1
  · go_enter Try.func85, Try.ntmps85
    go_wp2
    go_ret
    exact ⟨by first | rfl | (simp; omega) | simp, rfl⟩
  · go_enter Try.func85, Try.ntmps85
    go_wp2
    go_ret
    exact ⟨by first | rfl | (simp; omega) | simp, rfl⟩
  · go_enter Try.func85, Try.ntmps85
    go_wp2
    go_ret
    exact ⟨by first | rfl | (simp; omega) | simp, rfl⟩
  · omega
  · omega
theorem isNameByte_yes (v : Int) (w : World) (h : LetOk v) :
    Calls Try.prog 87 #[.int .u8 v] w fun e w' => e = .returned (.bool true) ∧ w = w' := by
  rcases h with ⟨h1, h2⟩ | ⟨h1, h2⟩ <;>
    (go_enter Try.func87, Try.ntmps87
     go_wp2
     go_ret
     exact ⟨by first | rfl | (simp; omega) | simp, rfl⟩)
theorem isNameByte_no (v : Int) (w : World) (h : ¬ LetOk v) :
    Calls Try.prog 87 #[.int .u8 v] w fun e w' => e = .returned (.bool false) ∧ w = w' := by
  unfold LetOk at h
  rcases letOk_cases v with (h1 | ⟨h1, h2⟩ | h1) | h1 | h1
  · go_enter Try.func87, Try.ntmps87
    go_wp2
    go_ret
    exact ⟨by first | rfl | (simp; omega) | simp, rfl⟩
  · go_enter Try.func87, Try.ntmps87
    go_wp2
    go_ret
    exact ⟨by first | rfl | (simp; omega) | simp, rfl⟩
  · go_enter Try.func87, Try.ntmps87
    go_wp2
    go_ret
    exact ⟨by first | rfl | (simp; omega) | simp, rfl⟩
  · omega
  · omega

theorem itName_any (s : ByteArray) (w : World) (hs : s.size ≤ 1048576) :
    Calls Try.prog 80 #[.string s] w fun e w' => e = .returned (.bool (pB (NameOk s))) ∧ w = w' := by
  have hbt := get_bt s
  go_enter Try.func80, Try.ntmps80
  go_wp2
  go_loop [3] (fun i => ∃ k : Nat, k ≤ s.size ∧ i = .int .i64 k ∧ Hid (∀ j, j < k → LetOk (bt s j))) (fun i => s.size - (intOf i).toNat)
  case atStart => exact ⟨0, Nat.zero_le _, rfl, Lib.hid (fun j hj => absurd hj (by omega))⟩
  case round =>
    obtain ⟨k, hk, rfl, HI⟩ := hrel
    by_cases hlt : k < s.size
    · have q1 : (0 : Int) ≤ (k : Int) := by omega
      have q2 : (k : Int) < (s.size : Int) := by omega
      by_cases h : LetOk (bt s k)
      · have HL := Lib.hid h
        clear h
        go_wp2_with (go_at_call 85; refine (itByte_yes _ _ HL.out).mono ?_; rintro e w' ⟨rfl, rfl⟩)
        go_round
        case rel => exact ⟨k + 1, by omega, by go_num, Lib.hid (fun j hj => by
          rcases Nat.lt_or_ge j k with h1 | h1
          · exact HI.out j h1
          · obtain rfl : j = k := by omega
            exact HL.out)⟩
        case measure => simp [intOf]; omega
      · have HV := Lib.hid (pB_no (fun h2 : NameOk s => h (h2.byte k hlt)))
        have HL := Lib.hid h
        clear h
        go_wp2_with (go_at_call 85; refine (itByte_no _ _ HL.out).mono ?_; rintro e w' ⟨rfl, rfl⟩)
        go_ret
        exact ⟨by rw [HV.out]; rfl, rfl⟩
    · obtain rfl : k = s.size := by omega
      by_cases h : 1 ≤ s.size ∧ s.size ≤ 5
      · obtain ⟨h1, h2⟩ := h
        have HV := Lib.hid (pB_yes (⟨h1, h2, HI.out⟩ : NameOk s))
        go_wp2_with (go_at_call 62; refine (l1In_yes _ _ _ _ (by omega) (by omega)).mono ?_; rintro e w' ⟨rfl, rfl⟩)
        go_ret
        exact ⟨by rw [HV.out]; rfl, rfl⟩
      · have HV := Lib.hid (pB_no (fun h' : NameOk s => h ⟨h'.lo, h'.hi⟩))
        go_wp2_with (go_at_call 62; refine (l1In_no _ _ _ _ (by omega)).mono ?_; rintro e w' ⟨rfl, rfl⟩)
        go_ret
        exact ⟨by rw [HV.out]; rfl, rfl⟩

theorem iElName_any (s : ByteArray) (w : World) (hs : s.size ≤ 1048576) :
    Calls Try.prog 84 #[.string s] w fun e w' => e = .returned (.bool (pB (NameOk s))) ∧ w = w' := by
  by_cases h : 1 ≤ s.size ∧ s.size ≤ 5
  · obtain ⟨h1, h2⟩ := h
    have hbt := get_bt s
    go_enter Try.func84, Try.ntmps84
    go_wp2
    go_loop [14] (fun i => ∃ k : Nat, k ≤ s.size ∧ i = .int .i64 k ∧ Hid (∀ j, j < k → LetOk (bt s j))) (fun i => s.size - (intOf i).toNat)
    case atStart => exact ⟨0, Nat.zero_le _, rfl, Lib.hid (fun j hj => absurd hj (by omega))⟩
    case round =>
      obtain ⟨k, hk, rfl, HI⟩ := hrel
      by_cases hlt : k < s.size
      · have q1 : (0 : Int) ≤ (k : Int) := by omega
        have q2 : (k : Int) < (s.size : Int) := by omega
        by_cases h : LetOk (bt s k)
        · have HL := Lib.hid h
          clear h
          go_wp2_with (go_at_call 87; refine (isNameByte_yes _ _ HL.out).mono ?_; rintro e w' ⟨rfl, rfl⟩)
          go_round
          case rel => exact ⟨k + 1, by omega, by go_num, Lib.hid (fun j hj => by
            rcases Nat.lt_or_ge j k with h1 | h1
            · exact HI.out j h1
            · obtain rfl : j = k := by omega
              exact HL.out)⟩
          case measure => simp [intOf]; omega
        · have HV := Lib.hid (pB_no (fun h2 : NameOk s => h (h2.byte k hlt)))
          have HL := Lib.hid h
          clear h
          go_wp2_with (go_at_call 87; refine (isNameByte_no _ _ HL.out).mono ?_; rintro e w' ⟨rfl, rfl⟩)
          go_ret
          exact ⟨by rw [HV.out]; rfl, rfl⟩
      · obtain rfl : k = s.size := by omega
        have HV := Lib.hid (pB_yes (⟨h1, h2, HI.out⟩ : NameOk s))
        go_wp2
        go_ret
        exact ⟨by rw [HV.out]; rfl, rfl⟩
  · have HV := Lib.hid (pB_no (fun h' : NameOk s => h ⟨h'.lo, h'.hi⟩))
    by_cases h1 : 1 ≤ s.size
    · have h2 : 5 < s.size := by omega
      go_enter Try.func84, Try.ntmps84
      go_wp2
      go_ret
      exact ⟨by rw [HV.out]; rfl, rfl⟩
    · have h2 : s.size < 1 := by omega
      go_enter Try.func84, Try.ntmps84
      go_wp2
      go_ret
      exact ⟨by rw [HV.out]; rfl, rfl⟩
theorem iIsName_any (s : ByteArray) (w : World) (hs : s.size ≤ 1048576) :
    Calls Try.prog 79 #[.string s] w fun e w' => e = .returned (.bool (pB (NameOk s))) ∧ w = w' := by
  go_enter Try.func79, Try.ntmps79
  go_wp2_with (go_at_call 84; refine (iElName_any _ _ hs).mono ?_; rintro e w' ⟨rfl, rfl⟩)
  go_ret
  exact ⟨rfl, rfl⟩

end Go.Proofs.Ytbhfhjhegcfdkaa

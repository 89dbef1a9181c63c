/- Valid items and lists, in the model and in the program. -/
import Derived.Test.YtocjkhfghldnnaaDoorItemE
import Derived.Test.YtocjkhfghldnnaaDoorNam
namespace Go.Proofs.YtocjkhfghldnnaaDoor
open Go.ChangeShapes Go.WideShapes Go.ChangeAt Go.RowKit
set_option linter.unusedVariables false

def MkOk (v : Int) : Prop := 0 ≤ v ∧ v ≤ 3
structure ItOk (ns : List ByteArray) (ms : List Int) : Prop where
  lo : 1 ≤ ns.length
  hi : ns.length ≤ 3
  eq : ms.length = ns.length
  nm : ∀ i, i < ns.length → NameOk (it ns i)
  mks : ∀ i, i < ms.length → MkOk (it ms i)
theorem l1All_marks (A : Option Addr) (c : Nat) (xs : List Int) (w : World) (hr : Lst w w.heap.size A xs) (hl : xs.length ≤ 1048576) :
    Calls Tryd.prog 48 #[.slice A xs.length c, .int .i64 0, .int .i64 3] w fun e w' => e = .returned (.bool (pB (∀ i, i < xs.length → MkOk (it xs i)))) ∧ w = w' := by
  have HR := Lib.hid hr
  clear hr
  go_enter Tryd.func48, Tryd.ntmps48
  go_wp2
  go_loop [11] (fun i => ∃ k : Nat, k ≤ xs.length ∧ i = .int .i64 k ∧ Hid (∀ j, j < k → MkOk (it xs j))) (fun i => xs.length - (intOf i).toNat)
  case atStart => exact ⟨0, Nat.zero_le _, rfl, Lib.hid (fun j hj => absurd hj (by omega))⟩
  case round =>
    obtain ⟨k, hk, rfl, HI⟩ := hrel
    by_cases hlt : k < xs.length
    · obtain ⟨b, o, rfl, hbl, hc⟩ := HR.out.int (by omega)
      have hck := hc k hlt
      clear hc
      by_cases h : 0 ≤ it xs k ∧ it xs k ≤ 3
      · obtain ⟨h1, h2⟩ := h
        go_wp2_with (go_at_call 47; refine (l1In_yes _ _ _ _ (by omega) (by omega)).mono ?_; rintro e w2 ⟨rfl, rfl⟩)
        go_round
        case rel => exact ⟨k + 1, by omega, by go_num, Lib.hid (fun j hj => by
          rcases Nat.lt_or_ge j k with h | h
          · exact HI.out j h
          · obtain rfl : j = k := by omega
            exact ⟨h1, h2⟩)⟩
        case measure => simp [intOf]; omega
      · have HV := Lib.hid (pB_no (fun hh : ∀ i, i < xs.length → MkOk (it xs i) => h (hh k hlt)))
        go_wp2_with (go_at_call 47; refine (l1In_no _ _ _ _ (by omega)).mono ?_; rintro e w2 ⟨rfl, rfl⟩)
        go_ret
        exact ⟨by rw [HV.out]; rfl, rfl⟩
    · obtain rfl : k = xs.length := by omega
      have HV := Lib.hid (pB_yes HI.out)
      go_wp2
      go_ret
      exact ⟨by rw [HV.out]; rfl, rfl⟩
theorem l1AllM_len (A : Option Addr) (c n : Nat) (xs : List Int) (hn : xs.length = n) (w : World) (hr : Lst w w.heap.size A xs) (hl : n ≤ 1048576) :
    Calls Tryd.prog 48 #[.slice A n c, .int .i64 0, .int .i64 3] w fun e w' => e = .returned (.bool (pB (∀ i, i < xs.length → MkOk (it xs i)))) ∧ w = w' := by
  subst hn
  exact l1All_marks A c xs w hr hl

end Go.Proofs.YtocjkhfghldnnaaDoor

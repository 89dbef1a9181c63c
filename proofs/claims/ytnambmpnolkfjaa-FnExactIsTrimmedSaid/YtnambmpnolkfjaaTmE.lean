/- The trimmed sum of the program. -/
import Derived.Test.YtnambmpnolkfjaaTmB
import Derived.Test.YtnambmpnolkfjaaTmC
import Derived.Test.YtnambmpnolkfjaaTmD
namespace Go.Proofs.Ytnambmpnolkfjaa.One
open Go.ChangeShapes Go.WideShapes Go.ChangeAt Go.RowKit Go.Lib Go.Proofs
set_option linter.unusedVariables false

set_option maxHeartbeats 1000000 in
theorem trimmedOf_any (A : Option Addr) (c : Nat) (xs : List Int) (w : World) (hr : Ints w w.heap.size A xs) (h : TmOk xs) :
    Calls Try.prog 53 #[.slice A xs.length c] w fun e w' => e = .returned (.tuple #[.int .i64 (tmS xs), .int .i64 (tmN xs : Nat)]) ∧ Below w.heap.size w w' := by
  have HO := Lib.hid h
  have HR := Lib.hid hr
  have h1 := h.lo
  have h2 := h.hi
  clear h hr
  go_enter Try.func53, Try.ntmps53
  go_wp2_with (go_at_call 90; refine (countedPlaces_any xs.length w h1 h2).mono ?_; rintro e w1 ⟨g1, rfl, hc1, hg1, hg2, hb1⟩; have HC1 := Lib.hid hc1; have HB1 := Lib.hid hb1; clear hc1 hb1)
  go_wp2_with (go_at_call 63; refine (inOrder_any A c xs w1 (HR.out.next HB1.out) HO.out).mono ?_; rintro e w2 ⟨g2, cap, rfl, hc2, hg3, hg4, hb2⟩; have HC2 := Lib.hid hc2; have HB2 := Lib.hid (Below_then HB1.out hb2); have HC3 := Lib.hid (fun i hi => (hb2.cell (p := ⟨g1, i, none⟩) hg2).trans (HC1.out i hi)); clear hc2 hb2)
  go_loop [4, 5, 7, 8, 15] (fun s n p m i => ∃ k : Nat, k ≤ xs.length ∧ i = .int .i64 k ∧ s = .int .i64 (pS (asc xs) xs.length k) ∧ n = .int .i64 (pN xs.length k : Nat)) (fun _ _ _ _ i => xs.length - (intOf i).toNat)
  case atStart => exact ⟨0, Nat.zero_le _, rfl, rfl, rfl⟩
  case round =>
    obtain ⟨k, hk, rfl, rfl, rfl⟩ := hrel
    by_cases hlt : k < xs.length
    · have c1 := HC3.out k hlt
      have c2 := HC2.out k hlt
      obtain ⟨b1, b2, b3⟩ := pS_bd HO.out k hk
      obtain ⟨b4, b5⟩ := asc_bd HO.out k hlt
      cases hcn : cnts xs.length k
      · rw [hcn] at c1
        have e1 : pS (asc xs) xs.length (k + 1) = pS (asc xs) xs.length k := by rw [pS, hcn]; simp
        have e2 : pN xs.length (k + 1) = pN xs.length k := by rw [pN, hcn]; simp
        have E1 := Lib.hid e1
        have E2 := Lib.hid e2
        clear e1 e2
        go_wp2
        go_round
        case rel => exact ⟨k + 1, by omega, by go_num, by rw [E1.out], by rw [E2.out]⟩
        case measure => simp [intOf]; omega
      · rw [hcn] at c1
        have e1 : pS (asc xs) xs.length (k + 1) = pS (asc xs) xs.length k + ix (asc xs) k := by rw [pS, hcn]; simp
        have e2 : pN xs.length (k + 1) = pN xs.length k + 1 := by rw [pN, hcn]; simp
        have E1 := Lib.hid e1
        have E2 := Lib.hid e2
        clear e1 e2
        go_wp2
        go_round
        case rel => exact ⟨k + 1, by omega, by go_num, by rw [E1.out], by rw [E2.out]; go_num⟩
        case measure => simp [intOf]; omega
    · obtain rfl : k = xs.length := by omega
      have HP := Lib.hid (pS_all xs)
      go_wp2
      go_ret2
      rw [HP.out.1, HP.out.2]
      exact ⟨rfl, HB2.out⟩
end Go.Proofs.Ytnambmpnolkfjaa.One

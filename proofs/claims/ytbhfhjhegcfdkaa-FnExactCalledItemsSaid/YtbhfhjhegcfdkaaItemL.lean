/- Valid lists, in the model and in the program. -/
import Derived.Test.YtbhfhjhegcfdkaaItemG
namespace Go.Proofs.Ytbhfhjhegcfdkaa
open Go.ChangeShapes Go.WideShapes Go.ChangeAt Go.RowKit
set_option linter.unusedVariables false

structure ListOk (xs : List Im) : Prop where
  len : xs.length ≤ 14
  each : ∀ i, i < xs.length → ItOk (it xs i).ns (it xs i).ms
theorem itList_any (P : Option Addr) (c : Nat) (xs : List Im) (w : World) (hr : Ims w w.heap.size P xs) (hl : ImsFits xs) :
    Calls Try.prog 60 #[.slice P xs.length c] w fun e w' => e = .returned (.bool (pB (ListOk xs))) ∧ Below w.heap.size w w' := by
  have HR := Lib.hid hr
  have HF := Lib.hid hl.each
  have hl' := hl.len
  clear hr hl
  · go_enter Try.func60, Try.ntmps60
    go_wp2
    go_loopw [7] (fun i wr => ∃ k : Nat, k ≤ xs.length ∧ i = .int .i64 k ∧ Hid (∀ j, j < k → ItOk (it xs j).ns (it xs j).ms) ∧ Below w.heap.size w wr) (fun i _ => xs.length - (intOf i).toNat)
    case atStart => exact ⟨0, Nat.zero_le _, rfl, Lib.hid (fun j hj => absurd hj (by omega)), Below.refl _ _⟩
    case round =>
      obtain ⟨k, hk, rfl, HI, hb⟩ := hrel
      by_cases hlt : k < xs.length
      · obtain ⟨b, o, rfl, hbl, hc⟩ := HR.out.out.im (by omega)
        obtain ⟨c0, c1, c2⟩ := (hc k hlt).below hb hbl
        have HE := Lib.hid ((HR.out.each k hlt).next hb)
        have HL := Lib.hid (HF.out k hlt)
        have HB := Lib.hid hb
        clear hc hb
        by_cases hok : ItOk (it xs k).ns (it xs k).ms
        · have HC := Lib.hid (itGood_any (it xs k))
          rw [pB_yes hok] at HC
          have HO := Lib.hid hok
          clear hok
          go_wp2_with (go_at_call 74; refine (HC.out _ (HE.out.next (below_alloc _ _)) HL.out).mono ?_; rintro e w2 ⟨rfl, hb2⟩; have HB2 := Lib.hid (below_next HB.out (below_next (below_alloc _ _) hb2)); clear hb2)
          go_roundw
          case rel => exact ⟨k + 1, by omega, by go_num, Lib.hid (fun j hj => by
            rcases Nat.lt_or_ge j k with h | h
            · exact HI.out j h
            · obtain rfl : j = k := by omega
              exact HO.out), HB2.out⟩
          case measure => simp [intOf]; omega
        · have HC := Lib.hid (itGood_any (it xs k))
          rw [pB_no hok] at HC
          have HV := Lib.hid (pB_no (fun hh : ListOk xs => hok (hh.each k hlt)))
          clear hok
          go_wp2_with (go_at_call 74; refine (HC.out _ (HE.out.next (below_alloc _ _)) HL.out).mono ?_; rintro e w2 ⟨rfl, hb2⟩; have HB2 := Lib.hid (below_next HB.out (below_next (below_alloc _ _) hb2)); clear hb2)
          go_ret
          exact ⟨by rw [HV.out]; rfl, HB2.out⟩
      · obtain rfl : k = xs.length := by omega
        by_cases h : xs.length ≤ 14
        · have HV := Lib.hid (pB_yes (⟨h, HI.out⟩ : ListOk xs))
          go_wp2
          go_ret
          exact ⟨by rw [HV.out]; first | rfl | (simp; omega), hb⟩
        · have HV := Lib.hid (pB_no (fun hh : ListOk xs => h hh.len))
          have h' : 14 < xs.length := by omega
          go_wp2
          go_ret
          exact ⟨by rw [HV.out]; first | rfl | (simp; omega), hb⟩
theorem iAreItems_any (P : Option Addr) (c : Nat) (xs : List Im) (w : World) (hr : Ims w w.heap.size P xs) (hl : ImsFits xs) :
    Calls Try.prog 47 #[.slice P xs.length c] w fun e w' => e = .returned (.bool (pB (ListOk xs))) ∧ Below w.heap.size w w' := by
  have HR := Lib.hid hr
  have HF := Lib.hid hl.each
  have hl' := hl.len
  clear hr hl
  by_cases hn : xs.length ≤ 14
  · go_enter Try.func47, Try.ntmps47
    go_wp2
    go_loopw [10] (fun i wr => ∃ k : Nat, k ≤ xs.length ∧ i = .int .i64 k ∧ Hid (∀ j, j < k → ItOk (it xs j).ns (it xs j).ms) ∧ Below w.heap.size w wr) (fun i _ => xs.length - (intOf i).toNat)
    case atStart => exact ⟨0, Nat.zero_le _, rfl, Lib.hid (fun j hj => absurd hj (by omega)), Below.refl _ _⟩
    case round =>
      obtain ⟨k, hk, rfl, HI, hb⟩ := hrel
      by_cases hlt : k < xs.length
      · obtain ⟨b, o, rfl, hbl, hc⟩ := HR.out.out.im (by omega)
        obtain ⟨c0, c1, c2⟩ := (hc k hlt).below hb hbl
        have HE := Lib.hid ((HR.out.each k hlt).next hb)
        have HL := Lib.hid (HF.out k hlt)
        have HB := Lib.hid hb
        clear hc hb
        by_cases hok : ItOk (it xs k).ns (it xs k).ms
        · have HC := Lib.hid (iIsItem_any (it xs k))
          rw [pB_yes hok] at HC
          have HO := Lib.hid hok
          clear hok
          go_wp2_with (go_at_call 70; refine (HC.out _ (HE.out.next (below_alloc _ _)) HL.out).mono ?_; rintro e w2 ⟨rfl, hb2⟩; have HB2 := Lib.hid (below_next HB.out (below_next (below_alloc _ _) hb2)); clear hb2)
          go_roundw
          case rel => exact ⟨k + 1, by omega, by go_num, Lib.hid (fun j hj => by
            rcases Nat.lt_or_ge j k with h | h
            · exact HI.out j h
            · obtain rfl : j = k := by omega
              exact HO.out), HB2.out⟩
          case measure => simp [intOf]; omega
        · have HC := Lib.hid (iIsItem_any (it xs k))
          rw [pB_no hok] at HC
          have HV := Lib.hid (pB_no (fun hh : ListOk xs => hok (hh.each k hlt)))
          clear hok
          go_wp2_with (go_at_call 70; refine (HC.out _ (HE.out.next (below_alloc _ _)) HL.out).mono ?_; rintro e w2 ⟨rfl, hb2⟩; have HB2 := Lib.hid (below_next HB.out (below_next (below_alloc _ _) hb2)); clear hb2)
          go_ret
          exact ⟨by rw [HV.out]; rfl, HB2.out⟩
      · obtain rfl : k = xs.length := by omega
        have HV := Lib.hid (pB_yes (⟨hn, HI.out⟩ : ListOk xs))
        go_wp2
        go_ret
        exact ⟨by rw [HV.out]; rfl, hb⟩
  · have HV := Lib.hid (pB_no (fun hh : ListOk xs => hn hh.len))
    have hn' : 14 < xs.length := by omega
    go_enter Try.func47, Try.ntmps47
    go_wp2
    go_ret
    exact ⟨by rw [HV.out]; rfl, Below.refl _ _⟩
end Go.Proofs.Ytbhfhjhegcfdkaa

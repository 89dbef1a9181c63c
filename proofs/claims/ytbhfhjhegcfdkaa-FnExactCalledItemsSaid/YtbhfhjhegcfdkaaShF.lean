/- IsSheet of the program. -/
import Derived.Test.YtbhfhjhegcfdkaaShE
import Derived.Shelf.SlGeneric
namespace Go.Proofs.Ytbhfhjhegcfdkaa
open Go.ChangeShapes Go.WideShapes Go.ChangeAt Go.RowKit Go.Lib Go.Proofs
set_option linter.unusedVariables false

set_option maxHeartbeats 1000000 in
theorem areUnmarked_any (P : Option Addr) (c : Nat) (xs : List Im) (w : World) (hp : Ims w w.heap.size P xs) (hok : ListOk xs) :
    Calls Try.prog 67 #[.slice P xs.length c] w fun e w' => e = .returned (.bool (pB (NoMks xs))) ∧ Below w.heap.size w w' := by
  have HP := Lib.hid hp
  have HK := Lib.hid hok
  have h14 := hok.len
  clear hp hok
  go_enter Try.func67, Try.ntmps67
  go_wp2
  go_loopw [9] (fun i wr => ∃ k : Nat, k ≤ xs.length ∧ i = .int .i64 k ∧ Hid (∀ i, i < k → NoMk (it xs i)) ∧ Hid (Below w.heap.size w wr)) (fun i _ => xs.length - (intOf i).toNat)
  case atStart => exact ⟨0, Nat.zero_le _, rfl, Lib.hid none_yet, Lib.hid (Below.refl _ _)⟩
  case round =>
    obtain ⟨k, hk, rfl, HI, HBR⟩ := hrel
    by_cases hlt : k < xs.length
    · obtain ⟨b, o, rfl, hbl, hc⟩ := HP.out.out.im (by omega)
      obtain ⟨c0, c1, c2⟩ := (hc k hlt).below HBR.out hbl
      have hm1 : 0 < (it xs k).ms.length := by have := (HK.out.each k hlt).lo; have := (HK.out.each k hlt).eq; omega
      have hm3 : (it xs k).ms.length ≤ 3 := by have := (HK.out.each k hlt).hi; have := (HK.out.each k hlt).eq; omega
      obtain ⟨b', o', hA', hbl', hc'⟩ := (HP.out.each k hlt).ms.int hm1
      rw [hA'] at c1
      have HM := Lib.hid hc'
      clear hc hc' hA'
      go_wp2_with fail
      clear c0 c1 c2
      generalize hw3 : World.alloc wr _ = w3
      have hb3 : Below wr.heap.size wr w3 := by
        rw [← hw3]
        exact below_alloc _ _
      have HB3 := Lib.hid (below_next HBR.out hb3)
      clear hw3 hb3
      go_loop [16] (fun i => ∃ j : Nat, j ≤ (it xs k).ms.length ∧ i = .int .i64 j ∧ Hid (∀ i, i < j → it (it xs k).ms i = 0)) (fun i => (it xs k).ms.length - (intOf i).toNat)
      case atStart => exact ⟨0, Nat.zero_le _, rfl, Lib.hid none_yet⟩
      case round =>
        obtain ⟨j, hj, rfl, HJ⟩ := hrel
        by_cases hjl : j < (it xs k).ms.length
        · have hv := (HB3.out.cell (p := ⟨b', o' + j, none⟩) hbl').trans (HM.out j hjl)
          by_cases hq : it (it xs k).ms j = 0
          · have HQ := Lib.hid (one_more (Q := fun i => it (it xs k).ms i = 0) HJ.out hq)
            rw [hq] at hv
            clear hq
            go_wp2
            go_round
            case rel => exact ⟨j + 1, by omega, by go_num, HQ⟩
            case measure => simp [intOf]; omega
          · have HV := Lib.hid (pB_no (fun hh : NoMks xs => hq (hh k hlt j hjl)))
            have hq' : (it (it xs k).ms j != 0) = true := by simpa using hq
            clear hq
            go_wp2
            go_ret
            exact ⟨by rw [HV.out]; rfl, HB3.out⟩
        · obtain rfl : j = (it xs k).ms.length := by omega
          have HQ := Lib.hid (one_more (Q := fun i => NoMk (it xs i)) HI.out HJ.out)
          go_wp2
          go_roundw
          case rel => exact ⟨k + 1, by omega, by go_num, HQ, HB3⟩
          case measure => simp [intOf]; omega
    · obtain rfl : k = xs.length := by omega
      have HV := Lib.hid (pB_yes (show NoMks xs from HI.out))
      go_wp2
      go_ret
      exact ⟨by rw [HV.out]; rfl, HBR.out⟩

theorem isVote_any (v : Int) (w : World) :
    Calls Try.prog 83 #[.int .i64 v] w fun e w' => e = .returned (.bool (pB (VtOk v))) ∧ w' = w := by
  by_cases h1 : v = -1
  · subst h1
    rw [pB_yes (show VtOk (-1) from ⟨Int.le_refl _, by omega⟩)]
    go_enter Try.func83, Try.ntmps83
    go_wp2
    go_ret
    exact ⟨rfl, rfl⟩
  · have hd : (v == -1) = false := by simpa using h1
    by_cases h2 : MkOk v
    · rw [pB_yes (show VtOk v from ⟨by have := h2.1; omega, h2.2⟩)]
      have H2 := Lib.hid h2
      clear h1 h2
      go_enter Try.func83, Try.ntmps83
      go_wp2_with (go_at_call 78; refine (isMark_yes v _ H2.out).mono ?_; rintro e w2 ⟨rfl, rfl⟩)
      go_ret
      exact ⟨rfl, rfl⟩
    · rw [pB_no (fun hh : VtOk v => h2 ⟨by have := hh.1; omega, hh.2⟩)]
      have H2 := Lib.hid h2
      clear h1 h2
      go_enter Try.func83, Try.ntmps83
      go_wp2_with (go_at_call 78; refine (isMark_no v _ H2.out).mono ?_; rintro e w2 ⟨rfl, rfl⟩)
      go_ret
      exact ⟨rfl, rfl⟩
theorem noVote_any (v : Int) (w : World) :
    Calls Try.prog 82 #[.int .i64 v] w fun e w' => e = .returned (.bool (!pB (VtOk v))) ∧ w' = w := by
  go_enter Try.func82, Try.ntmps82
  go_wp2_with (go_at_call 83; refine (isVote_any v _).mono ?_; rintro e w2 ⟨rfl, rfl⟩)
  go_ret
  exact ⟨rfl, rfl⟩
/-- The place of the first number that is no vote, or -1. -/
theorem indexFunc_any (A : Option Addr) (c : Nat) (xs : List Int) (w : World) (hr : Lst w w.heap.size A xs) (hl : xs.length ≤ 1048576) :
    Calls Try.prog 86 #[.slice A xs.length c, .func (.func 82) #[] #[]] w fun e w' => (∃ i : Int, e = .returned (.int .i64 i) ∧ ((0 ≤ i ∧ ¬ ∀ j, j < xs.length → VtOk (it xs j)) ∨ i = -1 ∧ ∀ j, j < xs.length → VtOk (it xs j))) ∧ w' = w := by
  have HR := Lib.hid hr
  have eG : ∀ args w, (callFunc 82 args).run Try.prog w = .ok (.enter 82 args) w := enters_of Try.func82 (by kernel_rfl) rfl
  clear hr
  go_enter Try.func86, Try.ntmps86
  go_wp2
  go_loop [8] (fun i => ∃ k : Nat, k ≤ xs.length ∧ i = .int .i64 k ∧ Hid (∀ j, j < k → VtOk (it xs j))) (fun i => xs.length - (intOf i).toNat)
  case atStart => exact ⟨0, Nat.zero_le _, rfl, Lib.hid none_yet⟩
  case round =>
    obtain ⟨k, hk, rfl, HI⟩ := hrel
    by_cases hlt : k < xs.length
    · obtain ⟨b, o, rfl, hbl, hc⟩ := HR.out.int (by omega)
      have hck := hc k hlt
      have hi1 : (0 : Int) ≤ (k : Int) := by omega
      have hi2 : (k : Int) < (xs.length : Int) := by omega
      have HC := Lib.hid (noVote_any (it xs k))
      clear hc
      by_cases h : VtOk (it xs k)
      · rw [pB_yes h] at HC
        have HH := Lib.hid h
        clear h
        go_wp2_with (go_at_fn 82; refine (HC.out _).mono ?_; rintro e w2 ⟨rfl, rfl⟩)
        go_round
        case rel => exact ⟨k + 1, by omega, by go_num, Lib.hid (one_more HI.out HH.out)⟩
        case measure => simp [intOf]; omega
      · rw [pB_no h] at HC
        have HH := Lib.hid (fun hh : ∀ j, j < xs.length → VtOk (it xs j) => h (hh k hlt))
        clear h
        go_wp2_with (go_at_fn 82; refine (HC.out _).mono ?_; rintro e w2 ⟨rfl, rfl⟩)
        go_ret
        exact ⟨⟨_, rfl, .inl ⟨hi1, HH.out⟩⟩, rfl⟩
    · obtain rfl : k = xs.length := by omega
      go_wp2
      go_ret
      exact ⟨⟨_, rfl, .inr ⟨rfl, HI.out⟩⟩, rfl⟩
end Go.Proofs.Ytbhfhjhegcfdkaa

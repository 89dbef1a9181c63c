/- Marks in the program and in its model: AreMarksOf. -/
import Derived.Test.YtnambmpnolkfjaaTmP
import Derived.Test.YtnambmpnolkfjaaOneSorted
import Derived.Test.YtnambmpnolkfjaaNam
import Derived.Shelf.SlGeneric
namespace Go.Proofs.Ytnambmpnolkfjaa.One
open Go.ChangeShapes Go.WideShapes Go.ChangeAt Go.RowKit Go.Lib Go.Proofs
set_option linter.unusedVariables false

def MkV (v : Int) : Prop := -1000 ≤ v ∧ v ≤ 1000
theorem isMark_any (v : Int) (w : World) :
    Calls Try.prog 51 #[.int .i64 v] w fun e w' => e = .returned (.bool (pB (MkV v))) ∧ w' = w := by
  by_cases h1 : -1000 ≤ v
  · by_cases h2 : v ≤ 1000
    · rw [pB_yes (show MkV v from ⟨h1, h2⟩)]
      go_enter Try.func51, Try.ntmps51
      go_wp2
      go_ret
      simp [*]
    · rw [pB_no (fun q : MkV v => h2 q.2)]
      have h3 : 1000 < v := by omega
      clear h2
      go_enter Try.func51, Try.ntmps51
      go_wp2
      go_ret
      simp
      omega
  · rw [pB_no (fun q : MkV v => h1 q.1)]
    have h2 : v < -1000 := by omega
    clear h1
    go_enter Try.func51, Try.ntmps51
    go_wp2
    go_ret
    simp
theorem notMark_any (v : Int) (w : World) :
    Calls Try.prog 50 (#[.int .i64 v] ++ #[]) w fun e w' => e = .returned (.bool (!pB (MkV v))) ∧ w' = w := by
  show Calls Try.prog 50 #[.int .i64 v] w _
  go_enter Try.func50, Try.ntmps50
  go_wp2_with (go_at_call 51; refine (isMark_any _ _).mono ?_; rintro e w2 ⟨rfl, rfl⟩)
  go_ret
  exact ⟨rfl, rfl⟩
theorem none_yet {Q : Nat → Prop} : ∀ j, j < 0 → Q j := fun j h => absurd h (by omega)
theorem one_more {Q : Nat → Prop} {k : Nat} (h : ∀ j, j < k → Q j) (hk : Q k) : ∀ j, j < k + 1 → Q j := fun j hj => by
  rcases Nat.lt_or_ge j k with q | q
  · exact h j q
  · rw [show j = k by omega]
    exact hk
def AllM (xs : List Int) : Prop := ∀ j, j < xs.length → MkV (ix xs j)
theorem indexM_any (A : Option Addr) (c : Nat) (xs : List Int) (w : World) (B : Nat) (hr : Ints w B A xs) (hl : xs.length ≤ 1048576) :
    Calls Try.prog 87 #[.slice A xs.length c, .func (.func 50) #[] #[]] w fun e w' => (∃ i : Int, e = .returned (.int .i64 i) ∧ ((0 ≤ i ∧ ¬ AllM xs) ∨ i = -1 ∧ AllM xs)) ∧ w' = w := by
  have HR := Lib.hid hr
  have eN : ∀ args w, (callFunc 50 args).run Try.prog w = .ok (.enter 50 args) w := enters_of Try.func50 (by kernel_rfl) rfl
  clear hr
  go_enter Try.func87, Try.ntmps87
  go_wp2
  go_loop [8] (fun i => ∃ k : Nat, k ≤ xs.length ∧ i = .int .i64 k ∧ Hid (∀ j, j < k → MkV (ix xs j))) (fun i => xs.length - (intOf i).toNat)
  case atStart => exact ⟨0, Nat.zero_le _, rfl, Lib.hid none_yet⟩
  case round =>
    obtain ⟨k, hk, rfl, HI⟩ := hrel
    by_cases hlt : k < xs.length
    · obtain ⟨b', o, rfl, hbl, hc⟩ := HR.out (by omega)
      have hck := hc k hlt
      have hi1 : (0 : Int) ≤ (k : Int) := by omega
      have hi2 : (k : Int) < (xs.length : Int) := by omega
      have HC := Lib.hid (notMark_any (ix xs k))
      clear hc
      by_cases h : MkV (ix xs k)
      · rw [pB_yes h] at HC
        have HH := Lib.hid h
        clear h
        go_wp2_with (go_at_fn 50; refine (HC.out _).mono ?_; rintro e w2 ⟨rfl, rfl⟩)
        go_round
        case rel => exact ⟨k + 1, by omega, by go_num, Lib.hid (one_more HI.out HH.out)⟩
        case measure => simp [intOf]; omega
      · rw [pB_no h] at HC
        have HH := Lib.hid (fun hh : AllM xs => h (hh k hlt))
        clear h
        go_wp2_with (go_at_fn 50; refine (HC.out _).mono ?_; rintro e w2 ⟨rfl, rfl⟩)
        go_ret
        exact ⟨⟨_, rfl, .inl ⟨hi1, HH.out⟩⟩, rfl⟩
    · obtain rfl : k = xs.length := by omega
      go_wp2
      go_ret
      exact ⟨⟨_, rfl, .inr ⟨rfl, HI.out⟩⟩, rfl⟩
theorem containsM_any (A : Option Addr) (c : Nat) (xs : List Int) (w : World) (B : Nat) (hr : Ints w B A xs) (hl : xs.length ≤ 1048576) :
    Calls Try.prog 49 #[.slice A xs.length c, .func (.func 50) #[] #[]] w fun e w' => e = .returned (.bool (!pB (AllM xs))) ∧ w' = w := by
  have HC := Lib.hid (indexM_any A c xs w B hr hl)
  clear hr
  go_enter Try.func49, Try.ntmps49
  go_wp2_with (go_at_call 87; refine HC.out.mono ?_; rintro e w2 ⟨⟨i, rfl, hi⟩, rfl⟩; have HI := Lib.hid hi; clear hi)
  go_ret
  rcases HI.out with ⟨h1, h2⟩ | ⟨h1, h2⟩
  · rw [pB_no h2]
    exact ⟨by simp; omega, rfl⟩
  · rw [pB_yes h2, h1]
    exact ⟨rfl, rfl⟩
theorem iAreMarksOf_any (A : Option Addr) (c : Nat) (xs : List Int) (w : World) (B : Nat) (hr : Ints w B A xs) (hl : xs.length ≤ 1048576) :
    Calls Try.prog 17 #[.slice A xs.length c] w fun e w' => e = .returned (.bool (pB (TmOk xs))) ∧ w' = w := by
  have HC := Lib.hid (containsM_any A c xs w B hr hl)
  clear hr
  by_cases h1 : 1 ≤ xs.length
  · by_cases h2 : xs.length ≤ 9
    · have HV := Lib.hid (show pB (AllM xs) = pB (TmOk xs) from pB_iff ⟨fun h => ⟨h1, h2, h⟩, fun h => h.each⟩)
      go_enter Try.func17, Try.ntmps17
      go_wp2_with (go_at_call 49; refine HC.out.mono ?_; rintro e w2 ⟨rfl, rfl⟩)
      go_ret
      rw [HV.out]
      simp
    · rw [pB_no (fun h : TmOk xs => h2 h.hi)]
      clear HC
      go_enter Try.func17, Try.ntmps17
      go_wp2
      go_ret
      simp
  · rw [pB_no (fun h : TmOk xs => h1 h.lo)]
    clear HC
    go_enter Try.func17, Try.ntmps17
    go_wp2
    go_ret
    simp
theorem tmGood_any (A : Option Addr) (c : Nat) (xs : List Int) (w : World) (B : Nat) (hr : Ints w B A xs) (hl : xs.length ≤ 1048576) :
    Calls Try.prog 48 #[.slice A xs.length c] w fun e w' => e = .returned (.bool (pB (TmOk xs))) ∧ w' = w := by
  have HR := Lib.hid hr
  clear hr
  by_cases h1 : 1 ≤ xs.length
  · by_cases h2 : xs.length ≤ 9
    · by_cases h3 : AllM xs
      · rw [pB_yes (show TmOk xs from ⟨h1, h2, h3⟩)]
        have H3 := Lib.hid h3
        clear h3
        go_enter Try.func48, Try.ntmps48
        go_wp2_with (first | (go_at_call 56; go_in) | (go_at_call 86; refine (l1All_yes _ _ _ _ _ _ B HR.out hl H3.out).mono ?_; rintro e w' ⟨rfl, rfl⟩))
        go_ret
        exact ⟨rfl, rfl⟩
      · rw [pB_no (fun h : TmOk xs => h3 h.each)]
        have H3 := Lib.hid h3
        clear h3
        go_enter Try.func48, Try.ntmps48
        go_wp2_with (first | (go_at_call 56; go_in) | (go_at_call 86; refine (l1All_no _ _ _ _ _ _ B HR.out hl H3.out).mono ?_; rintro e w' ⟨rfl, rfl⟩))
        go_ret
        exact ⟨rfl, rfl⟩
    · rw [pB_no (fun h : TmOk xs => h2 h.hi)]
      have h3 : (9 : Int) < (xs.length : Int) := by omega
      go_enter Try.func48, Try.ntmps48
      go_wp2_with (go_at_call 56; go_in)
      go_ret
      exact ⟨rfl, rfl⟩
  · rw [pB_no (fun h : TmOk xs => h1 h.lo)]
    have h3 : (xs.length : Int) < (1 : Int) := by omega
    go_enter Try.func48, Try.ntmps48
    go_wp2_with (go_at_call 56; go_in)
    go_ret
    exact ⟨rfl, rfl⟩
theorem sAreMarksOf_any (A : Option Addr) (c : Nat) (xs : List Int) (w : World) (B : Nat) (hr : Ints w B A xs) (hl : xs.length ≤ 1048576) :
    Calls Try.prog 15 #[.slice A xs.length c] w fun e w' => e = .returned (.bool (pB (TmOk xs))) ∧ w' = w := by
  have HC := Lib.hid (tmGood_any A c xs w B hr hl)
  clear hr
  go_enter Try.func15, Try.ntmps15
  go_wp2_with (first | (go_at_call 48; refine HC.out.mono ?_; rintro e w2 ⟨rfl, rfl⟩) | (go_at_call 56; go_in))
  go_ret
  exact ⟨rfl, rfl⟩
/-- One of some marks. -/
structure TmHas (xs : List Int) (k : Int) : Prop where
  ok : TmOk xs
  lo : 0 ≤ k
  hi : k < xs.length
theorem hasMarkOf_any (A : Option Addr) (c : Nat) (xs : List Int) (k : Int) (w : World) (B : Nat) (hr : Ints w B A xs) (hl : xs.length ≤ 1048576) :
    Calls Try.prog 62 #[.slice A xs.length c, .int .i64 k] w fun e w' => e = .returned (.bool (pB (TmHas xs k))) ∧ w' = w := by
  have HC := Lib.hid (iAreMarksOf_any A c xs w B hr hl)
  clear hr
  by_cases h : TmOk xs
  · rw [pB_yes h] at HC
    by_cases h1 : 0 ≤ k
    · by_cases h2 : k < xs.length
      · rw [pB_yes (show TmHas xs k from ⟨h, h1, h2⟩)]
        clear h
        go_enter Try.func62, Try.ntmps62
        go_wp2_with (go_at_call 17; refine HC.out.mono ?_; rintro e w2 ⟨rfl, rfl⟩)
        go_ret
        simp [*]
      · rw [pB_no (fun q : TmHas xs k => h2 q.hi)]
        clear h
        go_enter Try.func62, Try.ntmps62
        go_wp2_with (go_at_call 17; refine HC.out.mono ?_; rintro e w2 ⟨rfl, rfl⟩)
        go_ret
        simp
        omega
    · rw [pB_no (fun q : TmHas xs k => h1 q.lo)]
      clear h
      go_enter Try.func62, Try.ntmps62
      go_wp2_with (go_at_call 17; refine HC.out.mono ?_; rintro e w2 ⟨rfl, rfl⟩)
      go_ret
      simp
  · rw [pB_no h] at HC
    rw [pB_no (fun q : TmHas xs k => h q.ok)]
    clear h
    go_enter Try.func62, Try.ntmps62
    go_wp2_with (go_at_call 17; refine HC.out.mono ?_; rintro e w2 ⟨rfl, rfl⟩)
    go_ret
    simp
theorem tmHas_any (A : Option Addr) (c : Nat) (xs : List Int) (k : Int) (w : World) (B : Nat) (hr : Ints w B A xs) (hl : xs.length ≤ 1048576) :
    Calls Try.prog 60 #[.slice A xs.length c, .int .i64 k] w fun e w' => e = .returned (.bool (pB (TmHas xs k))) ∧ w' = w := by
  have HC := Lib.hid (tmGood_any A c xs w B hr hl)
  clear hr
  by_cases h : TmOk xs
  · rw [pB_yes h] at HC
    by_cases h1 : 0 ≤ k
    · by_cases h2 : k < xs.length
      · rw [pB_yes (show TmHas xs k from ⟨h, h1, h2⟩)]
        have h3 : k ≤ (xs.length : Int) - 1 := by omega
        clear h
        go_enter Try.func60, Try.ntmps60
        go_wp2_with (first | (go_at_call 48; refine HC.out.mono ?_; rintro e w2 ⟨rfl, rfl⟩) | (go_at_call 56; go_in))
        go_ret
        simp [*]
      · rw [pB_no (fun q : TmHas xs k => h2 q.hi)]
        have h3 : (xs.length : Int) - 1 < k := by omega
        clear h
        go_enter Try.func60, Try.ntmps60
        go_wp2_with (first | (go_at_call 48; refine HC.out.mono ?_; rintro e w2 ⟨rfl, rfl⟩) | (go_at_call 56; go_in))
        go_ret
        simp
        try omega
    · rw [pB_no (fun q : TmHas xs k => h1 q.lo)]
      clear h
      go_enter Try.func60, Try.ntmps60
      go_wp2_with (first | (go_at_call 48; refine HC.out.mono ?_; rintro e w2 ⟨rfl, rfl⟩) | (go_at_call 56; go_in))
      go_ret
      simp
  · rw [pB_no h] at HC
    rw [pB_no (fun q : TmHas xs k => h q.ok)]
    clear h
    go_enter Try.func60, Try.ntmps60
    go_wp2_with (first | (go_at_call 48; refine HC.out.mono ?_; rintro e w2 ⟨rfl, rfl⟩) | (go_at_call 56; go_in))
    go_ret
    simp
end Go.Proofs.Ytnambmpnolkfjaa.One

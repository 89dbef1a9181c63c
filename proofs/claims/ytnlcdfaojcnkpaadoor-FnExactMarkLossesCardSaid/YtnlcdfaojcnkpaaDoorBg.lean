/- The rules of a programme as the model asks them. The rules about names as the model asks them. A rule of a programme, in the model. -/
import Derived.Test.YtnlcdfaojcnkpaaDoorBf
namespace Go.Proofs.YtnlcdfaojcnkpaaDoor
open Go.ChangeShapes Go.WideShapes Go.ChangeAt Go.RowKit
set_option linter.unusedVariables false

theorem all_next {Q : Nat → Prop} {k : Nat} (h : ∀ j, j < k → Q j) (hk : Q k) : ∀ j, j < k + 1 → Q j := fun j hj => by
  rcases Nat.lt_or_ge j k with h1 | h1
  · exact h j h1
  · obtain rfl : j = k := by omega
    exact hk
theorem all_zero {Q : Nat → Prop} : ∀ j, j < 0 → Q j := fun j hj => absurd hj (by omega)
/-- No name of an item has a mark. -/
def Unmarked (y : Im) : Prop := ∀ i, i < y.ms.length → it y.ms i = 0
/-- How many of the first k items have more than m names. -/
def cntW (m : Nat) (xs : List Im) : Nat → Nat
  | 0 => 0
  | k + 1 => if m < (it xs k).ns.length then cntW m xs k + 1 else cntW m xs k
theorem cntW_le (m : Nat) (xs : List Im) : ∀ k, cntW m xs k ≤ k
  | 0 => Nat.le_refl _
  | k + 1 => by
    have := cntW_le m xs k
    unfold cntW
    by_cases h : m < (it xs k).ns.length
    · rw [if_pos h]; omega
    · rw [if_neg h]; omega
theorem cntW_yes {m : Nat} {xs : List Im} {k : Nat} (h : m < (it xs k).ns.length) : cntW m xs (k + 1) = cntW m xs k + 1 := if_pos h
theorem cntW_no {m : Nat} {xs : List Im} {k : Nat} (h : ¬ m < (it xs k).ns.length) : cntW m xs (k + 1) = cntW m xs k := if_neg h
/-- How often a name occurs among the first j names. -/
def timI (s : ByteArray) (ns : List ByteArray) : Nat → Nat
  | 0 => 0
  | j + 1 => if it ns j = s then timI s ns j + 1 else timI s ns j
theorem timI_le (s : ByteArray) (ns : List ByteArray) : ∀ j, timI s ns j ≤ j
  | 0 => Nat.le_refl _
  | j + 1 => by
    have := timI_le s ns j
    unfold timI
    by_cases h : it ns j = s
    · rw [if_pos h]; omega
    · rw [if_neg h]; omega
theorem timI_yes {s : ByteArray} {ns : List ByteArray} {j : Nat} (h : it ns j = s) : timI s ns (j + 1) = timI s ns j + 1 := if_pos h
theorem timI_no {s : ByteArray} {ns : List ByteArray} {j : Nat} (h : ¬ it ns j = s) : timI s ns (j + 1) = timI s ns j := if_neg h
/-- How often a name occurs in an item that is combined. -/
def comI (s : ByteArray) (ns : List ByteArray) (j : Nat) : Nat := if 1 < ns.length then timI s ns j else 0
theorem comI_yes {s : ByteArray} {ns : List ByteArray} (h : 1 < ns.length) (j : Nat) : comI s ns j = timI s ns j := if_pos h
theorem comI_no {s : ByteArray} {ns : List ByteArray} (h : ¬ 1 < ns.length) (j : Nat) : comI s ns j = 0 := if_neg h
theorem comI_le (s : ByteArray) (ns : List ByteArray) (j : Nat) : comI s ns j ≤ j := by
  by_cases h : 1 < ns.length
  · rw [comI_yes h]; exact timI_le s ns j
  · rw [comI_no h]; omega
/-- How often a name occurs in the first k items, and in combined ones of them. -/
def timN (s : ByteArray) (xs : List Im) : Nat → Nat
  | 0 => 0
  | k + 1 => timN s xs k + timI s (it xs k).ns (it xs k).ns.length
def comN (s : ByteArray) (xs : List Im) : Nat → Nat
  | 0 => 0
  | k + 1 => comN s xs k + comI s (it xs k).ns (it xs k).ns.length
theorem timN_le {xs : List Im} (hok : ListOk xs) (s : ByteArray) : ∀ k, k ≤ xs.length → timN s xs k ≤ 3 * k ∧ comN s xs k ≤ 3 * k
  | 0, _ => by simp [timN, comN]
  | k + 1, hk => by
    have h1 := timN_le hok s k (by omega)
    have h2 := (hok.each k (by omega)).hi
    have h3 := timI_le s (it xs k).ns (it xs k).ns.length
    have h4 := comI_le s (it xs k).ns (it xs k).ns.length
    simp only [timN, comN]
    omega
/-- A name is known; it is a jump, or alone; it is repeated as it may be. -/
def Known (x : Cd) (n : ByteArray) : Prop := 0 ≤ fndI x.els n
def Jump (x : Cd) (ns : List ByteArray) (n : ByteArray) : Prop := ns.length = 1 ∨ famI x n = 0
def Seldom (x : Cd) (xs : List Im) (n : ByteArray) : Prop := (timN n xs xs.length : Int) ≤ x.rep ∧ (timN n xs xs.length = 1 ∨ 0 < comN n xs xs.length)
/-- The names of all items keep a rule. -/
def AllNames (xs : List Im) (Q : List ByteArray → ByteArray → Prop) : Prop := ∀ i, i < xs.length → ∀ j, j < (it xs i).ns.length → Q (it xs i).ns (it (it xs i).ns j)
/-- The rule k holds. -/
def RuleP (x : Cd) (xs : List Im) : Nat → Prop
  | 1 => 0 < xs.length
  | 2 => AllNames xs (fun _ n => Known x n)
  | 3 => ∀ i, i < xs.length → Unmarked (it xs i)
  | 4 => AllNames xs (Jump x)
  | 5 => cntW 1 xs xs.length ≤ 3 ∧ cntW 2 xs xs.length ≤ 1
  | 6 => ∀ f, f < 5 → it (cntG x xs xs.length) f ≤ it x.lims f
  | 7 => AllNames xs (fun _ n => Seldom x xs n)
  | _ => ∀ i, i < xs.length → (it xs i).late = decide (xs.length ≤ 2 * i)

theorem l1All_zero (A : Option Addr) (c : Nat) (xs : List Int) (w : World) (hr : Lst w w.heap.size A xs) (hl : xs.length ≤ 1048576) :
    Calls Tryd.prog 64 #[.slice A xs.length c, .int .i64 0, .int .i64 0] w fun e w' => e = .returned (.bool (pB (∀ i, i < xs.length → it xs i = 0))) ∧ w = w' := by
  have HR := Lib.hid hr
  clear hr
  go_enter Tryd.func64, Tryd.ntmps64
  go_wp2
  go_loop [11] (fun i => ∃ k : Nat, k ≤ xs.length ∧ i = .int .i64 k ∧ Hid (∀ j, j < k → it xs j = 0)) (fun i => xs.length - (intOf i).toNat)
  case atStart => exact ⟨0, Nat.zero_le _, rfl, Lib.hid all_zero⟩
  case round =>
    obtain ⟨k, hk, rfl, HI⟩ := hrel
    by_cases hlt : k < xs.length
    · obtain ⟨b, o, rfl, hbl, hc⟩ := HR.out.int (by omega)
      have hck := hc k hlt
      clear hc
      by_cases h : it xs k = 0
      · have HZ := Lib.hid h
        have h1 : 0 ≤ it xs k := by omega
        have h2 : it xs k ≤ 0 := by omega
        clear h
        go_wp2_with (go_at_call 63; refine (l1In_yes _ _ _ _ h1 h2).mono ?_; rintro e w2 ⟨rfl, rfl⟩)
        go_round
        case rel => exact ⟨k + 1, by omega, by go_num, Lib.hid (all_next HI.out HZ.out)⟩
        case measure => simp [intOf]; omega
      · have HV := Lib.hid (pB_no (fun hh : ∀ i, i < xs.length → it xs i = 0 => h (hh k hlt)))
        go_wp2_with (go_at_call 63; refine (l1In_no _ _ _ _ (by omega)).mono ?_; rintro e w2 ⟨rfl, rfl⟩)
        go_ret
        exact ⟨by rw [HV.out]; rfl, rfl⟩
    · obtain rfl : k = xs.length := by omega
      have HV := Lib.hid (pB_yes HI.out)
      go_wp2
      go_ret
      exact ⟨by rw [HV.out]; rfl, rfl⟩
end Go.Proofs.YtnlcdfaojcnkpaaDoor

namespace Go.Proofs.YtnlcdfaojcnkpaaDoor
open Go.ChangeShapes Go.WideShapes Go.ChangeAt Go.RowKit
set_option linter.unusedVariables false

end Go.Proofs.YtnlcdfaojcnkpaaDoor

namespace Go.Proofs.YtnlcdfaojcnkpaaDoor
open Go.ChangeShapes Go.WideShapes Go.ChangeAt Go.RowKit
set_option linter.unusedVariables false

end Go.Proofs.YtnlcdfaojcnkpaaDoor

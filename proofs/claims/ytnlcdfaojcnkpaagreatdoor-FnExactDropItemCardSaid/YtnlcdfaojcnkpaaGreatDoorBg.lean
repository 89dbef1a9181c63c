/- The rules of a programme as the model asks them. The rules about names as the model asks them. A rule of a programme, in the model. -/
import Derived.Test.YtnlcdfaojcnkpaaGreatDoorBf
namespace Go.Proofs.YtnlcdfaojcnkpaaGreatDoor
open Go.ChangeShapes Go.WideShapes Go.ChangeAt Go.RowKit
set_option linter.unusedVariables false

theorem all_next {Q : Nat → Prop} {k : Nat} (h : ∀ j, j < k → Q j) (hk : Q k) : ∀ j, j < k + 1 → Q j := fun j hj => by
  rcases Nat.lt_or_ge j k with h1 | h1
  · exact h j h1
  · obtain rfl : j = k := by omega
    exact hk
theorem all_zero {Q : Nat → Prop} : ∀ j, j < 0 → Q j := fun j hj => absurd hj (by omega)
/-- No name of an item has a mark. -/
def Unmarked (y : Im) : Prop := ∀ i, i < y.ms.length → it y.ms i = 0
/-- How many of the first k items have more than m names. -/
def cntW (m : Nat) (xs : List Im) : Nat → Nat
  | 0 => 0
  | k + 1 => if m < (it xs k).ns.length then cntW m xs k + 1 else cntW m xs k
theorem cntW_le (m : Nat) (xs : List Im) : ∀ k, cntW m xs k ≤ k
  | 0 => Nat.le_refl _
  | k + 1 => by
    have := cntW_le m xs k
    unfold cntW
    by_cases h : m < (it xs k).ns.length
    · rw [if_pos h]; omega
    · rw [if_neg h]; omega
theorem cntW_yes {m : Nat} {xs : List Im} {k : Nat} (h : m < (it xs k).ns.length) : cntW m xs (k + 1) = cntW m xs k + 1 := if_pos h
theorem cntW_no {m : Nat} {xs : List Im} {k : Nat} (h : ¬ m < (it xs k).ns.length) : cntW m xs (k + 1) = cntW m xs k := if_neg h
/-- How often a name occurs among the first j names. -/
def timI (s : ByteArray) (ns : List ByteArray) : Nat → Nat
  | 0 => 0
  | j + 1 => if it ns j = s then timI s ns j + 1 else timI s ns j
theorem timI_le (s : ByteArray) (ns : List ByteArray) : ∀ j, timI s ns j ≤ j
  | 0 => Nat.le_refl _
  | j + 1 => by
    have := timI_le s ns j
    unfold timI
    by_cases h : it ns j = s
    · rw [if_pos h]; omega
    · rw [if_neg h]; omega
theorem timI_yes {s : ByteArray} {ns : List ByteArray} {j : Nat} (h : it ns j = s) : timI s ns (j + 1) = timI s ns j + 1 := if_pos h
theorem timI_no {s : ByteArray} {ns : List ByteArray} {j : Nat} (h : ¬ it ns j = s) : timI s ns (j + 1) = timI s ns j := if_neg h
/-- How often a name occurs in an item that is combined. -/
def comI (s : ByteArray) (ns : List ByteArray) (j : Nat) : Nat := if 1 < ns.length then timI s ns j else 0
theorem comI_yes {s : ByteArray} {ns : List ByteArray} (h : 1 < ns.length) (j : Nat) : comI s ns j = timI s ns j := if_pos h
theorem comI_no {s : ByteArray} {ns : List ByteArray} (h : ¬ 1 < ns.length) (j : Nat) : comI s ns j = 0 := if_neg h
theorem comI_le (s : ByteArray) (ns : List ByteArray) (j : Nat) : comI s ns j ≤ j := by
  by_cases h : 1 < ns.length
  · rw [comI_yes h]; exact timI_le s ns j
  · rw [comI_no h]; omega
/-- How often a name occurs in the first k items, and in combined ones of them. -/
def timN (s : ByteArray) (xs : List Im) : Nat → Nat
  | 0 => 0
  | k + 1 => timN s xs k + timI s (it xs k).ns (it xs k).ns.length
def comN (s : ByteArray) (xs : List Im) : Nat → Nat
  | 0 => 0
  | k + 1 => comN s xs k + comI s (it xs k).ns (it xs k).ns.length
theorem timN_le {xs : List Im} (hok : ListOk xs) (s : ByteArray) : ∀ k, k ≤ xs.length → timN s xs k ≤ 3 * k ∧ comN s xs k ≤ 3 * k
  | 0, _ => by simp [timN, comN]
  | k + 1, hk => by
    have h1 := timN_le hok s k (by omega)
    have h2 := (hok.each k (by omega)).hi
    have h3 := timI_le s (it xs k).ns (it xs k).ns.length
    have h4 := comI_le s (it xs k).ns (it xs k).ns.length
    simp only [timN, comN]
    omega
/-- A name is known; it is a jump, or alone; it is repeated as it may be. -/
def Known (x : Cd) (n : ByteArray) : Prop := 0 ≤ fndI x.els n
def Jump (x : Cd) (ns : List ByteArray) (n : ByteArray) : Prop := ns.length = 1 ∨ famI x n = 0
def Seldom (x : Cd) (xs : List Im) (n : ByteArray) : Prop := (timN n xs xs.length : Int) ≤ x.rep ∧ (timN n xs xs.length = 1 ∨ 0 < comN n xs xs.length)
/-- The names of all items keep a rule. -/
def AllNames (xs : List Im) (Q : List ByteArray → ByteArray → Prop) : Prop := ∀ i, i < xs.length → ∀ j, j < (it xs i).ns.length → Q (it xs i).ns (it (it xs i).ns j)
/-- The rule k holds. -/
def RuleP (x : Cd) (xs : List Im) : Nat → Prop
  | 1 => 0 < xs.length
  | 2 => AllNames xs (fun _ n => Known x n)
  | 3 => ∀ i, i < xs.length → Unmarked (it xs i)
  | 4 => AllNames xs (Jump x)
  | 5 => cntW 1 xs xs.length ≤ 3 ∧ cntW 2 xs xs.length ≤ 1
  | 6 => ∀ f, f < 5 → it (cntG x xs xs.length) f ≤ it x.lims f
  | 7 => AllNames xs (fun _ n => Seldom x xs n)
  | _ => ∀ i, i < xs.length → (it xs i).late = decide (xs.length ≤ 2 * i)

theorem l1All_zero (A : Option Addr) (c : Nat) (xs : List Int) (w : World) (hr : Lst w w.heap.size A xs) (hl : xs.length ≤ 1048576) :
    Calls Tryz.prog 70 #[.slice A xs.length c, .int .i64 0, .int .i64 0] w fun e w' => e = .returned (.bool (pB (∀ i, i < xs.length → it xs i = 0))) ∧ w = w' := by
  have HR := Lib.hid hr
  clear hr
  go_enter Tryz.func70, Tryz.ntmps70
  go_wp2
  go_loop [11] (fun i => ∃ k : Nat, k ≤ xs.length ∧ i = .int .i64 k ∧ Hid (∀ j, j < k → it xs j = 0)) (fun i => xs.length - (intOf i).toNat)
  case atStart => exact ⟨0, Nat.zero_le _, rfl, Lib.hid all_zero⟩
  case round =>
    obtain ⟨k, hk, rfl, HI⟩ := hrel
    by_cases hlt : k < xs.length
    · obtain ⟨b, o, rfl, hbl, hc⟩ := HR.out.int (by omega)
      have hck := hc k hlt
      clear hc
      by_cases h : it xs k = 0
      · have HZ := Lib.hid h
        have h1 : 0 ≤ it xs k := by omega
        have h2 : it xs k ≤ 0 := by omega
        clear h
        go_wp2_with (go_at_call 36; refine (l1In_yes _ _ _ _ h1 h2).mono ?_; rintro e w2 ⟨rfl, rfl⟩)
        go_round
        case rel => exact ⟨k + 1, by omega, by go_num, Lib.hid (all_next HI.out HZ.out)⟩
        case measure => simp [intOf]; omega
      · have HV := Lib.hid (pB_no (fun hh : ∀ i, i < xs.length → it xs i = 0 => h (hh k hlt)))
        go_wp2_with (go_at_call 36; refine (l1In_no _ _ _ _ (by omega)).mono ?_; rintro e w2 ⟨rfl, rfl⟩)
        go_ret
        exact ⟨by rw [HV.out]; rfl, rfl⟩
    · obtain rfl : k = xs.length := by omega
      have HV := Lib.hid (pB_yes HI.out)
      go_wp2
      go_ret
      exact ⟨by rw [HV.out]; rfl, rfl⟩
theorem pgClean_any (P : Option Addr) (c : Nat) (xs : List Im) (w : World) (hr : Ims w w.heap.size P xs) (hl : ImsFits xs) :
    Calls Tryz.prog 109 #[.slice P xs.length c] w fun e w' => e = .returned (.bool (pB (∀ i, i < xs.length → Unmarked (it xs i)))) ∧ Below w.heap.size w w' := by
  have HR := Lib.hid hr
  have HF := Lib.hid hl.each
  have hl' := hl.len
  clear hr hl
  go_enter Tryz.func109, Tryz.ntmps109
  go_wp2
  go_loopw [7] (fun i wr => ∃ k : Nat, k ≤ xs.length ∧ i = .int .i64 k ∧ Hid (∀ j, j < k → Unmarked (it xs j)) ∧ Below w.heap.size w wr) (fun i _ => xs.length - (intOf i).toNat)
  case atStart => exact ⟨0, Nat.zero_le _, rfl, Lib.hid all_zero, Below.refl _ _⟩
  case round =>
    obtain ⟨k, hk, rfl, HI, hb⟩ := hrel
    by_cases hlt : k < xs.length
    · obtain ⟨b, o, rfl, hbl, hc⟩ := HR.out.out.im (by omega)
      obtain ⟨c0, c1, c2⟩ := (hc k hlt).below hb hbl
      have HE := Lib.hid ((HR.out.each k hlt).next hb)
      have HL := Lib.hid (HF.out k hlt)
      have HB := Lib.hid hb
      have HC := Lib.hid (l1All_zero (it xs k).L (it xs k).d (it xs k).ms)
      clear hc hb
      by_cases hok : Unmarked (it xs k)
      · rw [show pB (∀ i, i < (it xs k).ms.length → it (it xs k).ms i = 0) = true from pB_yes hok] at HC
        have HO := Lib.hid hok
        clear hok
        go_wp2_with (go_at_call 70; refine (HC.out _ (HE.out.next (below_alloc _ _)).ms HL.out.ms).mono ?_; rintro e w2 ⟨rfl, rfl⟩)
        go_roundw
        case rel => exact ⟨k + 1, by omega, by go_num, Lib.hid (all_next HI.out HO.out), below_next HB.out (below_alloc _ _)⟩
        case measure => simp [intOf]; omega
      · rw [show pB (∀ i, i < (it xs k).ms.length → it (it xs k).ms i = 0) = false from pB_no hok] at HC
        have HV := Lib.hid (pB_no (fun hh : ∀ i, i < xs.length → Unmarked (it xs i) => hok (hh k hlt)))
        clear hok
        go_wp2_with (go_at_call 70; refine (HC.out _ (HE.out.next (below_alloc _ _)).ms HL.out.ms).mono ?_; rintro e w2 ⟨rfl, rfl⟩)
        go_ret
        exact ⟨by rw [HV.out]; rfl, below_next HB.out (below_alloc _ _)⟩
    · obtain rfl : k = xs.length := by omega
      have HV := Lib.hid (pB_yes HI.out)
      go_wp2
      go_ret
      exact ⟨by rw [HV.out]; rfl, hb⟩
theorem pgHalf_any (P : Option Addr) (c : Nat) (xs : List Im) (w : World) (hr : Ims w w.heap.size P xs) (hl : ImsFits xs) :
    Calls Tryz.prog 112 #[.slice P xs.length c] w fun e w' => e = .returned (.bool (pB (∀ i, i < xs.length → (it xs i).late = decide (xs.length ≤ 2 * i)))) ∧ Below w.heap.size w w' := by
  have HR := Lib.hid hr
  have hl' := hl.len
  clear hr hl
  go_enter Tryz.func112, Tryz.ntmps112
  go_wp2
  go_loopw [7] (fun i wr => ∃ k : Nat, k ≤ xs.length ∧ i = .int .i64 k ∧ Hid (∀ j, j < k → (it xs j).late = decide (xs.length ≤ 2 * j)) ∧ Below w.heap.size w wr) (fun i _ => xs.length - (intOf i).toNat)
  case atStart => exact ⟨0, Nat.zero_le _, rfl, Lib.hid all_zero, Below.refl _ _⟩
  case round =>
    obtain ⟨k, hk, rfl, HI, hb⟩ := hrel
    by_cases hlt : k < xs.length
    · obtain ⟨b, o, rfl, hbl, hc⟩ := HR.out.out.im (by omega)
      obtain ⟨c0, c1, c2⟩ := (hc k hlt).below hb hbl
      have HB := Lib.hid hb
      clear hc hb
      have HQ := Lib.hid (fun hh : (∀ i, i < xs.length → (it xs i).late = decide (xs.length ≤ 2 * i)) => hh k hlt)
      have HN := Lib.hid (fun h : (it xs k).late = decide (xs.length ≤ 2 * k) => all_next (Q := fun j => (it xs j).late = decide (xs.length ≤ 2 * j)) HI.out h)
      by_cases hh : xs.length ≤ 2 * k
      · have h1 : (xs.length : Int) ≤ 2 * (k : Int) := by omega
        cases hla : (it xs k).late
        · have HV := Lib.hid (pB_no (fun q => by have := HQ.out q; rw [hla] at this; simp [hh] at this))
          rw [hla] at c2
          clear hla
          go_wp2
          go_ret
          exact ⟨by rw [HV.out]; rfl, below_next HB.out (below_alloc _ _)⟩
        · have HW := Lib.hid (HN.out (by rw [hla]; simp [hh]))
          rw [hla] at c2
          clear hla
          go_wp2
          go_roundw
          case rel => exact ⟨k + 1, by omega, by go_num, HW, below_next HB.out (below_alloc _ _)⟩
          case measure => simp [intOf]; omega
      · have h1 : 2 * (k : Int) < (xs.length : Int) := by omega
        cases hla : (it xs k).late
        · have HW := Lib.hid (HN.out (by rw [hla]; simp; omega))
          rw [hla] at c2
          clear hla
          go_wp2
          go_roundw
          case rel => exact ⟨k + 1, by omega, by go_num, HW, below_next HB.out (below_alloc _ _)⟩
          case measure => simp [intOf]; omega
        · have HV := Lib.hid (pB_no (fun q => by have := HQ.out q; rw [hla] at this; simp at this; omega))
          have h3 : (!decide ((xs.length : Int) ≤ 2 * (k : Int))) = true := by simp; omega
          rw [hla] at c2
          clear hla
          go_wp2
          go_ret
          exact ⟨by rw [HV.out]; rfl, below_next HB.out (below_alloc _ _)⟩
    · obtain rfl : k = xs.length := by omega
      have HV := Lib.hid (pB_yes HI.out)
      go_wp2
      go_ret
      exact ⟨by rw [HV.out]; rfl, hb⟩
theorem pgCombined_any (P : Option Addr) (c : Nat) (xs : List Im) (w : World) (hr : Ims w w.heap.size P xs) (h14 : xs.length ≤ 14) :
    Calls Tryz.prog 110 #[.slice P xs.length c] w fun e w' => e = .returned (.tuple #[.int .i64 (cntW 1 xs xs.length : Nat), .int .i64 (cntW 2 xs xs.length : Nat)]) ∧ Below w.heap.size w w' := by
  have HR := Lib.hid hr
  clear hr
  go_enter Tryz.func110, Tryz.ntmps110
  go_wp2
  go_loopw [4, 5, 10] (fun p q i wr => ∃ k : Nat, k ≤ xs.length ∧ i = .int .i64 k ∧ p = .int .i64 (cntW 1 xs k : Nat) ∧ q = .int .i64 (cntW 2 xs k : Nat) ∧ Below w.heap.size w wr) (fun _ _ i _ => xs.length - (intOf i).toNat)
  case atStart => exact ⟨0, Nat.zero_le _, rfl, rfl, rfl, Below.refl _ _⟩
  case round =>
    obtain ⟨k, hk, rfl, rfl, rfl, hb⟩ := hrel
    by_cases hlt : k < xs.length
    · obtain ⟨b, o, rfl, hbl, hc⟩ := HR.out.out.im (by omega)
      obtain ⟨c0, c1, c2⟩ := (hc k hlt).below hb hbl
      have HB := Lib.hid hb
      clear hc hb
      have hw1 := cntW_le 1 xs k
      have hw2 := cntW_le 2 xs k
      by_cases h1 : 1 < (it xs k).ns.length
      · have HV1 := Lib.hid (cntW_yes h1)
        by_cases h2 : 2 < (it xs k).ns.length
        · have HV2 := Lib.hid (cntW_yes h2)
          go_wp2
          go_roundw
          case rel => exact ⟨k + 1, by omega, by go_num, by rw [HV1.out]; go_num, by rw [HV2.out]; go_num, below_next HB.out (below_alloc _ _)⟩
          case measure => simp [intOf]; omega
        · have HV2 := Lib.hid (cntW_no h2)
          go_wp2
          go_roundw
          case rel => exact ⟨k + 1, by omega, by go_num, by rw [HV1.out]; go_num, by rw [HV2.out], below_next HB.out (below_alloc _ _)⟩
          case measure => simp [intOf]; omega
      · have HV1 := Lib.hid (cntW_no h1)
        have h2 : ¬ 2 < (it xs k).ns.length := by omega
        have HV2 := Lib.hid (cntW_no h2)
        go_wp2
        go_roundw
        case rel => exact ⟨k + 1, by omega, by go_num, by rw [HV1.out], by rw [HV2.out], below_next HB.out (below_alloc _ _)⟩
        case measure => simp [intOf]; omega
    · obtain rfl : k = xs.length := by omega
      go_wp2
      go_ret2
      exact ⟨rfl, hb⟩
end Go.Proofs.YtnlcdfaojcnkpaaGreatDoor

namespace Go.Proofs.YtnlcdfaojcnkpaaGreatDoor
open Go.ChangeShapes Go.WideShapes Go.ChangeAt Go.RowKit
set_option linter.unusedVariables false

set_option maxHeartbeats 1000000 in
theorem pgTimes_any (P : Option Addr) (c : Nat) (xs : List Im) (s : ByteArray) (w : World) (hr : Ims w w.heap.size P xs) (hok : ListOk xs) :
    Calls Tryz.prog 161 #[.slice P xs.length c, .string s] w fun e w' => e = .returned (.tuple #[.int .i64 (timN s xs xs.length : Nat), .int .i64 (comN s xs xs.length : Nat)]) ∧ Below w.heap.size w w' := by
  have HR := Lib.hid hr
  have HK := Lib.hid hok
  have HT := Lib.hid (timN_le hok s)
  have h14 := hok.len
  clear hr hok
  go_enter Tryz.func161, Tryz.ntmps161
  go_wp2
  go_loopw [6, 7, 14] (fun p q i wr => ∃ k : Nat, k ≤ xs.length ∧ i = .int .i64 k ∧ p = .int .i64 (timN s xs k : Nat) ∧ q = .int .i64 (comN s xs k : Nat) ∧ Below w.heap.size w wr) (fun _ _ i _ => xs.length - (intOf i).toNat)
  case atStart => exact ⟨0, Nat.zero_le _, rfl, rfl, rfl, Below.refl _ _⟩
  case round =>
    obtain ⟨k, hk, rfl, rfl, rfl, hb⟩ := hrel
    obtain ⟨t1, t2⟩ := HT.out k hk
    by_cases hlt : k < xs.length
    · obtain ⟨b, o, rfl, hbl, hc⟩ := HR.out.out.im (by omega)
      obtain ⟨c0, c1, c2⟩ := (hc k hlt).below hb hbl
      have hn1 := (HK.out.each k hlt).lo
      have hn3 := (HK.out.each k hlt).hi
      obtain ⟨b', o', hA', hbl', hc'⟩ := (HR.out.each k hlt).ns.str hn1
      rw [hA'] at c0
      have HM := Lib.hid (fun j hj => ((below_next hb (below_alloc _ (.cells #[.slice (some ⟨b', o', none⟩) (it xs k).ns.length (it xs k).c, .slice (it xs k).L (it xs k).ms.length (it xs k).d, .bool (it xs k).late] 41))).cell (p := ⟨b', o' + j, none⟩) hbl').trans (hc' j hj))
      have HB := Lib.hid hb
      have HA := Lib.hid hA'
      clear hc hb hc' hA'
      by_cases hcm : 1 < (it xs k).ns.length
      · have HCM := Lib.hid (fun j => comI_yes (s := s) hcm j)
        go_wp2_with fail
        go_loop [6, 7, 21] (fun p q i => ∃ j : Nat, j ≤ (it xs k).ns.length ∧ i = .int .i64 j ∧ p = .int .i64 (timN s xs k + timI s (it xs k).ns j : Nat) ∧ q = .int .i64 (comN s xs k + timI s (it xs k).ns j : Nat)) (fun _ _ i => (it xs k).ns.length - (intOf i).toNat)
        case atStart => exact ⟨0, Nat.zero_le _, rfl, rfl, rfl⟩
        case round =>
          obtain ⟨j, hj, rfl, rfl, rfl⟩ := hrel
          have hj3 := timI_le s (it xs k).ns j
          by_cases hjl : j < (it xs k).ns.length
          · have hv := HM.out j hjl
            by_cases e : it (it xs k).ns j = s
            · have HE := Lib.hid (timI_yes e)
              have h := str_eq e
              clear e
              go_wp2
              go_round
              case rel => exact ⟨j + 1, by omega, by go_num, by rw [HE.out]; go_num, by rw [HE.out]; go_num⟩
              case measure => simp [intOf]; omega
            · have HE := Lib.hid (timI_no e)
              have h := str_ne e
              clear e
              go_wp2
              go_round
              case rel => exact ⟨j + 1, by omega, by go_num, by rw [HE.out], by rw [HE.out]⟩
              case measure => simp [intOf]; omega
          · obtain rfl : j = (it xs k).ns.length := by omega
            have HC := Lib.hid (HCM.out (it xs k).ns.length)
            go_wp2
            go_roundw
            case rel => exact ⟨k + 1, by omega, by go_num, rfl, by rw [comN, HC.out], below_next HB.out (below_alloc _ _)⟩
            case measure => simp [intOf]; omega
      · have HCM := Lib.hid (fun j => comI_no (s := s) hcm j)
        go_wp2_with fail
        go_loop [6, 7, 21] (fun p q i => ∃ j : Nat, j ≤ (it xs k).ns.length ∧ i = .int .i64 j ∧ p = .int .i64 (timN s xs k + timI s (it xs k).ns j : Nat) ∧ q = .int .i64 (comN s xs k : Nat)) (fun _ _ i => (it xs k).ns.length - (intOf i).toNat)
        case atStart => exact ⟨0, Nat.zero_le _, rfl, rfl, rfl⟩
        case round =>
          obtain ⟨j, hj, rfl, rfl, rfl⟩ := hrel
          have hj3 := timI_le s (it xs k).ns j
          by_cases hjl : j < (it xs k).ns.length
          · have hv := HM.out j hjl
            by_cases e : it (it xs k).ns j = s
            · have HE := Lib.hid (timI_yes e)
              have h := str_eq e
              clear e
              go_wp2
              go_round
              case rel => exact ⟨j + 1, by omega, by go_num, by rw [HE.out]; go_num, rfl⟩
              case measure => simp [intOf]; omega
            · have HE := Lib.hid (timI_no e)
              have h := str_ne e
              clear e
              go_wp2
              go_round
              case rel => exact ⟨j + 1, by omega, by go_num, by rw [HE.out], rfl⟩
              case measure => simp [intOf]; omega
          · obtain rfl : j = (it xs k).ns.length := by omega
            have HC := Lib.hid (HCM.out (it xs k).ns.length)
            go_wp2
            go_roundw
            case rel => exact ⟨k + 1, by omega, by go_num, rfl, by rw [comN, HC.out]; rfl, below_next HB.out (below_alloc _ _)⟩
            case measure => simp [intOf]; omega
    · obtain rfl : k = xs.length := by omega
      go_wp2
      go_ret2
      exact ⟨rfl, hb⟩

set_option maxHeartbeats 1000000 in
theorem pgName_2 (A L : Option Addr) (c d : Nat) (x : Cd) (P : Option Addr) (n1 c1 : Nat) (y : Im) (n : ByteArray) (w : World) (hr : CdAt w A L x) (hl : CdFits x) :
    Calls Tryz.prog 141 #[x.val A c L d, .slice P n1 c1, y.val, .string n, .int .i64 2] w fun e w' => e = .returned (.bool (pB (Known x n))) ∧ Below w.heap.size w w' := by
  obtain ⟨V, W, hV, hW, hb, hX, hY, hs⟩ := boxed2 38 41 w A c L d x y
  have HB := Lib.hid hb
  have HH := Lib.hid (fun (w' : World) (k : Below W.heap.size W w') => two_boxes hX hY k)
  have HR := Lib.hid (hr.below hb)
  have HL := Lib.hid hl
  have HF := Lib.hid (fndI_first x.els n)
  clear hr hl hb hX hY hs
  unfold boxCd at hV
  unfold boxIm at hW
  unfold Cd.val Im.val
  go_enter Tryz.func141, Tryz.ntmps141
  go_wp2_with fail
  rw [← hV, ← hW]
  clear hV hW
  refine (cdFind_any A L c d x n _ W HR.out HL.out HF.out).mono ?_
  rintro e w1 ⟨rfl, hb1⟩
  have HB1 := Lib.hid (Below_next HB.out hb1)
  clear hb1
  by_cases h : 0 ≤ fndI x.els n
  · have HV := Lib.hid (pB_yes (show Known x n from h))
    go_wp2
    go_ret
    exact ⟨by rw [HV.out]; first | rfl | (simp; omega), HB1.out⟩
  · have HV := Lib.hid (pB_no (show ¬ Known x n from h))
    have h2 : fndI x.els n < 0 := by omega
    go_wp2
    go_ret
    exact ⟨by rw [HV.out]; first | rfl | (simp; omega), HB1.out⟩

set_option maxHeartbeats 1000000 in
theorem pgName_4 (A L : Option Addr) (c d : Nat) (x : Cd) (P : Option Addr) (n1 c1 : Nat) (y : Im) (n : ByteArray) (w : World) (hr : CdAt w A L x) (hl : CdFits x) (hn : y.ns.length ≤ 3) :
    Calls Tryz.prog 141 #[x.val A c L d, .slice P n1 c1, y.val, .string n, .int .i64 4] w fun e w' => e = .returned (.bool (pB (Jump x y.ns n))) ∧ Below w.heap.size w w' := by
  obtain ⟨V, W, hV, hW, hb, hX, hY, hs⟩ := boxed2 38 41 w A c L d x y
  have HB := Lib.hid hb
  have HH := Lib.hid (fun (w' : World) (k : Below W.heap.size W w') => two_boxes hX hY k)
  have HR := Lib.hid (hr.below hb)
  have HL := Lib.hid hl
  have HF := Lib.hid (fndI_first x.els n)
  have HC := Lib.hid (fndI_cases x.els n)
  clear hr hl hb hX hY hs
  unfold boxCd at hV
  unfold boxIm at hW
  unfold Cd.val Im.val
  go_enter Tryz.func141, Tryz.ntmps141
  go_wp2_with fail
  rw [← hV, ← hW]
  clear hV hW
  refine (cdFind_any A L c d x n _ W HR.out HL.out HF.out).mono ?_
  rintro e w1 ⟨rfl, hb1⟩
  have HB1 := Lib.hid (Below_next HB.out hb1)
  have HR1 := Lib.hid (HR.out.below hb1)
  obtain ⟨x0, x1, x2, x3, x4, x5, y0, y1, y2⟩ := HH.out _ hb1
  clear hb1
  by_cases h1 : y.ns.length = 1
  · have HV := Lib.hid (pB_yes (show Jump x y.ns n from .inl h1))
    rw [h1] at y0
    clear h1 hn
    go_wp2
    go_ret
    exact ⟨by rw [HV.out]; first | rfl | (simp; omega), HB1.out⟩
  · have h2 : ((y.ns.length : Int) == 1) = false := by simp; omega
    have H1 := Lib.hid h1
    clear h1
    rcases HC.out with h | ⟨k, g1, g2, g3⟩
    · have HV := Lib.hid (pB_no (show ¬ Jump x y.ns n from fun q => q.elim H1.out (fun q => by rw [famI_no (by omega)] at q; omega)))
      rw [h]
      clear h
      go_wp2
      go_ret
      exact ⟨by rw [HV.out]; first | rfl | (simp; omega), HB1.out⟩
    · have HE := Lib.hid (famI_hit g1)
      rw [g1]
      obtain ⟨e, o', rfl, hel, hc⟩ := el1 HR1.out.els k g2
      obtain ⟨z0, z1, z2, z3⟩ := hc
      have hkl := HL.out.1.1
      have k1 : (0 : Int) ≤ (k : Int) := by omega
      have k2 : (k : Int) < (x.els.length : Int) := by omega
      clear g1 hel g3
      by_cases hf : (it x.els k).fam = 0
      · have HV := Lib.hid (pB_yes (show Jump x y.ns n from .inr (by rw [HE.out]; exact hf)))
        rw [hf] at z1
        clear hf
        go_wp2
        go_ret
        exact ⟨by rw [HV.out]; first | rfl | (simp; omega), HB1.out⟩
      · have HV := Lib.hid (pB_no (show ¬ Jump x y.ns n from fun q => q.elim H1.out (fun q => hf (by rw [← HE.out]; exact q))))
        have hf' : ((it x.els k).fam == 0) = false := by simp; exact hf
        clear hf
        go_wp2
        go_ret
        exact ⟨by rw [HV.out]; first | rfl | (simp; omega), HB1.out⟩

set_option maxHeartbeats 1000000 in
theorem pgName_7 (A L : Option Addr) (c d : Nat) (x : Cd) (P : Option Addr) (c1 : Nat) (xs : List Im) (y : Im) (n : ByteArray) (w : World) (hr : CdAt w A L x) (hl : CdFits x) (hp : Ims w w.heap.size P xs) (hok : ListOk xs) :
    Calls Tryz.prog 141 #[x.val A c L d, .slice P xs.length c1, y.val, .string n, .int .i64 7] w fun e w' => e = .returned (.bool (pB (Seldom x xs n))) ∧ Below w.heap.size w w' := by
  obtain ⟨V, W, hV, hW, hb, hX, hY, hs⟩ := boxed2 38 41 w A c L d x y
  have HB := Lib.hid hb
  have HH := Lib.hid (fun (w' : World) (k : Below W.heap.size W w') => two_boxes hX hY k)
  have HR := Lib.hid (hr.below hb)
  have HP := Lib.hid (hp.next hb)
  have HL := Lib.hid hl
  have HK := Lib.hid hok
  have HF := Lib.hid (fndI_first x.els n)
  have ht := timN_le hok n xs.length (Nat.le_refl _)
  obtain ⟨ht1, ht2⟩ := ht
  have h14 := hok.len
  clear hr hl hb hX hY hs hp hok
  unfold boxCd at hV
  unfold boxIm at hW
  unfold Cd.val Im.val
  go_enter Tryz.func141, Tryz.ntmps141
  go_wp2_with fail
  rw [← hV, ← hW]
  clear hV hW
  refine (cdFind_any A L c d x n _ W HR.out HL.out HF.out).mono ?_
  rintro e w1 ⟨rfl, hb1⟩
  have HB1 := Lib.hid hb1
  clear hb1
  go_wp2_with fail
  refine (pgTimes_any P c1 xs n w1 (HP.out.next HB1.out) HK.out).mono ?_
  rintro e w2 ⟨rfl, hb2⟩
  have HB2 := Lib.hid (Below_next HB1.out hb2)
  obtain ⟨x0, x1, x2, x3, x4, x5, y0, y1, y2⟩ := HH.out _ HB2.out
  clear hb2
  have HS := Lib.hid (show Seldom x xs n ↔ (timN n xs xs.length : Int) ≤ x.rep ∧ (timN n xs xs.length = 1 ∨ 0 < comN n xs xs.length) from Iff.rfl)
  generalize timN n xs xs.length = a at HS ht1 ⊢
  generalize comN n xs xs.length = b at HS ht2 ⊢
  by_cases h1 : (a : Int) ≤ x.rep
  · by_cases h2 : a = 1
    · have HV := Lib.hid (pB_yes (HS.out.2 ⟨h1, .inl h2⟩))
      subst h2
      go_wp2
      go_ret
      exact ⟨by rw [HV.out]; first | rfl | (simp; omega), Below_next HB.out HB2.out⟩
    · have h2' : ((a : Int) == 1) = false := by simp; omega
      by_cases h3 : 0 < b
      · have HV := Lib.hid (pB_yes (HS.out.2 ⟨h1, .inr h3⟩))
        have h3' : (0 : Int) < (b : Int) := by omega
        go_wp2
        go_ret
        exact ⟨by rw [HV.out]; first | rfl | (simp; omega), Below_next HB.out HB2.out⟩
      · have HV := Lib.hid (pB_no (fun q => (HS.out.1 q).2.elim h2 h3))
        have h3' : ¬ (0 : Int) < (b : Int) := by omega
        go_wp2
        go_ret
        exact ⟨by rw [HV.out]; first | rfl | (simp; omega), Below_next HB.out HB2.out⟩
  · have HV := Lib.hid (pB_no (fun q => h1 (HS.out.1 q).1))
    have h1' : x.rep < (a : Int) := by omega
    go_wp2
    go_ret
    exact ⟨by rw [HV.out]; first | rfl | (simp; omega), Below_next HB.out HB2.out⟩

set_option maxHeartbeats 1000000 in
theorem pgNames_any (A L : Option Addr) (c d : Nat) (x : Cd) (P : Option Addr) (c1 : Nat) (xs : List Im) (r : Int) (Q : List ByteArray → ByteArray → Prop)
    (HN : ∀ (y : Im) (n : ByteArray) (w : World), y.ns.length ≤ 3 → CdAt w A L x → Ims w w.heap.size P xs → Calls Tryz.prog 141 #[x.val A c L d, .slice P xs.length c1, y.val, .string n, .int .i64 r] w fun e w' => e = .returned (.bool (pB (Q y.ns n))) ∧ Below w.heap.size w w')
    (w : World) (hr : CdAt w A L x) (hp : Ims w w.heap.size P xs) (hok : ListOk xs) :
    Calls Tryz.prog 113 #[x.val A c L d, .slice P xs.length c1, .int .i64 r] w fun e w' => e = .returned (.bool (pB (AllNames xs Q))) ∧ Below w.heap.size w w' := by
  obtain ⟨W, hW, hB⟩ := boxed 38 w A c L d x
  have HB := Lib.hid hB.below
  have HX := Lib.hid hB.at_
  have HR := Lib.hid (hr.below hB.below)
  have HP := Lib.hid (hp.next hB.below)
  have HK := Lib.hid hok
  have HNN := Lib.hid HN
  have h14 := hok.len
  clear hr hp hB hok HN
  unfold boxCd at hW
  unfold Cd.val
  go_enter Tryz.func113, Tryz.ntmps113
  go_wp2_with fail
  rw [← hW]
  clear hW
  go_loopw [13] (fun i wr => ∃ k : Nat, k ≤ xs.length ∧ i = .int .i64 k ∧ Hid (∀ i, i < k → ∀ j, j < (it xs i).ns.length → Q (it xs i).ns (it (it xs i).ns j)) ∧ Hid (Below W.heap.size W wr)) (fun i _ => xs.length - (intOf i).toNat)
  case atStart => exact ⟨0, Nat.zero_le _, rfl, Lib.hid all_zero, Lib.hid (Below.refl _ _)⟩
  case round =>
    obtain ⟨k, hk, rfl, HI, HBR⟩ := hrel
    by_cases hlt : k < xs.length
    · obtain ⟨b, o, rfl, hbl, hc⟩ := HP.out.out.im (by omega)
      obtain ⟨c0, c1, c2⟩ := (hc k hlt).below HBR.out hbl
      have hn1 := (HK.out.each k hlt).lo
      have hn3 := (HK.out.each k hlt).hi
      obtain ⟨b', o', hA', hbl', hc'⟩ := (HP.out.each k hlt).ns.str hn1
      rw [hA'] at c0
      have HM := Lib.hid hc'
      clear hc hc' hA'
      go_wp2_with fail
      clear c0 c1 c2
      generalize hw3 : World.alloc wr _ = w3
      have hb3 : Below wr.heap.size wr w3 := by
        rw [← hw3]
        exact below_alloc _ _
      have HB3 := Lib.hid (Below_next HBR.out hb3)
      have HY3 := Lib.hid (show ImBox w3 wr.heap.size ⟨some ⟨b', o', none⟩, (it xs k).c, (it xs k).L, (it xs k).d, (it xs k).ns, (it xs k).ms, (it xs k).late⟩ from by rw [← hw3]; exact imBox_new wr 41 ⟨some ⟨b', o', none⟩, (it xs k).c, (it xs k).L, (it xs k).d, (it xs k).ns, (it xs k).ms, (it xs k).late⟩)
      clear hw3 hb3
      go_loopw [20] (fun i ws => ∃ j : Nat, j ≤ (it xs k).ns.length ∧ i = .int .i64 j ∧ Hid (∀ i, i < j → Q (it xs k).ns (it (it xs k).ns i)) ∧ Hid (Below w3.heap.size w3 ws)) (fun i _ => (it xs k).ns.length - (intOf i).toNat)
      case atStart => exact ⟨0, Nat.zero_le _, rfl, Lib.hid all_zero, Lib.hid (Below.refl _ _)⟩
      case round =>
        obtain ⟨j, hj, rfl, HJ, HBS⟩ := hrel
        have HBW := Lib.hid (Below_next HB3.out HBS.out)
        by_cases hjl : j < (it xs k).ns.length
        · have hv := (HBW.out.cell (p := ⟨b', o' + j, none⟩) hbl').trans (HM.out j hjl)
          obtain ⟨x0, x1, x2, x3, x4, x5⟩ := (HX.out.next HBW.out).box
          obtain ⟨_, j0, j1, j2⟩ := HY3.out.next HBS.out
          have HC := Lib.hid (HNN.out ⟨some ⟨b', o', none⟩, (it xs k).c, (it xs k).L, (it xs k).d, (it xs k).ns, (it xs k).ms, (it xs k).late⟩ (it (it xs k).ns j) _ hn3 (HR.out.below HBW.out) (HP.out.next HBW.out))
          go_wp2_with fail
          clear x0 x1 x2 x3 x4 x5 j0 j1 j2 hv
          refine HC.out.mono ?_
          rintro e w4 ⟨he, hb4⟩
          have HB4 := Lib.hid (Below_next HBS.out hb4)
          clear hb4 HC
          by_cases hq : Q (it xs k).ns (it (it xs k).ns j)
          · rw [show pB (Q (it xs k).ns (it (it xs k).ns j)) = true from pB_yes hq] at he
            subst he
            have HQ := Lib.hid (all_next (Q := fun i => Q (it xs k).ns (it (it xs k).ns i)) HJ.out hq)
            clear hq
            go_wp2
            go_roundw
            case rel => exact ⟨j + 1, by omega, by go_num, HQ, HB4⟩
            case measure => simp [intOf]; omega
          · rw [show pB (Q (it xs k).ns (it (it xs k).ns j)) = false from pB_no hq] at he
            subst he
            have HV := Lib.hid (pB_no (fun hh : AllNames xs Q => hq (hh k hlt j hjl)))
            clear hq
            go_wp2
            go_ret
            exact ⟨by rw [HV.out]; rfl, Below_next HB.out (Below_next HB3.out HB4.out)⟩
        · obtain rfl : j = (it xs k).ns.length := by omega
          have HQ := Lib.hid (all_next (Q := fun i => ∀ j, j < (it xs i).ns.length → Q (it xs i).ns (it (it xs i).ns j)) HI.out HJ.out)
          go_wp2
          go_roundw
          case rel => exact ⟨k + 1, by omega, by go_num, HQ, HBW⟩
          case measure => simp [intOf]; omega
    · obtain rfl : k = xs.length := by omega
      have HV := Lib.hid (pB_yes (show AllNames xs Q from HI.out))
      go_wp2
      go_ret
      exact ⟨by rw [HV.out]; rfl, Below_next HB.out HBR.out⟩
end Go.Proofs.YtnlcdfaojcnkpaaGreatDoor

namespace Go.Proofs.YtnlcdfaojcnkpaaGreatDoor
open Go.ChangeShapes Go.WideShapes Go.ChangeAt Go.RowKit
set_option linter.unusedVariables false

set_option maxHeartbeats 1000000 in
theorem pgHolds_6 (A L : Option Addr) (c d : Nat) (x : Cd) (P : Option Addr) (c1 : Nat) (xs : List Im) (w : World) (hr : CdAt w A L x) (hl : CdFits x) (hp : Ims w w.heap.size P xs) (hq : ImsFits xs) (hk : PgAsk x xs) :
    Calls Tryz.prog 89 #[x.val A c L d, .slice P xs.length c1, .int .i64 6] w fun e w' => e = .returned (.bool (pB (RuleP x xs 6))) ∧ Below w.heap.size w w' := by
  obtain ⟨W, hW, hB⟩ := boxed 38 w A c L d x
  have HB := Lib.hid hB.below
  have HX := Lib.hid hB.at_
  have HR := Lib.hid (hr.below hB.below)
  have HP := Lib.hid (hp.next hB.below)
  have HL := Lib.hid hl
  have HQ := Lib.hid hq
  have HK := Lib.hid hk
  have HL5 := Lib.hid hk.cd.lims.len
  clear hr hl hp hq hB hk
  unfold boxCd at hW
  unfold Cd.val
  go_enter Tryz.func89, Tryz.ntmps89
  obtain ⟨x0, x1, x2, x3, x4, x5⟩ := HX.out.box
  rw [hW] at x0 x1 x2 x3 x4 x5
  go_wp2_with fail
  rw [← hW]
  clear hW x0 x1 x2 x3 x4 x5
  refine (pgCounts_any A L c d x P c1 xs W HR.out HL.out HP.out HQ.out HK.out).mono ?_
  rintro e w2 ⟨⟨g, rfl, h1, h2, h3⟩, hb2⟩
  have HB2 := Lib.hid hb2
  have HO := Lib.hid h3
  have hc5 := cntG_len x xs xs.length
  have HE := Lib.hid (show RuleP x xs 6 ↔ ∀ f, f < 5 → it (cntG x xs xs.length) f ≤ it x.lims f from Iff.rfl)
  generalize cntG x xs xs.length = cs at HO HE hc5
  clear hb2 h3 h1 h2
  go_wp2_with fail
  go_loop [40] (fun i => ∃ k : Nat, k ≤ 5 ∧ i = .int .i64 k ∧ Hid (∀ f, f < k → it cs f ≤ it x.lims f)) (fun i => 5 - (intOf i).toNat)
  case atStart => exact ⟨0, Nat.zero_le _, rfl, Lib.hid all_zero⟩
  case round =>
    obtain ⟨k, hk, rfl, HI⟩ := hrel
    by_cases hlt : k < 5
    · have hl5 := HL5.out
      obtain ⟨d0, f0⟩ := HO.out.int0 k (by omega)
      obtain ⟨b, o, rfl, hbl, hc⟩ := (HR.out.below HB2.out).lims.int (by omega)
      have m0 := hc k (by omega)
      obtain ⟨x0, x1, x2, x3, x4, x5⟩ := (HX.out.next HB2.out).box
      rw [hl5] at x1
      clear hc hl5
      by_cases h : it cs k ≤ it x.lims k
      · have HN := Lib.hid (all_next (Q := fun f => it cs f ≤ it x.lims f) HI.out h)
        go_wp2
        go_round
        case rel => exact ⟨k + 1, by omega, by go_num, HN⟩
        case measure => simp [intOf]; omega
      · have HV := Lib.hid (pB_no (fun q => h (HE.out.1 q k hlt)))
        have h' : it x.lims k < it cs k := by omega
        go_wp2
        go_ret
        exact ⟨by rw [HV.out]; rfl, Below_next HB.out HB2.out⟩
    · obtain rfl : k = 5 := by omega
      have HV := Lib.hid (pB_yes (HE.out.2 HI.out))
      go_wp2
      go_ret
      exact ⟨by rw [HV.out]; rfl, Below_next HB.out HB2.out⟩

set_option maxHeartbeats 1000000 in
theorem pgHolds_5 (A L : Option Addr) (c d : Nat) (x : Cd) (P : Option Addr) (c1 : Nat) (xs : List Im) (w : World) (hr : CdAt w A L x) (hl : CdFits x) (hp : Ims w w.heap.size P xs) (hq : ImsFits xs) (hk : PgAsk x xs) :
    Calls Tryz.prog 89 #[x.val A c L d, .slice P xs.length c1, .int .i64 5] w fun e w' => e = .returned (.bool (pB (RuleP x xs 5))) ∧ Below w.heap.size w w' := by
  obtain ⟨W, hW, hB⟩ := boxed 38 w A c L d x
  have HB := Lib.hid hB.below
  have HP := Lib.hid (hp.next hB.below)
  have h14 := hk.ls.len
  have hw1 := cntW_le 1 xs xs.length
  have hw2 := cntW_le 2 xs xs.length
  have HE := Lib.hid (show RuleP x xs 5 ↔ cntW 1 xs xs.length ≤ 3 ∧ cntW 2 xs xs.length ≤ 1 from Iff.rfl)
  clear hr hl hp hq hB hk
  unfold boxCd at hW
  unfold Cd.val
  go_enter Tryz.func89, Tryz.ntmps89
  go_wp2_with fail
  rw [← hW]
  clear hW
  refine (pgCombined_any P c1 xs W HP.out h14).mono ?_
  rintro e w2 ⟨rfl, hb2⟩
  have HB2 := Lib.hid hb2
  clear hb2
  generalize cntW 1 xs xs.length = a at HE hw1 ⊢
  generalize cntW 2 xs xs.length = b at HE hw2 ⊢
  by_cases h1 : a ≤ 3
  · by_cases h2 : b ≤ 1
    · have HV := Lib.hid (pB_yes (HE.out.2 ⟨h1, h2⟩))
      go_wp2
      go_ret
      exact ⟨by rw [HV.out]; first | rfl | (simp; omega), Below_next HB.out HB2.out⟩
    · have HV := Lib.hid (pB_no (fun q => h2 (HE.out.1 q).2))
      go_wp2
      go_ret
      exact ⟨by rw [HV.out]; first | rfl | (simp; omega), Below_next HB.out HB2.out⟩
  · have HV := Lib.hid (pB_no (fun q => h1 (HE.out.1 q).1))
    go_wp2
    go_ret
    exact ⟨by rw [HV.out]; first | rfl | (simp; omega), Below_next HB.out HB2.out⟩

set_option maxHeartbeats 2000000 in
theorem pgHolds_any (A L : Option Addr) (c d : Nat) (x : Cd) (P : Option Addr) (c1 : Nat) (xs : List Im) (k : Nat) (w : World) (hr : CdAt w A L x) (hl : CdFits x) (hp : Ims w w.heap.size P xs) (hq : ImsFits xs) (hk : PgAsk x xs) (h1 : 1 ≤ k) (h8 : k ≤ 8) :
    Calls Tryz.prog 89 #[x.val A c L d, .slice P xs.length c1, .int .i64 k] w fun e w' => e = .returned (.bool (pB (RuleP x xs k))) ∧ Below w.heap.size w w' := by
  by_cases h5 : k = 5
  · subst h5
    exact pgHolds_5 A L c d x P c1 xs w hr hl hp hq hk
  by_cases h6 : k = 6
  · subst h6
    exact pgHolds_6 A L c d x P c1 xs w hr hl hp hq hk
  obtain ⟨W, hW, hB⟩ := boxed 38 w A c L d x
  have HB := Lib.hid hB.below
  have HX := Lib.hid hB.at_
  have HR := Lib.hid (hr.below hB.below)
  have HP := Lib.hid (hp.next hB.below)
  have HL := Lib.hid hl
  have HQ := Lib.hid hq
  have HK := Lib.hid hk
  have h14 := hk.ls.len
  clear hr hl hp hq hB hk
  unfold boxCd at hW
  unfold Cd.val
  have hcase : k = 1 ∨ k = 2 ∨ k = 3 ∨ k = 4 ∨ k = 7 ∨ k = 8 := by omega
  clear h1 h8 h5 h6
  obtain ⟨x0, x1, x2, x3, x4, x5⟩ := HX.out.box
  rw [hW] at x0 x1 x2 x3 x4 x5
  rcases hcase with rfl | rfl | rfl | rfl | rfl | rfl
  · by_cases h : 0 < xs.length
    · have HV := Lib.hid (pB_yes (show RuleP x xs 1 from h))
      go_enter Tryz.func89, Tryz.ntmps89
      go_wp2
      rw [← hW]
      go_ret
      exact ⟨by rw [HV.out]; first | rfl | (simp; omega), HB.out⟩
    · have HV := Lib.hid (pB_no (show ¬ RuleP x xs 1 from h))
      go_enter Tryz.func89, Tryz.ntmps89
      go_wp2
      rw [← hW]
      go_ret
      exact ⟨by rw [HV.out]; first | rfl | (simp; omega), HB.out⟩
  · go_enter Tryz.func89, Tryz.ntmps89
    go_wp2_with fail
    rw [← hW]
    clear hW x0 x1 x2 x3 x4 x5
    refine (pgNames_any A L c d x P c1 xs 2 (fun _ n => Known x n) (fun y n w h3 hr hp => pgName_2 A L c d x P xs.length c1 y n w hr HL.out) W HR.out HP.out HK.out.ls).mono ?_
    rintro e w2 ⟨rfl, hb2⟩
    have HB2 := Lib.hid (Below_next HB.out hb2)
    clear hb2
    go_wp2
    go_ret
    exact ⟨rfl, HB2.out⟩
  · go_enter Tryz.func89, Tryz.ntmps89
    go_wp2_with fail
    rw [← hW]
    clear hW x0 x1 x2 x3 x4 x5
    refine (pgClean_any P c1 xs W HP.out HQ.out).mono ?_
    rintro e w2 ⟨rfl, hb2⟩
    have HB2 := Lib.hid (Below_next HB.out hb2)
    clear hb2
    go_wp2
    go_ret
    exact ⟨rfl, HB2.out⟩
  · go_enter Tryz.func89, Tryz.ntmps89
    go_wp2_with fail
    rw [← hW]
    clear hW x0 x1 x2 x3 x4 x5
    refine (pgNames_any A L c d x P c1 xs 4 (Jump x) (fun y n w h3 hr hp => pgName_4 A L c d x P xs.length c1 y n w hr HL.out h3) W HR.out HP.out HK.out.ls).mono ?_
    rintro e w2 ⟨rfl, hb2⟩
    have HB2 := Lib.hid (Below_next HB.out hb2)
    clear hb2
    go_wp2
    go_ret
    exact ⟨rfl, HB2.out⟩
  · go_enter Tryz.func89, Tryz.ntmps89
    go_wp2_with fail
    rw [← hW]
    clear hW x0 x1 x2 x3 x4 x5
    refine (pgNames_any A L c d x P c1 xs 7 (fun _ n => Seldom x xs n) (fun y n w h3 hr hp => pgName_7 A L c d x P c1 xs y n w hr HL.out hp HK.out.ls) W HR.out HP.out HK.out.ls).mono ?_
    rintro e w2 ⟨rfl, hb2⟩
    have HB2 := Lib.hid (Below_next HB.out hb2)
    clear hb2
    go_wp2
    go_ret
    exact ⟨rfl, HB2.out⟩
  · go_enter Tryz.func89, Tryz.ntmps89
    go_wp2_with fail
    rw [← hW]
    clear hW x0 x1 x2 x3 x4 x5
    refine (pgHalf_any P c1 xs W HP.out HQ.out).mono ?_
    rintro e w2 ⟨rfl, hb2⟩
    have HB2 := Lib.hid (Below_next HB.out hb2)
    clear hb2
    go_wp2
    go_ret
    exact ⟨rfl, HB2.out⟩
end Go.Proofs.YtnlcdfaojcnkpaaGreatDoor

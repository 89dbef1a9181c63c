/- Finding an element by its name, in the model and in the program. -/
import Derived.Test.YthpipapgjjfalaaDoorCdI
namespace Go.Proofs.YthpipapgjjfalaaDoor
open Go.ChangeShapes Go.WideShapes Go.ChangeAt Go.RowKit Go.PlainAid Go.Sort
set_option linter.unusedVariables false

theorem str_eq {a b : ByteArray} (h : a = b) : (a.toList == b.toList) = true := by rw [h]; simp
theorem str_ne {a b : ByteArray} (h : ¬ a = b) : (a.toList == b.toList) = false := by
  rw [Go.ByteArray.toList_eq, Go.ByteArray.toList_eq, beq_eq_false_iff_ne]
  exact fun e => h (ByteArray.ext (Array.ext' e))

/-- The first element with a name has the index r; r is -1 if there is none. -/
def First (xs : List El) (n : ByteArray) (r : Int) : Prop := (r = -1 ∧ ∀ i, i < xs.length → (it xs i).name ≠ n) ∨ (∃ i : Nat, r = i ∧ i < xs.length ∧ (it xs i).name = n ∧ ∀ j, j < i → (it xs j).name ≠ n)
theorem First.have (xs : List El) (n : ByteArray) : ∃ r, First xs n r := by
  have main : ∀ k, k ≤ xs.length → (∀ j, j < k → (it xs j).name ≠ n) ∨ ∃ i : Nat, i < xs.length ∧ (it xs i).name = n ∧ ∀ j, j < i → (it xs j).name ≠ n := by
    intro k
    induction k with
    | zero => exact fun _ => .inl (fun j hj => absurd hj (by omega))
    | succ k ih =>
      intro hk
      rcases ih (by omega) with h | h
      · by_cases e : (it xs k).name = n
        · exact .inr ⟨k, by omega, e, h⟩
        · exact .inl (fun j hj => by
            rcases Nat.lt_or_ge j k with h' | h'
            · exact h j h'
            · obtain rfl : j = k := by omega
              exact e)
      · exact .inr h
  rcases main xs.length (Nat.le_refl _) with h | ⟨i, h1, h2, h3⟩
  · exact ⟨-1, .inl ⟨rfl, h⟩⟩
  · exact ⟨i, .inr ⟨i, rfl, h1, h2, h3⟩⟩
theorem First.hit {xs : List El} {n : ByteArray} {r : Int} (h : First xs n r) (k : Nat) (hk : k < xs.length) (he : (it xs k).name = n) (hn : ∀ j, j < k → (it xs j).name ≠ n) : r = k := by
  rcases h with ⟨_, h⟩ | ⟨i, hr, h1, h2, h3⟩
  · exact absurd he (h k hk)
  · rcases Nat.lt_trichotomy i k with h' | h' | h'
    · exact absurd h2 (hn i h')
    · rw [hr, h']
    · exact absurd he (h3 k h')
theorem First.none {xs : List El} {n : ByteArray} {r : Int} (h : First xs n r) (hn : ∀ j, j < xs.length → (it xs j).name ≠ n) : r = -1 := by
  rcases h with ⟨hr, _⟩ | ⟨i, _, h1, h2, _⟩
  · exact hr
  · exact absurd h2 (hn i h1)
theorem First.bounds {xs : List El} {n : ByteArray} {r : Int} (h : First xs n r) : -1 ≤ r ∧ r < xs.length ∧ (0 ≤ r → ∃ i : Nat, r = i ∧ i < xs.length ∧ (it xs i).name = n) := by
  rcases h with ⟨hr, _⟩ | ⟨i, hr, h1, h2, _⟩
  · exact ⟨by omega, by omega, fun h => by omega⟩
  · exact ⟨by omega, by omega, fun _ => ⟨i, hr, h1, h2⟩⟩
theorem none_next {xs : List El} {n : ByteArray} {k : Nat} (h : ∀ j, j < k → (it xs j).name ≠ n) (e : (it xs k).name ≠ n) : ∀ j, j < k + 1 → (it xs j).name ≠ n := fun j hj => by
  rcases Nat.lt_or_ge j k with h' | h'
  · exact h j h'
  · obtain rfl : j = k := by omega
    exact e

theorem cdFind_any (A L : Option Addr) (c d : Nat) (x : Cd) (n : ByteArray) (r : Int) (w : World) (hr : CdAt w A L x) (hl : CdFits x) (hf : First x.els n r) :
    Calls Tryd.prog 74 #[x.val A c L d, .string n] w fun e w' => e = .returned (.int .i64 r) ∧ Below w.heap.size w w' := by
  obtain ⟨W, hW, hB⟩ := boxed 33 w A c L d x
  have HB := Lib.hid hB
  have HR := Lib.hid (hr.below hB.below)
  have HL := Lib.hid hl
  have HFF := Lib.hid hf
  have HW := Lib.hid hW
  clear hr hl hB hf hW
  unfold boxCd at HW
  unfold Cd.val
  have hfit := HL.out.1.1
  go_enter Tryd.func74, Tryd.ntmps74
  go_wp2
  go_loopw [10] (fun i wr => ∃ k : Nat, k ≤ x.els.length ∧ i = .int .i64 k ∧ Hid (∀ j, j < k → (it x.els j).name ≠ n) ∧ Below W.heap.size W wr) (fun i _ => x.els.length - (intOf i).toNat)
  case atStart => exact ⟨0, Nat.zero_le _, rfl, Lib.hid (fun j hj => absurd hj (by omega)), by rw [← HW.out]; exact Below.refl _ _⟩
  case round =>
    obtain ⟨k, hk, rfl, HI, hb⟩ := hrel
    have HB2 := Lib.hid (HB.out.below.trans (hb.mono HB.out.below.size))
    by_cases hlt : k < x.els.length
    · obtain ⟨b, o, rfl, hbl, hc⟩ := HR.out.els.el (by omega)
      obtain ⟨c0, c1, c2, c3⟩ := (hc k hlt).below hb hbl
      have HBR := Lib.hid hb
      clear hc hb
      by_cases he : (it x.els k).name = n
      · have HV := Lib.hid (HFF.out.hit k hlt he HI.out)
        have hq := str_eq he
        clear he
        go_wp2
        go_ret
        exact ⟨by rw [HV.out]; rfl, HB2.out.alloc HB2.out.size _⟩
      · have HN := Lib.hid (none_next HI.out he)
        have hq := str_ne he
        clear he
        go_wp2
        go_roundw
        case rel => exact ⟨k + 1, by omega, by go_num, HN.out, HBR.out.alloc HBR.out.size _⟩
        case measure => simp [intOf]; omega
    · obtain rfl : k = x.els.length := by omega
      have HV := Lib.hid (HFF.out.none HI.out)
      clear hb
      go_wp2
      go_ret
      exact ⟨by rw [HV.out]; rfl, HB2.out⟩

/-- What finding an element answers. -/
noncomputable def fndV (x : Cd) (r : Int) : Value := @ite _ (CdOk x ∧ 0 ≤ r) (Classical.propDecidable _) (.tuple #[.int .i64 r, .bool true]) (.tuple #[.int .i64 0, .bool false])
theorem fndV_yes {x : Cd} {r : Int} (h1 : CdOk x) (h2 : 0 ≤ r) : fndV x r = .tuple #[.int .i64 r, .bool true] := by unfold fndV; exact @if_pos _ (Classical.propDecidable _) ⟨h1, h2⟩ _ _ _
theorem fndV_no {x : Cd} {r : Int} (h : ¬ (CdOk x ∧ 0 ≤ r)) : fndV x r = .tuple #[.int .i64 0, .bool false] := by unfold fndV; exact @if_neg _ (Classical.propDecidable _) h _ _ _

theorem fndV_form (x : Cd) (r : Int) : ∃ (p : Int) (q : Bool), fndV x r = .tuple #[.int .i64 p, .bool q] := by
  by_cases h : CdOk x ∧ 0 ≤ r
  · exact ⟨r, true, fndV_yes h.1 h.2⟩
  · exact ⟨0, false, fndV_no h⟩
/-- What looking a name up answers. -/
def idxV (r : Int) : Value := if 0 ≤ r then .tuple #[.int .i64 r, .bool true] else .tuple #[.int .i64 0, .bool false]
theorem idxV_yes {r : Int} (h : 0 ≤ r) : idxV r = .tuple #[.int .i64 r, .bool true] := if_pos h
theorem idxV_no {r : Int} (h : ¬ 0 ≤ r) : idxV r = .tuple #[.int .i64 0, .bool false] := if_neg h
theorem indexOf_any (A : Option Addr) (c : Nat) (xs : List El) (n : ByteArray) (r : Int) (w : World) (hr : Lst w w.heap.size A xs) (hl : Fits xs) (hf : First xs n r) :
    Calls Tryd.prog 77 #[.slice A xs.length c, .string n] w fun e w' => e = .returned (idxV r) ∧ Below w.heap.size w w' := by
  have HR := Lib.hid hr
  have HFF := Lib.hid hf
  have hfit := hl.1
  clear hr hl hf
  go_enter Tryd.func77, Tryd.ntmps77
  go_wp2
  go_loopw [10] (fun i wr => ∃ k : Nat, k ≤ xs.length ∧ i = .int .i64 k ∧ Hid (∀ j, j < k → (it xs j).name ≠ n) ∧ Below w.heap.size w wr) (fun i _ => xs.length - (intOf i).toNat)
  case atStart => exact ⟨0, Nat.zero_le _, rfl, Lib.hid (fun j hj => absurd hj (by omega)), Below.refl _ _⟩
  case round =>
    obtain ⟨k, hk, rfl, HI, hb⟩ := hrel
    have HB2 := Lib.hid hb
    by_cases hlt : k < xs.length
    · obtain ⟨b, o, rfl, hbl, hc⟩ := HR.out.el (by omega)
      obtain ⟨c0, c1, c2, c3⟩ := (hc k hlt).below hb hbl
      clear hc hb
      by_cases he : (it xs k).name = n
      · have hrk := HFF.out.hit k hlt he HI.out
        have HV := Lib.hid (show idxV r = .tuple #[.int .i64 (k : Int), .bool true] by rw [idxV_yes (by omega), hrk])
        have hq := str_eq he
        clear he hrk
        go_wp2
        go_ret2
        exact ⟨by rw [HV.out]; rfl, HB2.out.alloc HB2.out.size _⟩
      · have HN := Lib.hid (none_next HI.out he)
        have hq := str_ne he
        clear he
        go_wp2
        go_roundw
        case rel => exact ⟨k + 1, by omega, by go_num, HN.out, HB2.out.alloc HB2.out.size _⟩
        case measure => simp [intOf]; omega
    · obtain rfl : k = xs.length := by omega
      have HV := Lib.hid (idxV_no (r := r) (fun h => by have := HFF.out.none HI.out; omega))
      clear hb
      go_wp2
      go_ret2
      exact ⟨by rw [HV.out]; rfl, HB2.out⟩

end Go.Proofs.YthpipapgjjfalaaDoor

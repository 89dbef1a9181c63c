/- slices.Concat at items; a list without one item, and with one more, in the program. -/
import Derived.Test.YtjmdaecjgiafoaaGreatDoorPgJ
import Derived.Lib.AppendZeros
namespace Go.Proofs.YtjmdaecjgiafoaaGreatDoor
open Go.ChangeShapes Go.WideShapes Go.ChangeAt Go.RowKit Go.PlainAid
set_option linter.unusedVariables false

def imZ : Value := .agg #[.slice none 0 0, .slice none 0 0, .bool false]
theorem zcI_size (k : Nat) : (Builtin.zeroCells imZ.cells k).size = k * 3 := by
  simp [Builtin.zeroCells, imZ, Value.cells]
/-- A part: a slice of items. -/
structure Sl where
  P : Option Addr
  c : Nat
  xs : List Im
def Sl.cs (x : Sl) : List Value := [.slice x.P x.xs.length x.c]
instance : Flat Sl where
  default := ⟨none, 0, []⟩
  sz := 1
  cells := Sl.cs
  len := fun _ => rfl
theorem Lst.sl {w : World} {B : Nat} {A : Option Addr} {ps : List Sl} (h : Lst w B A ps) (hp : 0 < ps.length) : ∃ b o, A = some ⟨b, o, none⟩ ∧ b < B ∧ ∀ i, i < ps.length → w.cell? ⟨b, o + i, none⟩ = some (.slice (it ps i).P (it ps i).xs.length (it ps i).c) := by
  obtain ⟨b, o, h1, h2, h3⟩ := h hp
  refine ⟨b, o, h1, h2, fun i hi => ?_⟩
  have := h3 i hi 0 _ rfl
  rw [show o + i * Flat.sz Sl + 0 = o + i by show o + i * 1 + 0 = _; omega] at this
  exact this
/-- The items of the first k parts. -/
def catTo (ps : List Sl) : Nat → List Im
  | 0 => []
  | k + 1 => catTo ps k ++ (it ps k).xs
theorem catTo_mono (ps : List Sl) (j : Nat) : ∀ k, j ≤ k → (catTo ps j).length ≤ (catTo ps k).length := fun k h => by
  induction h with
  | refl => exact Nat.le_refl _
  | step _ ih => exact Nat.le_trans ih (by rw [catTo, List.length_append]; omega)
theorem it_app (xs ys : List Im) (i : Nat) : it (xs ++ ys) i = if i < xs.length then it xs i else it ys (i - xs.length) := by
  unfold it
  rw [List.getD_eq_getElem?_getD]
  by_cases h : i < xs.length
  · rw [if_pos h, List.getElem?_append_left h, List.getD_eq_getElem?_getD]
  · rw [if_neg h, List.getElem?_append_right (by omega), List.getD_eq_getElem?_getD]
theorem cat_in {w : World} {B : Nat} {ps : List Sl} (h : ∀ i, i < ps.length → ∀ j, j < (it ps i).xs.length → ImIn w B (it (it ps i).xs j)) : ∀ k, k ≤ ps.length → ∀ j, j < (catTo ps k).length → ImIn w B (it (catTo ps k) j)
  | 0, _, j, hj => absurd hj (by simp [catTo])
  | k + 1, hk, j, hj => by
    rw [catTo, it_app]
    rw [catTo, List.length_append] at hj
    by_cases e : j < (catTo ps k).length
    · rw [if_pos e]
      exact cat_in h k (by omega) j e
    · rw [if_neg e]
      exact h k (by omega) _ (by omega)
theorem all_src {w W : World} {B : Nat} {A : Option Addr} {xs : List Im} (h : Lst w B A xs) (hb : Below B w W) (hp : 0 < xs.length) :
    ∃ ad, A = some ad ∧ ∀ j u, (xs.flatMap Flat.cells)[j]? = some u → W.cell? (ad.add j) = some u := by
  obtain ⟨b, o, rfl, hbl, _⟩ := h hp
  exact ⟨_, rfl, fun j u hj => head_src h hb xs.length (Nat.le_refl _) hp j u (by rw [List.take_length]; exact hj)⟩

end Go.Proofs.YtjmdaecjgiafoaaGreatDoor

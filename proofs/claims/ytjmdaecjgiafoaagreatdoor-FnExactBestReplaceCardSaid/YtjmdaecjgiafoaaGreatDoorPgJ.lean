/- A list with one item more, in the model. -/
import Derived.Test.YtjmdaecjgiafoaaGreatDoorPgI
import Derived.Deep.AppendLies
namespace Go.Proofs.YtjmdaecjgiafoaaGreatDoor
open Go.ChangeShapes Go.WideShapes Go.ChangeAt Go.RowKit Go.PlainAid
set_option linter.unusedVariables false

theorem heap_at_old (w : World) (o x : Obj) (g : Nat) (h : g < w.heap.size) (k : w.heap[g]? = some x) : (w.alloc o).heap[g]? = some x := (heap_alloc_old w o h).trans k
/-- The list with an item put in. -/
def ins (xs : List Im) (k : Nat) (y : Im) : List Im := xs.take k ++ y :: xs.drop k
theorem ins_len (xs : List Im) (k : Nat) (y : Im) (h : k ≤ xs.length) : (ins xs k y).length = xs.length + 1 := by
  unfold ins
  rw [List.length_append, List.length_cons, List.length_take, List.length_drop]
  omega
theorem it_ins (xs : List Im) (k : Nat) (y : Im) (h : k ≤ xs.length) (i : Nat) : it (ins xs k y) i = if i < k then it xs i else if i = k then y else it xs (i - 1) := by
  unfold ins it
  have hl : (xs.take k).length = k := by rw [List.length_take]; omega
  rw [List.getD_eq_getElem?_getD]
  by_cases h1 : i < k
  · rw [if_pos h1, List.getElem?_append_left (by omega), List.getElem?_take, if_pos h1, List.getD_eq_getElem?_getD]
  · rw [if_neg h1, List.getElem?_append_right (by omega), hl]
    by_cases h2 : i = k
    · rw [if_pos h2, h2, Nat.sub_self]
      rfl
    · rw [if_neg h2, show i - k = (i - k - 1) + 1 by omega, List.getElem?_cons_succ, List.getElem?_drop, show k + (i - k - 1) = i - 1 by omega, List.getD_eq_getElem?_getD]
theorem ins_in {w : World} {B : Nat} {xs : List Im} {y : Im} (h : ∀ i, i < xs.length → ImIn w B (it xs i)) (k : Nat) (hk : k ≤ xs.length) (hy : ImIn w B y) : ∀ i, i < (ins xs k y).length → ImIn w B (it (ins xs k y) i) := fun i hi => by
  rw [ins_len xs k y hk] at hi
  rw [it_ins xs k y hk]
  by_cases h1 : i < k
  · rw [if_pos h1]
    exact h i (by omega)
  · rw [if_neg h1]
    by_cases h2 : i = k
    · rw [if_pos h2]
      exact hy
    · rw [if_neg h2]
      exact h (i - 1) (by omega)
theorem ins_cells (xs : List Im) (k : Nat) (y : Im) : ((xs.take k).flatMap Flat.cells ++ Im.cs y) ++ (xs.drop k).flatMap Flat.cells = (ins xs k y).flatMap Flat.cells := by
  unfold ins
  rw [List.flatMap_append, List.flatMap_cons, List.append_assoc]
  rfl
end Go.Proofs.YtjmdaecjgiafoaaGreatDoor

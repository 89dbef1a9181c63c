/- A family's greatest base and its levels, in the model and in the program. -/
import Derived.Test.YtnlcdfaojcnkpaaDoorCdO
namespace Go.Proofs.YtnlcdfaojcnkpaaDoor
open Go.ChangeShapes Go.WideShapes Go.ChangeAt Go.RowKit Go.PlainAid Go.Sort
set_option linter.unusedVariables false

def gbOf (xs : List El) (l : List Int) : Int := l.foldl (fun m i => max m (it xs i.toNat).base) 0
theorem gbOf_snoc (xs : List El) (l : List Int) (i : Nat) : gbOf xs (l ++ [(i : Int)]) = max (gbOf xs l) (it xs i).base := by
  unfold gbOf
  rw [List.foldl_append]
  rfl
def lvS (xs : List El) (o : List Int) (i : Int) : List Int := o.set (it xs i.toNat).lev.toNat (it o (it xs i.toNat).lev.toNat + 1)
def lvOf (xs : List El) (l : List Int) : List Int := l.foldl (lvS xs) (List.replicate 5 0)
theorem lvOf_snoc (xs : List El) (l : List Int) (i m : Nat) (h : (it xs i).lev = m) : lvOf xs (l ++ [(i : Int)]) = (lvOf xs l).set m (it (lvOf xs l) m + 1) := by
  unfold lvOf
  rw [List.foldl_append]
  show lvS xs _ _ = _
  unfold lvS
  rw [Int.toNat_natCast, h, Int.toNat_natCast]
theorem lvOf_len (xs : List El) (l : List Int) : (lvOf xs l).length = 5 := by
  unfold lvOf
  have main : ∀ (l o : List Int), (l.foldl (lvS xs) o).length = o.length := by
    intro l
    induction l with
    | nil => exact fun _ => rfl
    | cons i r ih =>
      intro o
      rw [List.foldl_cons, ih]
      exact List.length_set
  rw [main]
  rfl
theorem lvOf_le (xs : List El) (l : List Int) (j : Nat) : 0 ≤ it (lvOf xs l) j ∧ it (lvOf xs l) j ≤ l.length := by
  unfold lvOf
  have main : ∀ (l o : List Int) (b : Nat), (∀ j, 0 ≤ it o j ∧ it o j ≤ b) → ∀ j, 0 ≤ it (l.foldl (lvS xs) o) j ∧ it (l.foldl (lvS xs) o) j ≤ b + l.length := by
    intro l
    induction l with
    | nil => exact fun o b h j => by simpa using h j
    | cons i r ih =>
      intro o b h j
      rw [List.foldl_cons]
      have := ih (lvS xs o i) (b + 1) (fun j => by
        unfold lvS
        have h1 := h j
        have h2 := h (it xs i.toNat).lev.toNat
        by_cases hk : (it xs i.toNat).lev.toNat < o.length
        · rw [it_set _ _ _ _ hk]
          split <;> omega
        · rw [List.set_eq_of_length_le (by omega)]
          omega) j
      simp only [List.length_cons] at *
      omega
  have := main l (List.replicate 5 0) 0 (fun j => by
    unfold it
    rw [List.getD_eq_getElem?_getD, List.getElem?_replicate]
    split <;> simp) j
  omega
theorem famR_at (x : Cd) (f : Int) (j : Nat) (hj : j < (famR x f).length) : ∃ m : Nat, it (famR x f) j = m ∧ m < x.els.length := by
  have hm : it (famR x f) j ∈ famR x f := by
    have := it_get (famR x f) j hj
    exact List.mem_of_getElem? this
  by_cases h : AskOk x f
  · rw [famR_yes h] at hm ⊢
    have h2 := famTo_mem x.els f x.els.length _ hm
    exact ⟨(it (famTo x.els f x.els.length) j).toNat, by omega, by omega⟩
  · rw [famR_no h] at hj
    simp at hj
theorem take_snoc (l : List Int) (j : Nat) (hj : j < l.length) : l.take (j + 1) = l.take j ++ [it l j] := by
  rw [List.take_succ_eq_append_getElem hj]
  have := it_get l j hj
  rw [List.getElem?_eq_getElem hj] at this
  rw [Option.some.inj this]
theorem OwnAt.next {α : Type} [Flat α] {w w' : World} {g o : Nat} {xs : List α} (h : OwnAt w g o xs) (hg : g < w.heap.size) (hb : Below w.heap.size w w') : OwnAt w' g o xs := h.block (hb.block g hg)
theorem Owned.up {α : Type} [Flat α] {w : World} {B B' : Nat} {A : Option Addr} {xs : List α} (h : Owned (fun i => B ≤ i) w A xs) (hB : B' ≤ B) : Owned (fun i => B' ≤ i) w A xs := h.mono (fun i hi => Nat.le_trans hB hi)

noncomputable def lvR (x : Cd) (f : Int) : List Int := @ite _ (AskOk x f) (Classical.propDecidable _) (lvOf x.els (famR x f)) []
theorem lvR_yes {x : Cd} {f : Int} (h : AskOk x f) : lvR x f = lvOf x.els (famR x f) := by unfold lvR; exact @if_pos _ (Classical.propDecidable _) h _ _ _
theorem lvR_no {x : Cd} {f : Int} (h : ¬ AskOk x f) : lvR x f = [] := by unfold lvR; exact @if_neg _ (Classical.propDecidable _) h _ _ _
theorem own_five {w : World} {g B : Nat} {ys : List Int} (h : OwnAt w g 0 ys) (hg : g < w.heap.size) (hB : B ≤ g) : Owned (fun i => B ≤ i) w (some ⟨g, 0, none⟩) ys := fun _ => ⟨g, 0, rfl, hB, hg, h⟩

end Go.Proofs.YtnlcdfaojcnkpaaDoor

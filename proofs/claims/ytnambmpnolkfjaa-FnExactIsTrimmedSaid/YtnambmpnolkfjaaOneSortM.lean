/- Lists of ints in descending order: inserting a number, and that such an order is unique. -/
import Derived.Test.YtnambmpnolkfjaaOneInts
namespace Go.Proofs.Ytnambmpnolkfjaa.One

def SortedOf (xs ys : List Int) : Prop := ys.Perm xs ∧ ys.Pairwise (fun a b => b ≤ a)

theorem SortedOf.unique {xs ys zs : List Int} (h : SortedOf xs ys) (k : SortedOf xs zs) : ys = zs :=
  List.Perm.eq_of_pairwise (le := fun a b => b ≤ a) (fun a b _ _ h1 h2 => by omega) h.2 k.2 (h.1.trans k.1.symm)

theorem mem_take_ix {zs : List Int} {j : Nat} {a : Int} (h : a ∈ zs.take j) : ∃ i, i < j ∧ i < zs.length ∧ a = ix zs i := by
  obtain ⟨i, hi, rfl⟩ := List.mem_iff_getElem.1 h
  rw [List.length_take] at hi
  exact ⟨i, by omega, by omega, by simp [ix, List.getD_eq_getElem?_getD, List.getElem?_eq_getElem (show i < zs.length by omega)]⟩
theorem mem_drop_ix {zs : List Int} {j : Nat} {a : Int} (h : a ∈ zs.drop j) : ∃ i, j ≤ i ∧ i < zs.length ∧ a = ix zs i := by
  obtain ⟨i, hi, rfl⟩ := List.mem_iff_getElem.1 h
  rw [List.length_drop] at hi
  exact ⟨j + i, by omega, by omega, by simp [ix, List.getD_eq_getElem?_getD, List.getElem?_eq_getElem (show j + i < zs.length by omega)]⟩
theorem pairwise_ix {zs : List Int} (h : zs.Pairwise (fun a b => b ≤ a)) {i j : Nat} (hij : i < j) (hj : j < zs.length) : ix zs j ≤ ix zs i := by
  have := List.pairwise_iff_getElem.1 h i j (by omega) hj hij
  simpa [ix, List.getD_eq_getElem?_getD, List.getElem?_eq_getElem hj, List.getElem?_eq_getElem (show i < zs.length by omega)] using this
theorem take_succ_ix (xs : List Int) (k : Nat) (h : k < xs.length) : xs.take (k + 1) = xs.take k ++ [ix xs k] := by
  rw [List.take_succ_eq_append_getElem h]
  simp [ix, List.getD_eq_getElem?_getD, List.getElem?_eq_getElem h]

theorem SortedOf.insert {xs zs : List Int} {j : Nat} (hz : zs.length < xs.length) (h : SortedOf (xs.take zs.length) zs) (hj : j ≤ zs.length)
    (h1 : ∀ i, j ≤ i → i < zs.length → ix zs i < ix xs zs.length) (h2 : j = 0 ∨ ix xs zs.length ≤ ix zs (j - 1)) :
    SortedOf (xs.take (zs.length + 1)) (zs.take j ++ ix xs zs.length :: zs.drop j) := by
  refine ⟨?_, ?_⟩
  · rw [take_succ_ix xs _ hz]
    refine List.perm_middle.trans ?_
    rw [List.take_append_drop]
    exact (List.Perm.cons _ h.1).trans (List.perm_append_singleton _ _).symm
  · have hp := h.2
    rw [← List.take_append_drop j zs, List.pairwise_append] at hp
    rw [List.pairwise_append, List.pairwise_cons]
    refine ⟨hp.1, ⟨fun b hb => ?_, hp.2.1⟩, fun a ha b hb => ?_⟩
    · obtain ⟨i, hi1, hi2, rfl⟩ := mem_drop_ix hb
      have := h1 i hi1 hi2
      omega
    · obtain ⟨i, hi1, hi2, rfl⟩ := mem_take_ix ha
      have hx : ix xs zs.length ≤ ix zs i := by
        rcases h2 with h2 | h2
        · omega
        · by_cases e : i = j - 1
          · rw [e]; exact h2
          · have := pairwise_ix h.2 (show i < j - 1 by omega) (by omega)
            omega
      rcases List.mem_cons.1 hb with rfl | hb
      · exact hx
      · obtain ⟨i', hi1', hi2', rfl⟩ := mem_drop_ix hb
        have := h1 i' hi1' hi2'
        omega
theorem insert_len {zs : List Int} {j : Nat} {x : Int} (hj : j ≤ zs.length) : (zs.take j ++ x :: zs.drop j).length = zs.length + 1 := by simp; omega
theorem insert_map (zs : List Int) (j : Nat) (x : Int) : [] ++ (zs.take j).map (Value.int .i64) ++ [.int .i64 x] ++ (zs.drop j).map (Value.int .i64) = (zs.take j ++ x :: zs.drop j).map (Value.int .i64) := by simp
theorem SortedOf.nil (xs : List Int) : SortedOf (xs.take 0) [] := ⟨by simp, List.Pairwise.nil⟩
theorem SortedOf.len {xs ys : List Int} (h : SortedOf xs ys) : ys.length = xs.length := h.1.length_eq
end Go.Proofs.Ytnambmpnolkfjaa.One

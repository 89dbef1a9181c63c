/- How often each mark occurs, in the model and in the program. -/
import Derived.Test.YtbhfhjhegcfdkaaItemH
namespace Go.Proofs.Ytbhfhjhegcfdkaa
open Go.ChangeShapes Go.WideShapes Go.ChangeAt Go.RowKit
set_option linter.unusedVariables false

def bump (l : List Int) (n : Nat) : List Int := l.set n (it l n + 1)
/-- The counts with the first j of some marks. -/
def cntM (l : List Int) (ms : List Int) : Nat → List Int
  | 0 => l
  | j + 1 => bump (cntM l ms j) (it ms j).toNat
/-- The counts of the first k items. -/
def cntX (xs : List Im) : Nat → List Int
  | 0 => List.replicate 4 0
  | k + 1 => cntM (cntX xs k) (it xs k).ms (it xs k).ms.length
theorem bump_len (l : List Int) (n : Nat) : (bump l n).length = l.length := by simp [bump]
theorem cntM_len (l ms : List Int) : ∀ j, (cntM l ms j).length = l.length
  | 0 => rfl
  | j + 1 => by rw [cntM, bump_len, cntM_len l ms j]
theorem cntX_len (xs : List Im) : ∀ k, (cntX xs k).length = 4
  | 0 => rfl
  | k + 1 => by rw [cntX, cntM_len, cntX_len xs k]
/-- No count is negative or above a bound. -/
def Small (l : List Int) (b : Int) : Prop := ∀ i, i < l.length → 0 ≤ it l i ∧ it l i ≤ b
theorem small_bump {l : List Int} {b : Int} (h : Small l b) (n : Nat) (hb : 0 ≤ b) : Small (bump l n) (b + 1) := fun i hi => by
  rw [bump_len] at hi
  have hi' := h i hi
  unfold bump
  by_cases hn : n < l.length
  · rw [it_set _ _ _ _ hn]
    by_cases e : i = n
    · subst e
      rw [if_pos rfl]
      omega
    · rw [if_neg e]
      omega
  · rw [List.set_eq_of_length_le (by omega)]
    omega
theorem small_cntM {l : List Int} {b : Int} (h : Small l b) (hb : 0 ≤ b) (ms : List Int) : ∀ j : Nat, Small (cntM l ms j) (b + j)
  | 0 => by simpa [cntM] using h
  | j + 1 => by
    have := small_bump (small_cntM h hb ms j) (it ms j).toNat (by omega)
    rw [cntM]
    intro i hi
    have := this i hi
    omega
theorem small_cntX (xs : List Im) (hl : ListOk xs) : ∀ k : Nat, k ≤ xs.length → Small (cntX xs k) (3 * k)
  | 0, _ => fun i hi => by
    rw [cntX_len] at hi
    have : it (cntX xs 0) i = 0 := by
      unfold it cntX
      rw [List.getD_eq_getElem?_getD, List.getElem?_replicate, if_pos hi]
      rfl
    rw [this]
    simp
  | k + 1, hk => by
    have h1 := small_cntM (small_cntX xs hl k (by omega)) (by omega) (it xs k).ms (it xs k).ms.length
    have h2 := hl.each k (by omega)
    have h3 := h2.eq
    have h4 := h2.hi
    rw [cntX]
    intro i hi
    have := h1 i hi
    omega
/-- The counts, or nothing of a list that is not valid. -/
noncomputable def cntF (xs : List Im) : List Int := @ite _ (ListOk xs) (Classical.propDecidable _) (cntX xs xs.length) []
theorem cntF_yes {xs : List Im} (h : ListOk xs) : cntF xs = cntX xs xs.length := by unfold cntF; rw [if_pos h]
theorem cntF_no {xs : List Im} (h : ¬ ListOk xs) : cntF xs = [] := by unfold cntF; rw [if_neg h]
theorem ListOk.same {xs ys : List Im} (h : SameS xs ys) (k : ListOk xs) : ListOk ys :=
  ⟨by have := h.len; have := k.len; omega, fun i hi => by have hk := k.each i (by have := h.len; omega); have he := h.each i (by have := h.len; omega); rw [he.ns, he.ms]; exact hk⟩
theorem cntX_same {xs ys : List Im} (h : SameS xs ys) : ∀ k, k ≤ xs.length → cntX ys k = cntX xs k
  | 0, _ => rfl
  | k + 1, hk => by rw [cntX, cntX, cntX_same h k (by omega), (h.each k (by omega)).ms]
theorem cntF_same {xs ys : List Im} (h : SameS xs ys) : cntF ys = cntF xs := by
  by_cases k : ListOk xs
  · rw [cntF_yes k, cntF_yes (k.same h), h.len, cntX_same h _ (Nat.le_refl _)]
  · rw [cntF_no k, cntF_no (fun q => k (q.same h.symm))]
theorem cntF_len (xs : List Im) : (cntF xs).length ≤ 4 := by
  by_cases k : ListOk xs
  · rw [cntF_yes k, cntX_len]; exact Nat.le_refl _
  · rw [cntF_no k]; simp
/-- What a law's walk asks of an answer. -/
structure Short {α : Type} (l : List α) : Prop where
  len : l.length ≤ 1048576
theorem cntF_small (xs : List Im) : Short (cntF xs) := ⟨by have := cntF_len xs; omega⟩

end Go.Proofs.Ytbhfhjhegcfdkaa

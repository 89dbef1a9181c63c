/- IsFinal of the model. -/
import Derived.Test.YtbhfhjhegcfdkaaShV
namespace Go.Proofs.Ytbhfhjhegcfdkaa
open Go.ChangeShapes Go.WideShapes Go.ChangeAt Go.RowKit Go.Lib Go.Proofs
set_option linter.unusedVariables false

/-- All votes of the first callers are there. -/
def Full (q : Rw (Rw Int)) : Prop := ∀ i, i < q.xs.length → ¬ (-1 : Int) ∈ (it q.xs i).xs
theorem mem_it {l : List Int} {n : Int} : n ∈ l ↔ ∃ i, i < l.length ∧ it l i = n := by
  constructor
  · intro h
    obtain ⟨i, hi, e⟩ := List.getElem_of_mem h
    refine ⟨i, hi, ?_⟩
    have := it_get l i hi
    rw [List.getElem?_eq_getElem hi] at this
    rw [← Option.some.inj this, e]
  · rintro ⟨i, hi, rfl⟩
    exact List.mem_of_getElem? (it_get l i hi)
theorem fin_full {x : Sh} (hok : ShOk x) : Fin1 x ↔ (∀ k, k < 3 → Full (it x.V.xs k)) ∧ plI (nmN x.l) (opD x) x.l.length = [] := by
  rw [plI_nil]
  constructor
  · refine fun h => ⟨fun k hk i hi hm => ?_, fun i hi j hj => decide_eq_false (fun q => h i hi j hj (.inl q))⟩
    have h1 := hok.vo.each k (by rw [hok.vo.len]; exact hk)
    have hi' : i < x.l.length := by rw [← h1.len]; exact hi
    obtain ⟨j, hj, e⟩ := mem_it.1 hm
    have hj' : j < nmN x.l i := by
      unfold nmN
      rw [← (h1.each i hi').len]
      exact hj
    refine h i hi' j hj' (.inr ?_)
    have e' : vt x.V k i j = -1 := e
    rcases (show k = 0 ∨ k = 1 ∨ k = 2 by omega) with rfl | rfl | rfl <;> simp [e']
  · rintro ⟨h1, h2⟩ i hi j hj
    rintro (h | h)
    · exact absurd (h2 i hi j hj) (by unfold opD; rw [decide_eq_true h]; simp)
    · have hv : ∃ k, k < 3 ∧ vt x.V k i j = -1 := by
        simp only [List.mem_cons, List.not_mem_nil, or_false] at h
        rcases h with h | h | h
        · exact ⟨0, by omega, h.symm⟩
        · exact ⟨1, by omega, h.symm⟩
        · exact ⟨2, by omega, h.symm⟩
      obtain ⟨k, hk, e⟩ := hv
      have h3 := hok.vo.each k (by rw [hok.vo.len]; exact hk)
      refine h1 k hk i (by rw [h3.len]; exact hi) (mem_it.2 ⟨j, ?_, e⟩)
      rw [(h3.each i hi).len]
      exact hj
end Go.Proofs.Ytbhfhjhegcfdkaa

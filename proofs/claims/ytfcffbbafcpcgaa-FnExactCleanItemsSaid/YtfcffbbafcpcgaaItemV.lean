/- What the law CleanItems asks of marks and of copies. -/
import Derived.Test.YtfcffbbafcpcgaaHiS
import Derived.Test.YtfcffbbafcpcgaaItemQ
import Derived.Test.YtfcffbbafcpcgaaHiCl
namespace Go.Proofs.Ytfcffbbafcpcgaa
open Go.ChangeShapes Go.WideShapes Go.ChangeAt Go.RowKit
set_option linter.unusedVariables false

theorem clnF_same {xs ys : List Im} (h : SameS xs ys) : SameS (clnF xs) (clnF ys) := by
  by_cases k : ListOk xs
  · rw [clnF_yes k, clnF_yes (k.same h)]
    refine ⟨by rw [List.length_map, List.length_map, h.len], fun i hi => ?_⟩
    rw [List.length_map] at hi
    have he := h.each i hi
    rw [cln_it xs i hi, cln_it ys i (by have := h.len; omega)]
    refine ⟨he.ns, ?_, he.late⟩
    show zer (it ys i).ns.length = zer (it xs i).ns.length
    rw [he.ns]
  · rw [clnF_no k, clnF_no (fun q => k (q.same h.symm))]
    exact SameS.refl _
theorem clnF_fits {xs : List Im} (h : ImsFits xs) : ImsFits (clnF xs) := by
  by_cases k : ListOk xs
  · rw [clnF_yes k]
    refine ⟨by rw [List.length_map]; exact h.len, fun i hi => ?_⟩
    rw [List.length_map] at hi
    rw [cln_it xs i hi]
    refine ⟨(h.each i hi).ns, ?_⟩
    show (zer (it xs i).ns.length).length ≤ 1048576
    rw [zer_len]
    exact (h.each i hi).ns.1
  · rw [clnF_no k]
    exact ⟨by simp, fun i hi => absurd hi (by simp)⟩
end Go.Proofs.Ytfcffbbafcpcgaa

/- What the rows' lists of variables give: the library's table of powers of ten. -/
import Derived.Test.YtngbkflfobcgaaaDoorTextL
import Derived.MakeChecks
namespace Go.Proofs.YtngbkflfobcgaaaDoor
open Go.ChangeShapes Go.WideShapes Go.ChangeAt Go.RowKit

theorem gPowType : (Tryd.prog.globals[0]?).map (·.type) = some 43 := by kernel_rfl
theorem cellsPow : Tryd.prog.cellsOf 43 = 20 := by kernel_rfl
theorem cellsU64 : Tryd.prog.cellsOf 36 = 1 := by kernel_rfl
theorem tab_of {W : World} {n1 n2 : String} {x y : DataW Unit} (h : laidMet Tryd.prog [(n1, x), (n2, y), ("internal/strconv.uint64pow10", Rows.laid_internal_strconv_uint64pow10)] W) : Tab W := by
  obtain ⟨ps, ⟨g0, t0, cs0, f0, p0, q0, hg0, ht0, hv0, hd0, ⟨g1, t1, cs1, f1, p1, q1, hg1, ht1, hv1, hd1, ⟨g2, t2, cs2, f2, p2, q2, hg2, ht2, hv2, hd2, _, _⟩, _⟩, _⟩, _, _⟩ := h
  obtain rfl := Option.some.inj (gPow.symm.trans hg2)
  obtain rfl := Option.some.inj (gPowType.symm.trans ht2)
  have hd : DataW.trod _ Tryd.prog W _ _ _ f2 43 _ = some (Lib.tabData .u64 Lib.pow10Tab, p2) := hd2
  have he := Lib.cells_of_tab Tryd.underlying43 Tryd.underlying36 cellsU64 cellsPow hd
  have ht : Lib.TabIs Tryd.prog W "internal/strconv.uint64pow10" .u64 Lib.pow10Tab := by
    unfold Lib.TabIs
    rw [hv2, ← he]
  have hc := World.var?_cell hg2 ht 0
  refine ⟨?_, ht⟩
  rcases Nat.eq_zero_or_pos W.heap.size with h0 | h0
  · have : W.heap[0]? = none := Array.getElem?_eq_none (by omega)
    unfold World.cell? at hc
    simp only [this] at hc
    simp [Lib.pow10Tab] at hc
  · exact h0
theorem tabPointsText {W : World} (h : laidMetH Tryd.prog Rows.fnExactPointsTextRow.laid W) : Tab W := by
  rw [MakeChecks.laidMetH_plain _ _ _ (by kernel_rfl)] at h
  exact tab_of h
theorem tabReadPoints {W : World} (h : laidMetH Tryd.prog Rows.fnExactReadPointsRow.laid W) : Tab W := by
  rw [MakeChecks.laidMetH_plain _ _ _ (by kernel_rfl)] at h
  exact tab_of h
end Go.Proofs.YtngbkflfobcgaaaDoor

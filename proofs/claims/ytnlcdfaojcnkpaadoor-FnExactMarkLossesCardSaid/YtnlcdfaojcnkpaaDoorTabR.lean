/- What the rows' lists of variables give: the table of bounds. -/
import Derived.Test.YtnlcdfaojcnkpaaDoorBb
import Derived.Test.YtnlcdfaojcnkpaaDoorRows
namespace Go.Proofs.YtnlcdfaojcnkpaaDoor
open Go.ChangeShapes Go.WideShapes Go.ChangeAt Go.RowKit

theorem tab_one {W : World} (h : laidMet Tryd.prog [("loop.example/g00912/impl.codeBounds", Rows.laid_loop_example_g00912_impl_codeBounds)] W) : Tab W := by
  obtain ⟨ps, ⟨g0, t0, cs0, f0, p0, q0, hg0, ht0, hv0, hd0, _, _⟩, _⟩ := h
  obtain rfl := Option.some.inj (gBound.symm.trans hg0)
  obtain rfl := Option.some.inj (gBoundType.symm.trans ht0)
  have hd : DataW.trod _ Tryd.prog W _ _ _ f0 129 _ = some (.agg (boundRows.map pairData), p0) := hd0
  exact tab_read hv0 hd
theorem tabMarkLosses {W : World} (h : laidMetH Tryd.prog Rows.fnExactMarkLossesRow.laid W) : Tab W := by
  rw [MakeChecks.laidMetH_plain _ _ _ (by kernel_rfl)] at h
  exact tab_one h
end Go.Proofs.YtnlcdfaojcnkpaaDoor

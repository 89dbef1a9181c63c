/- What the rows' lists of variables give: the table of bounds. -/
import Derived.Test.YtjmdaecjgiafoaaGreatDoorBb
import Derived.Test.YtjmdaecjgiafoaaGreatDoorRows
namespace Go.Proofs.YtjmdaecjgiafoaaGreatDoor
open Go.ChangeShapes Go.WideShapes Go.ChangeAt Go.RowKit

theorem tab_one {W : World} (h : laidMet Tryz.prog [("loop.example/g00912/impl.codeBounds", Rows.laid_loop_example_g00912_impl_codeBounds)] W) : Tab W := by
  obtain ⟨ps, ⟨g0, t0, cs0, f0, p0, q0, hg0, ht0, hv0, hd0, _, _⟩, _⟩ := h
  obtain rfl := Option.some.inj (gBound.symm.trans hg0)
  obtain rfl := Option.some.inj (gBoundType.symm.trans ht0)
  have hd : DataW.trod _ Tryz.prog W _ _ _ f0 154 _ = some (.agg (boundRows.map pairData), p0) := hd0
  exact tab_read hv0 hd
theorem tabBestReplace {W : World} (h : laidMetH Tryz.prog Rows.fnExactBestReplaceRow.laid W) : Tab W := by
  rw [MakeChecks.laidMetH_plain _ _ _ (by kernel_rfl)] at h
  exact tab_one h
theorem tabBestReplaceUpto {W : World} (h : laidMetH Tryz.prog Rows.fnExactBestReplaceUptoRow.laid W) : Tab W := by
  rw [MakeChecks.laidMetH_plain _ _ _ (by kernel_rfl)] at h
  exact tab_one h
theorem tabBestSingles {W : World} (h : laidMetH Tryz.prog Rows.fnExactBestSinglesRow.laid W) : Tab W := by
  rw [MakeChecks.laidMetH_plain _ _ _ (by kernel_rfl)] at h
  exact tab_one h
theorem tabBestSinglesUpto {W : World} (h : laidMetH Tryz.prog Rows.fnExactBestSinglesUptoRow.laid W) : Tab W := by
  rw [MakeChecks.laidMetH_plain _ _ _ (by kernel_rfl)] at h
  exact tab_one h
theorem tabOrderForLate {W : World} (h : laidMetH Tryz.prog Rows.fnExactOrderForLateRow.laid W) : Tab W := by
  rw [MakeChecks.laidMetH_plain _ _ _ (by kernel_rfl)] at h
  exact tab_one h
theorem tabOrderForLateUpto {W : World} (h : laidMetH Tryz.prog Rows.fnExactOrderForLateUptoRow.laid W) : Tab W := by
  rw [MakeChecks.laidMetH_plain _ _ _ (by kernel_rfl)] at h
  exact tab_one h
theorem tabReplaceGain {W : World} (h : laidMetH Tryz.prog Rows.fnExactReplaceGainRow.laid W) : Tab W := by
  rw [MakeChecks.laidMetH_plain _ _ _ (by kernel_rfl)] at h
  exact tab_one h
theorem tabReplaceGainUpto {W : World} (h : laidMetH Tryz.prog Rows.fnExactReplaceGainUptoRow.laid W) : Tab W := by
  rw [MakeChecks.laidMetH_plain _ _ _ (by kernel_rfl)] at h
  exact tab_one h
theorem tabSinglesBase {W : World} (h : laidMetH Tryz.prog Rows.fnExactSinglesBaseRow.laid W) : Tab W := by
  rw [MakeChecks.laidMetH_plain _ _ _ (by kernel_rfl)] at h
  exact tab_one h
theorem tabSinglesBaseUpto {W : World} (h : laidMetH Tryz.prog Rows.fnExactSinglesBaseUptoRow.laid W) : Tab W := by
  rw [MakeChecks.laidMetH_plain _ _ _ (by kernel_rfl)] at h
  exact tab_one h
end Go.Proofs.YtjmdaecjgiafoaaGreatDoor

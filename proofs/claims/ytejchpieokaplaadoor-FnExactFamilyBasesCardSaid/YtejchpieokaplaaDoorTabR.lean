/- What the rows' lists of variables give: the table of bounds. -/
import Derived.Test.YtejchpieokaplaaDoorBb
import Derived.Test.YtejchpieokaplaaDoorRows
namespace Go.Proofs.YtejchpieokaplaaDoor
open Go.ChangeShapes Go.WideShapes Go.ChangeAt Go.RowKit

theorem tab_one {W : World} (h : laidMet Tryd.prog [("loop.example/g00912/impl.codeBounds", Rows.laid_loop_example_g00912_impl_codeBounds)] W) : Tab W := by
  obtain ⟨ps, ⟨g0, t0, cs0, f0, p0, q0, hg0, ht0, hv0, hd0, _, _⟩, _⟩ := h
  obtain rfl := Option.some.inj (gBound.symm.trans hg0)
  obtain rfl := Option.some.inj (gBoundType.symm.trans ht0)
  have hd : DataW.trod _ Tryd.prog W _ _ _ f0 116 _ = some (.agg (boundRows.map pairData), p0) := hd0
  exact tab_read hv0 hd
theorem tabBaseValues {W : World} (h : laidMetH Tryd.prog Rows.fnExactBaseValuesRow.laid W) : Tab W := by
  rw [MakeChecks.laidMetH_plain _ _ _ (by kernel_rfl)] at h
  exact tab_one h
theorem tabBaseValuesUpto {W : World} (h : laidMetH Tryd.prog Rows.fnExactBaseValuesUptoRow.laid W) : Tab W := by
  rw [MakeChecks.laidMetH_plain _ _ _ (by kernel_rfl)] at h
  exact tab_one h
theorem tabElementWorth {W : World} (h : laidMetH Tryd.prog Rows.fnExactElementWorthRow.laid W) : Tab W := by
  rw [MakeChecks.laidMetH_plain _ _ _ (by kernel_rfl)] at h
  exact tab_one h
theorem tabElementWorthUpto {W : World} (h : laidMetH Tryd.prog Rows.fnExactElementWorthUptoRow.laid W) : Tab W := by
  rw [MakeChecks.laidMetH_plain _ _ _ (by kernel_rfl)] at h
  exact tab_one h
theorem tabFamilyBases {W : World} (h : laidMetH Tryd.prog Rows.fnExactFamilyBasesRow.laid W) : Tab W := by
  rw [MakeChecks.laidMetH_plain _ _ _ (by kernel_rfl)] at h
  exact tab_one h
theorem tabFamilyBasesUpto {W : World} (h : laidMetH Tryd.prog Rows.fnExactFamilyBasesUptoRow.laid W) : Tab W := by
  rw [MakeChecks.laidMetH_plain _ _ _ (by kernel_rfl)] at h
  exact tab_one h
theorem tabFullBase {W : World} (h : laidMetH Tryd.prog Rows.fnExactFullBaseRow.laid W) : Tab W := by
  rw [MakeChecks.laidMetH_plain _ _ _ (by kernel_rfl)] at h
  exact tab_one h
theorem tabFullBaseUpto {W : World} (h : laidMetH Tryd.prog Rows.fnExactFullBaseUptoRow.laid W) : Tab W := by
  rw [MakeChecks.laidMetH_plain _ _ _ (by kernel_rfl)] at h
  exact tab_one h
theorem tabItemBase {W : World} (h : laidMetH Tryd.prog Rows.fnExactItemBaseRow.laid W) : Tab W := by
  rw [MakeChecks.laidMetH_plain _ _ _ (by kernel_rfl)] at h
  exact tab_one h
theorem tabItemBaseUpto {W : World} (h : laidMetH Tryd.prog Rows.fnExactItemBaseUptoRow.laid W) : Tab W := by
  rw [MakeChecks.laidMetH_plain _ _ _ (by kernel_rfl)] at h
  exact tab_one h
theorem tabItemFamily {W : World} (h : laidMetH Tryd.prog Rows.fnExactItemFamilyRow.laid W) : Tab W := by
  rw [MakeChecks.laidMetH_plain _ _ _ (by kernel_rfl)] at h
  exact tab_one h
theorem tabItemFamilyUpto {W : World} (h : laidMetH Tryd.prog Rows.fnExactItemFamilyUptoRow.laid W) : Tab W := by
  rw [MakeChecks.laidMetH_plain _ _ _ (by kernel_rfl)] at h
  exact tab_one h
theorem tabKnowsItems {W : World} (h : laidMetH Tryd.prog Rows.fnExactKnowsItemsRow.laid W) : Tab W := by
  rw [MakeChecks.laidMetH_plain _ _ _ (by kernel_rfl)] at h
  exact tab_one h
theorem tabKnowsItemsUpto {W : World} (h : laidMetH Tryd.prog Rows.fnExactKnowsItemsUptoRow.laid W) : Tab W := by
  rw [MakeChecks.laidMetH_plain _ _ _ (by kernel_rfl)] at h
  exact tab_one h
theorem tabLateGain {W : World} (h : laidMetH Tryd.prog Rows.fnExactLateGainRow.laid W) : Tab W := by
  rw [MakeChecks.laidMetH_plain _ _ _ (by kernel_rfl)] at h
  exact tab_one h
theorem tabLateGainUpto {W : World} (h : laidMetH Tryd.prog Rows.fnExactLateGainUptoRow.laid W) : Tab W := by
  rw [MakeChecks.laidMetH_plain _ _ _ (by kernel_rfl)] at h
  exact tab_one h
theorem tabMarkLosses {W : World} (h : laidMetH Tryd.prog Rows.fnExactMarkLossesRow.laid W) : Tab W := by
  rw [MakeChecks.laidMetH_plain _ _ _ (by kernel_rfl)] at h
  exact tab_one h
theorem tabMarkLossesUpto {W : World} (h : laidMetH Tryd.prog Rows.fnExactMarkLossesUptoRow.laid W) : Tab W := by
  rw [MakeChecks.laidMetH_plain _ _ _ (by kernel_rfl)] at h
  exact tab_one h
theorem tabProgrammeBase {W : World} (h : laidMetH Tryd.prog Rows.fnExactProgrammeBaseRow.laid W) : Tab W := by
  rw [MakeChecks.laidMetH_plain _ _ _ (by kernel_rfl)] at h
  exact tab_one h
theorem tabProgrammeBaseUpto {W : World} (h : laidMetH Tryd.prog Rows.fnExactProgrammeBaseUptoRow.laid W) : Tab W := by
  rw [MakeChecks.laidMetH_plain _ _ _ (by kernel_rfl)] at h
  exact tab_one h
theorem tabRepeatsOf {W : World} (h : laidMetH Tryd.prog Rows.fnExactRepeatsOfRow.laid W) : Tab W := by
  rw [MakeChecks.laidMetH_plain _ _ _ (by kernel_rfl)] at h
  exact tab_one h
theorem tabRepeatsOfUpto {W : World} (h : laidMetH Tryd.prog Rows.fnExactRepeatsOfUptoRow.laid W) : Tab W := by
  rw [MakeChecks.laidMetH_plain _ _ _ (by kernel_rfl)] at h
  exact tab_one h
theorem tabRuleHolds {W : World} (h : laidMetH Tryd.prog Rows.fnExactRuleHoldsRow.laid W) : Tab W := by
  rw [MakeChecks.laidMetH_plain _ _ _ (by kernel_rfl)] at h
  exact tab_one h
theorem tabRuleHoldsUpto {W : World} (h : laidMetH Tryd.prog Rows.fnExactRuleHoldsUptoRow.laid W) : Tab W := by
  rw [MakeChecks.laidMetH_plain _ _ _ (by kernel_rfl)] at h
  exact tab_one h
end Go.Proofs.YtejchpieokaplaaDoor

/- What the row of CodeText lists: the table of bounds and the library's powers of ten. -/
import Derived.Test.YtnlcdfaojcnkpaaDoorTabR
import Derived.Test.YtnlcdfaojcnkpaaDoorCdT
namespace Go.Proofs.YtnlcdfaojcnkpaaDoor
open Go.ChangeShapes Go.WideShapes Go.ChangeAt Go.RowKit

theorem gPowType : (Tryd.prog.globals[3]?).map (·.type) = some 180 := by kernel_rfl
theorem cellsPow : Tryd.prog.cellsOf 180 = 20 := by kernel_rfl
theorem cellsU64 : Tryd.prog.cellsOf 165 = 1 := by kernel_rfl
theorem tab10_read {W : World} {fuel : Nat} {cs : Array Value} {p : List MemPlace} {enc : TypeId × Value → Unit} {sp : Nat → Bool} {held : Bool} (hv : W.var? Tryd.prog "internal/strconv.uint64pow10" = some cs)
    (hd : DataW.trod enc Tryd.prog W 0 sp held fuel 180 cs.toList = some (Lib.tabData .u64 Lib.pow10Tab, p)) : Tab10 W := by
  have he := Lib.cells_of_tab Tryd.underlying180 Tryd.underlying165 cellsU64 cellsPow hd
  refine ⟨var_lt gPow hv, ?_⟩
  unfold Lib.TabIs
  rw [hv, ← he]
theorem tabCodeText {W : World} (h : laidMetH Tryd.prog Rows.fnExactCodeTextRow.laid W) : Tab W ∧ Tab10 W := by
  rw [MakeChecks.laidMetH_plain _ _ _ (by kernel_rfl)] at h
  obtain ⟨ps, ⟨g0, t0, cs0, f0, p0, q0, hg0, ht0, hv0, hd0, ⟨g1, t1, cs1, f1, p1, q1, hg1, ht1, hv1, hd1, ⟨g2, t2, cs2, f2, p2, q2, hg2, ht2, hv2, hd2, ⟨g3, t3, cs3, f3, p3, q3, hg3, ht3, hv3, hd3, _, _⟩, _⟩, _⟩, _⟩, _⟩ := h
  obtain rfl := Option.some.inj (gPow.symm.trans hg2)
  obtain rfl := Option.some.inj (gPowType.symm.trans ht2)
  obtain rfl := Option.some.inj (gBound.symm.trans hg3)
  obtain rfl := Option.some.inj (gBoundType.symm.trans ht3)
  have hd : DataW.trod _ Tryd.prog W _ _ _ f3 129 _ = some (.agg (boundRows.map pairData), p3) := hd3
  have he : DataW.trod _ Tryd.prog W _ _ _ f2 180 _ = some (Lib.tabData .u64 Lib.pow10Tab, p2) := hd2
  exact ⟨tab_read hv3 hd, tab10_read hv2 he⟩
end Go.Proofs.YtnlcdfaojcnkpaaDoor

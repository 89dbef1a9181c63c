/- What the row of MarksText lists: the library's powers of ten. -/
import Derived.Test.YtfeffkjmjkddnaaDoorMrY
import Derived.Test.YtfeffkjmjkddnaaDoorRows
import Derived.MakeChecks
import Derived.Lib.LaidTab
namespace Go.Proofs.YtfeffkjmjkddnaaDoor
open Go.ChangeShapes Go.WideShapes Go.ChangeAt Go.RowKit

theorem gPowType : (Tryd.prog.globals[0]?).map (·.type) = some 88 := by kernel_rfl
theorem cellsPow : Tryd.prog.cellsOf 88 = 20 := by kernel_rfl
theorem cellsU64 : Tryd.prog.cellsOf 78 = 1 := by kernel_rfl
theorem var_lt {P : Program} {w : World} {n : String} {g : Nat} {cs : Array Value} (hg : P.globalNamed n = some g) (h : w.var? P n = some cs) : g < w.heap.size := by
  unfold World.var? at h
  simp only [hg, Option.bind_some] at h
  rcases Nat.lt_or_ge g w.heap.size with h1 | h1
  · exact h1
  · rw [Array.getElem?_eq_none h1] at h
    simp at h
theorem tab10_read {W : World} {fuel : Nat} {cs : Array Value} {p : List MemPlace} {enc : TypeId × Value → Unit} {sp : Nat → Bool} {held : Bool} (hv : W.var? Tryd.prog "internal/strconv.uint64pow10" = some cs)
    (hd : DataW.trod enc Tryd.prog W 0 sp held fuel 88 cs.toList = some (Lib.tabData .u64 Lib.pow10Tab, p)) : Tab10 W := by
  have he := Lib.cells_of_tab Tryd.underlying88 Tryd.underlying78 cellsU64 cellsPow hd
  refine ⟨var_lt gPow hv, ?_⟩
  unfold Lib.TabIs
  rw [hv, ← he]
theorem tabMarksText {W : World} (h : laidMetH Tryd.prog Rows.fnExactMarksTextRow.laid W) : Tab10 W := by
  rw [MakeChecks.laidMetH_plain _ _ _ (by kernel_rfl)] at h
  obtain ⟨ps, ⟨g0, t0, cs0, f0, p0, q0, hg0, ht0, hv0, hd0, ⟨g1, t1, cs1, f1, p1, q1, hg1, ht1, hv1, hd1, ⟨g2, t2, cs2, f2, p2, q2, hg2, ht2, hv2, hd2, _, _⟩, _⟩, _⟩, _⟩ := h
  obtain rfl := Option.some.inj (gPow.symm.trans hg2)
  obtain rfl := Option.some.inj (gPowType.symm.trans ht2)
  have he : DataW.trod _ Tryd.prog W _ _ _ f2 88 _ = some (Lib.tabData .u64 Lib.pow10Tab, p2) := hd2
  exact tab10_read hv2 he
end Go.Proofs.YtfeffkjmjkddnaaDoor

/- What the row of CodeText lists: the table of bounds and the library's powers of ten. -/
import Derived.Test.YtnlcdfaojcnkpaaDoorBb
import Derived.Test.YtnlcdfaojcnkpaaDoorRows
import Derived.Test.YtnlcdfaojcnkpaaDoorCdT
namespace Go.Proofs.YtnlcdfaojcnkpaaDoor
open Go.ChangeShapes Go.WideShapes Go.ChangeAt Go.RowKit

theorem gPowType : (Tryd.prog.globals[3]?).map (·.type) = some 180 := by kernel_rfl
theorem cellsPow : Tryd.prog.cellsOf 180 = 20 := by kernel_rfl
theorem cellsU64 : Tryd.prog.cellsOf 165 = 1 := by kernel_rfl
theorem tab10_read {W : World} {fuel : Nat} {cs : Array Value} {p : List MemPlace} {enc : TypeId × Value → Unit} {sp : Nat → Bool} {held : Bool} (hv : W.var? Tryd.prog "internal/strconv.uint64pow10" = some cs)
    (hd : DataW.trod enc Tryd.prog W 0 sp held fuel 180 cs.toList = some (Lib.tabData .u64 Lib.pow10Tab, p)) : Tab10 W := by
  have he := Lib.cells_of_tab Tryd.underlying180 Tryd.underlying165 cellsU64 cellsPow hd
  refine ⟨var_lt gPow hv, ?_⟩
  unfold Lib.TabIs
  rw [hv, ← he]
end Go.Proofs.YtnlcdfaojcnkpaaDoor

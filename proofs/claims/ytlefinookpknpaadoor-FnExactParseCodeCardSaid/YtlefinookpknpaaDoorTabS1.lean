/- What the row of CodeText lists: the table of bounds and the library's powers of ten. -/
import Derived.Test.YtlefinookpknpaaDoorTabC
import Derived.Test.YtlefinookpknpaaDoorRows
import Derived.Test.YtlefinookpknpaaDoorCdT
namespace Go.Proofs.YtlefinookpknpaaDoor
open Go.ChangeShapes Go.WideShapes Go.ChangeAt Go.RowKit

theorem gPowType : (Tryd.prog.globals[6]?).map (·.type) = some 109 := by kernel_rfl
theorem cellsPow : Tryd.prog.cellsOf 109 = 20 := by kernel_rfl
theorem cellsU64 : Tryd.prog.cellsOf 83 = 1 := by kernel_rfl
theorem tab10_read {W : World} {fuel : Nat} {cs : Array Value} {p : List MemPlace} {enc : TypeId × Value → Unit} {sp : Nat → Bool} {held : Bool} (hv : W.var? Tryd.prog "internal/strconv.uint64pow10" = some cs)
    (hd : DataW.trod enc Tryd.prog W 0 sp held fuel 109 cs.toList = some (Lib.tabData .u64 Lib.pow10Tab, p)) : Tab10 W := by
  have he := Lib.cells_of_tab Tryd.underlying109 Tryd.underlying83 cellsU64 cellsPow hd
  refine ⟨var_lt gPow hv, ?_⟩
  unfold Lib.TabIs
  rw [hv, ← he]
end Go.Proofs.YtlefinookpknpaaDoor

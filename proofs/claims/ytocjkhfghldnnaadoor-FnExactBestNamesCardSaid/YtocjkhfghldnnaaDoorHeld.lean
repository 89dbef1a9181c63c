/- Elements held. -/
import Derived.Test.YtocjkhfghldnnaaDoorMark
import Derived.RegionTactic
import Derived.Deep.RegionHeld3
namespace Go.Proofs.YtocjkhfghldnnaaDoor
open Go.ChangeShapes Go.WideShapes Go.ChangeAt Go.RowKit
set_option linter.unusedVariables false

end Go.Proofs.YtocjkhfghldnnaaDoor

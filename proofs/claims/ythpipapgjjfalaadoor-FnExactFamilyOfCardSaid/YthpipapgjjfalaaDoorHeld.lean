/- Elements held. -/
import Derived.Test.YthpipapgjjfalaaDoorMark
import Derived.RegionTactic
import Derived.Deep.RegionHeld3
namespace Go.Proofs.YthpipapgjjfalaaDoor
open Go.ChangeShapes Go.WideShapes Go.ChangeAt Go.RowKit
set_option linter.unusedVariables false

end Go.Proofs.YthpipapgjjfalaaDoor

/- CleanItems in the model. CleanItems of the program (HiCl), under its older name. -/
import Derived.Test.YtnlcdfaojcnkpaaDoorBe
import Derived.Test.YtnlcdfaojcnkpaaDoorHiCl
namespace Go.Proofs.YtnlcdfaojcnkpaaDoor
open Go.ChangeShapes Go.WideShapes Go.ChangeAt Go.RowKit Go.PlainAid
set_option linter.unusedVariables false

end Go.Proofs.YtnlcdfaojcnkpaaDoor

namespace Go.Proofs.YtnlcdfaojcnkpaaDoor
end Go.Proofs.YtnlcdfaojcnkpaaDoor

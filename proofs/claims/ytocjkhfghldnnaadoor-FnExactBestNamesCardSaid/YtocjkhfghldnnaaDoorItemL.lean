/- Valid lists, in the model and in the program. -/
import Derived.Test.YtocjkhfghldnnaaDoorItemG
namespace Go.Proofs.YtocjkhfghldnnaaDoor
open Go.ChangeShapes Go.WideShapes Go.ChangeAt Go.RowKit
set_option linter.unusedVariables false

structure ListOk (xs : List Im) : Prop where
  len : xs.length ≤ 14
  each : ∀ i, i < xs.length → ItOk (it xs i).ns (it xs i).ms
end Go.Proofs.YtocjkhfghldnnaaDoor

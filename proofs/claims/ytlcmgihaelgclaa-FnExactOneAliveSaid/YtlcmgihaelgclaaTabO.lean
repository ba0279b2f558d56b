/- MiddleAge of the model: what the calls return. -/
import Derived.Test.YtlcmgihaelgclaaTabN
namespace Go.Proofs.Ytlcmgihaelgclaa
open Go.ChangeShapes Go.WideShapes Go.ChangeAt Go.RowKit
set_option linter.unusedVariables false

end Go.Proofs.Ytlcmgihaelgclaa

/- The exact law on MakeTable: the program answers as its model, what it hands over is its own. -/
import Derived.Test.YtlcmgihaelgclaaGreatMakeL
namespace Go.Proofs.YtlcmgihaelgclaaGreat
open Go.ChangeShapes Go.WideShapes Go.ChangeAt Go.RowKit
set_option linter.unusedVariables false

end Go.Proofs.YtlcmgihaelgclaaGreat

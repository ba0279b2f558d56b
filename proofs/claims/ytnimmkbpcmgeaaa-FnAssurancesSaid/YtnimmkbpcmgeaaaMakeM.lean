/- The exact law on MakeTable: the program answers as its model, what it hands over is its own. -/
import Derived.Test.YtnimmkbpcmgeaaaMakeL
namespace Go.Proofs.Ytnimmkbpcmgeaaa
open Go.ChangeShapes Go.WideShapes Go.ChangeAt Go.RowKit
set_option linter.unusedVariables false

end Go.Proofs.Ytnimmkbpcmgeaaa

/- The laws' sum of a list. -/
import Derived.Test.YtnimmkbpcmgeaaaSum
namespace Go.Proofs.Ytnimmkbpcmgeaaa
open Go.ChangeShapes Go.WideShapes Go.ChangeAt Go.RowKit
set_option linter.unusedVariables false

end Go.Proofs.Ytnimmkbpcmgeaaa

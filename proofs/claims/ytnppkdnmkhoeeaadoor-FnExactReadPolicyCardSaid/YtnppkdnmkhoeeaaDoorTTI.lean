/- TableText of the program: what the calls return. -/
import Derived.Test.YtnppkdnmkhoeeaaDoorNumT
namespace Go.Proofs.YtnppkdnmkhoeeaaDoor
open Go.ChangeShapes Go.WideShapes Go.ChangeAt Go.RowKit
set_option linter.unusedVariables false
set_option maxRecDepth 100000

end Go.Proofs.YtnppkdnmkhoeeaaDoor

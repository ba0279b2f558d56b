/- SurvivalOf of the program: what the calls return. -/
import Derived.Test.YtmcagpcldjopjaaTabG
namespace Go.Proofs.Ytmcagpcldjopjaa
open Go.ChangeShapes Go.WideShapes Go.ChangeAt Go.RowKit
set_option linter.unusedVariables false

end Go.Proofs.Ytmcagpcldjopjaa

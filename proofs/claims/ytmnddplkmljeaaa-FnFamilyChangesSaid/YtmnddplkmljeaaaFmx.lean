/- Families: codes of changes and ends. (Written by wip/gen/fmw.py.) -/
import Derived.Test.YtmnddplkmljeaaaFmb
namespace Go.Proofs.Ytmnddplkmljeaaa
open Go.ChangeShapes Go.WideShapes Go.ChangeAt Go.RowKit
set_option linter.unusedVariables false

/-- the code of the next change, out of the arguments' code and the month -/
def nxE (E V : Int) : Int := if E = 0 then (if V = 36000 then 4 else 0) else E

def mzE (b : Bool) : Int := if b = true then 0 else 3

/-- the code of the end of all pensions -/
def enE (B : Bool) (v l V : Int) : Int := if B = true then (if v ≠ -1 ∧ l = -1 then 4 else mzE (mthB V)) else 1

/-- the code of a new marriage -/
def rmE (E : Int) (g : Bool) : Int := if E = 0 then (if g = true then 0 else 5) else E

end Go.Proofs.Ytmnddplkmljeaaa

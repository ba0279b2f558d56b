/- DivideDown, DivideUp and PerMille of the program and of its model: what each call returns, one Lean function for both. -/
import Derived.Test.YtmcagpcldjopjaaNums
namespace Go.Proofs.Ytmcagpcldjopjaa
open Go.ChangeShapes Go.WideShapes Go.ChangeAt Go.RowKit
set_option linter.unusedVariables false

def ddB (a b : Int) : Bool := monB a && inB b 1 1000000000

def ddV (a b : Int) : Int := if ddB a b then a / b else 0

def ddE (a b : Int) : Int := if ddB a b then 0 else 2

def duV (a b : Int) : Int := if ddB a b then -(-a / b) else 0

def pmB (a r : Int) : Bool := monB a && inB r 0 1000

def pmV (a r : Int) : Int := if pmB a r then a * r / 1000 else 0

def pmE (a r : Int) : Int := if pmB a r then 0 else 2

theorem ddB_iff (a b : Int) : ddB a b = true ↔ (-1000000000000 ≤ a ∧ a ≤ 1000000000000) ∧ (1 ≤ b ∧ b ≤ 1000000000) := by
  unfold ddB; rw [Bool.and_eq_true, monB_iff, inB_iff]

theorem pmB_iff (a r : Int) : pmB a r = true ↔ (-1000000000000 ≤ a ∧ a ≤ 1000000000000) ∧ (0 ≤ r ∧ r ≤ 1000) := by
  unfold pmB; rw [Bool.and_eq_true, monB_iff, inB_iff]

end Go.Proofs.Ytmcagpcldjopjaa

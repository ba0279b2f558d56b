/- strconv.AppendInt onto a slice of bytes of the call's own, also one that a conversion of a string made. -/
import Derived.Test.YtnppkdnmkhoeeaaDoorBrow
import Derived.Test.YtnppkdnmkhoeeaaDoorTabTs
import Derived.Lib.ItoaMem
import Derived.Deep.RegionWith
namespace Go.Proofs.YtnppkdnmkhoeeaaDoor
open Go.ChangeShapes Go.WideShapes Go.ChangeAt Go.RowKit
set_option linter.unusedVariables false

/-- what an append of the text m onto l leaves -/
def AppM (base : Nat) (l m : List UInt8) (w : World) (e : Ending) (w' : World) : Prop := ∃ v', e = .returned v' ∧ OwnM base w' v' (l ++ m) ∧ Below base w w'

theorem dec_len100 (u : Nat) (h : u < 100) : (Lib.decDigits u).length ≤ 20 := by
  rw [Lib.decDigits_length]
  by_cases h10 : u < 10
  · rw [Lib.nDigits_small h10]; omega
  · rw [Lib.nDigits_big h10, Lib.nDigits_small (show u / 10 < 10 by omega)]; omega

theorem Tab.stepB {w w' : World} {B : Nat} (h : Tab w) (hg : 0 < B) (hb : Below B w w') : Tab w' := var?_below hb gTab hg h

end Go.Proofs.YtnppkdnmkhoeeaaDoor

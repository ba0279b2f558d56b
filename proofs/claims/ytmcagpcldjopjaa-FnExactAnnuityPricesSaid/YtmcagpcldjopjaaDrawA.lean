/- The draws of chapter 1's numbers: two integers each, out of whatever code. -/
import Derived.Test.YtmcagpcldjopjaaDraw
namespace Go.Proofs.Ytmcagpcldjopjaa
open Go.ChangeShapes Go.WideShapes Go.ChangeAt Go.RowKit
set_option linter.unusedVariables false

theorem ready_of {a : Option Addr} {l c : Nat} {z : List Int} {w w1 : World} (hr : IsRow .u8 w a l c z) (hs : IsSrc w.heap.size a l c w1) (hb : Below w.heap.size w w1) : Ready w.heap.size a l c z w1 :=
  ⟨hs, hr.below hb hr.apart, hr.apart⟩

def TwoPost (w : World) (e : Ending) (w' : World) : Prop := ∃ x y, e = .returned (.tuple #[.int .i64 x, .int .i64 y]) ∧ Below w.heap.size w w'

def OnePost (w : World) (e : Ending) (w' : World) : Prop := ∃ x, e = .returned (.int .i64 x) ∧ Below w.heap.size w w'

end Go.Proofs.Ytmcagpcldjopjaa

/- Two lives: the chances that the program reckons. (Written by wip/gen/jpc.py.) -/
import Derived.Test.YtlcmgihaelgclaaGreatJpi
import Derived.Test.YtlcmgihaelgclaaGreatExpI
import Derived.Deep.RegionHeld3
namespace Go.Proofs.YtlcmgihaelgclaaGreat
open Go.ChangeShapes Go.WideShapes Go.ChangeAt Go.RowKit
set_option linter.unusedVariables false
set_option linter.unusedSimpArgs false
set_option maxRecDepth 100000

/-- the chances of each, where there is no error -/
def chU (E v : Int) : Int := if E = 0 then v else 0

def ChPost (A B C D E : Int) (w : World) (e : Ending) (w' : World) : Prop := e = .returned (.tuple #[.agg #[.int .i64 (chU E A), .int .i64 (chU E B), .int .i64 (chU E C), .int .i64 (chU E D)], .int .i64 E]) ∧ Below w.heap.size w w'

theorem set4_b {w w1 : World} {B : Nat} (h : Below w.heap.size w w1) (hB : w.heap.size ≤ B) (x0 x1 x2 x3 : Value) : Below w.heap.size w ((((w1.setCell ⟨B, 0, none⟩ x0).setCell ⟨B, 1, none⟩ x1).setCell ⟨B, 2, none⟩ x2).setCell ⟨B, 3, none⟩ x3) :=
  (((h.setCell (p := ⟨B, 0, none⟩) hB _).setCell (p := ⟨B, 1, none⟩) hB _).setCell (p := ⟨B, 2, none⟩) hB _).setCell (p := ⟨B, 3, none⟩) hB _

end Go.Proofs.YtlcmgihaelgclaaGreat

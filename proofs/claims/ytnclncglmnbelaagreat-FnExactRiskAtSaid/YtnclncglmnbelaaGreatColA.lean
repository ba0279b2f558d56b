/- ColumnsAt of the model. -/
import Derived.Test.YtnclncglmnbelaaGreatCol
namespace Go.Proofs.YtnclncglmnbelaaGreat
open Go.ChangeShapes Go.WideShapes Go.ChangeAt Go.RowKit
set_option linter.unusedVariables false
set_option maxRecDepth 100000

/-- what ColumnsAt answers -/
def atV (r f : Int) (xs : List Int) (x : Int) (F : Nat → Int) : Int := if coE r f xs x = 0 then F (x - f).toNat else 0

theorem ret_at {a b c d e a' b' c' d' e' : Int} (h1 : a = a') (h2 : b = b') (h3 : c = c') (h4 : d = d') (h5 : e = e') :
    Ending.returned (.tuple #[.agg #[.int .i64 a, .int .i64 b, .int .i64 c, .int .i64 d], .int .i64 e]) = .returned (.tuple #[.agg #[.int .i64 a', .int .i64 b', .int .i64 c', .int .i64 d'], .int .i64 e']) := by
  rw [h1, h2, h3, h4, h5]

/-- a block of four cells -/
def Q4 (w : World) (B : Nat) (a b c d : Int) : Prop := w.heap[B]? = some (.cells #[.int .i64 a, .int .i64 b, .int .i64 c, .int .i64 d] 70 (0, 0))

def atPost (r f : Int) (xs : List Int) (x : Int) (w : World) (e : Ending) (w' : World) : Prop :=
  e = .returned (.tuple #[.agg #[.int .i64 (atV r f xs x (cD r xs)), .int .i64 (atV r f xs x (cN r xs)), .int .i64 (atV r f xs x (cC r xs)), .int .i64 (atV r f xs x (cM r xs))], .int .i64 (coE r f xs x)]) ∧ Below w.heap.size w w'

end Go.Proofs.YtnclncglmnbelaaGreat

/- The exact law on SumOf: the program answers as its model, writes into no argument. -/
import Derived.Test.YtlcmgihaelgclaaSum
import Derived.Test.YtlcmgihaelgclaaOwn
namespace Go.Proofs.Ytlcmgihaelgclaa
open Go.ChangeShapes Go.WideShapes Go.ChangeAt Go.RowKit
set_option linter.unusedVariables false

theorem Ints.step {w w1 : World} {a : Option Addr} {l : Nat} {xs : List Int} (h : Ints w a l xs) (hb : Below w.heap.size w w1) : Ints w1 a l xs := h.below hb h.lt

theorem Blk.step {w w1 : World} {B : Nat} {ys : List Int} (h : Blk w B ys) (hb : Below w.heap.size w w1) : Blk w1 B ys := h.below hb h.lt

end Go.Proofs.Ytlcmgihaelgclaa

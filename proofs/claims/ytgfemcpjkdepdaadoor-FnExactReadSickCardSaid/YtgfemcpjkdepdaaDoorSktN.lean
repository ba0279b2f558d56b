/- Numbers of a sickness table. (Written by wip/gen/sictx.py.) -/
import Derived.Test.YtgfemcpjkdepdaaDoorSib
import Derived.Test.YtgfemcpjkdepdaaDoorTabTx
namespace Go.Proofs.YtgfemcpjkdepdaaDoor
open Go.ChangeShapes Go.WideShapes Go.ChangeAt Go.RowKit
set_option linter.unusedVariables false
set_option linter.unusedSimpArgs false
set_option maxRecDepth 100000

theorem STab.nums {f : Int} {xs : List Int} (h : STab f xs) : Nums (f :: xs) := by
  intro x hx
  rcases List.mem_cons.1 hx with rfl | hx
  · have := h.1; omega
  · have := h.2.2 x hx; omega

end Go.Proofs.YtgfemcpjkdepdaaDoor

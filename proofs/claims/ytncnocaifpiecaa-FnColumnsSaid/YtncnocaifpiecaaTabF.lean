/- LivesAt, DeathsAt and SurvivalOf of the program: what the calls return. -/
import Derived.Test.YtncnocaifpiecaaTabE
namespace Go.Proofs.Ytncnocaifpiecaa
open Go.ChangeShapes Go.WideShapes Go.ChangeAt Go.RowKit
set_option linter.unusedVariables false

theorem index152 (Zs : Array Value) (x : Int) (v : Int) (x0 : 0 ≤ x) (x1 : x < 152) (h : Zs[x.toNat]? = some (.int .i64 v)) (W : World) :
    (Instr.index 82 (.agg Zs) (.int .i64 x)).run Try.prog W = .ok (.int .i64 v) W := by
  simp [Instr.index, run_underlying und152, asIntOf, x0, x1, go_sem, h]

/-- the array is laid into a new block -/
theorem Arr.laid {Zs : Array Value} {ys : List Int} (h : Arr Zs ys) {w : World} {ops : Array Oper} {rest : List Oper} {o : Oper} {a : Act} {Q : Exit → Act → World → Prop} (hgd : o.guard = none) (x y : Operand) (ho : o.op = .store 82 x y)
    (hx : a.eval x = .pointer (some ⟨w.heap.size, 0, none⟩)) (hy : a.eval y = .agg Zs) (hk : wpList Try.prog ops Q rest (a.put o.dst undef) (w.alloc (.cells Zs 82))) :
    wpList Try.prog ops Q (o :: rest) a (w.alloc (.cells Try.zeroCells82 82)) :=
  wpList_store_row hgd 82 x y ho w.heap.size Zs hx hy 82 _ (heap_alloc_new _ _) h.info h.old h.one (by rw [World.setRow_alloc_new]; exact hk)

end Go.Proofs.Ytncnocaifpiecaa

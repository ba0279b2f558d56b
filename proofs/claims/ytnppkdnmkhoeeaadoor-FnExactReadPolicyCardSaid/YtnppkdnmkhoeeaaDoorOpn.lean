/- Arguments that are a basis or a policy, opened to their cells. -/
import Derived.Test.YtnppkdnmkhoeeaaDoorBase
import Derived.Lib.SmallJoins
import Derived.ChangeArms
namespace Go.Proofs.YtnppkdnmkhoeeaaDoor
open Go.ChangeShapes Go.WideShapes Go.ChangeAt Go.RowKit
set_option linter.unusedVariables false
set_option maxRecDepth 100000

section
variable {H : Type} {enc : TypeId × Value → H} {w : World} {base : Nat} {held : Bool}

/-- a cell that reads as an integer -/
theorem int_cell {n : Nat} {x : DataW H × List MemPlace} {v : Value} (h : DataW.trod enc Tryd.prog w base (fun _ => true) held n 2 [v] = some x) : ∃ k : Int, v = .int .i64 k ∧ (Lit.int .i64 k).wf = true := by
  obtain ⟨k, hcs, _, hw⟩ := DataW.trod_int Tryd.underlying2 h
  exact ⟨k, by simpa using hcs, hw⟩

theorem open_pol {r : Reach} {b0 : Nat} {v : Value} {d : DataW H} {p : List MemPlace} (hv : Value.okWide Tryd.prog w r b0 23 v) (h : DataW.Trod enc Tryd.prog w base (fun _ => true) held 23 v d p) :
    ∃ k x n s u : Int, v = .agg #[.int .i64 k, .int .i64 x, .int .i64 n, .int .i64 s, .int .i64 u] ∧ (Lit.int .i64 k).wf = true ∧ (Lit.int .i64 x).wf = true ∧ (Lit.int .i64 n).wf = true ∧ (Lit.int .i64 s).wf = true ∧ (Lit.int .i64 u).wf = true := by
  obtain ⟨cs, rfl, hsz⟩ := okWide_struct Tryd.underlying23 hv
  have hC : Tryd.prog.cellsOf 23 = 5 := by kernel_rfl
  have h1 : Tryd.prog.cellsOf 2 = 1 := by kernel_rfl
  obtain ⟨l⟩ := cs
  match l, hsz.trans hC with
  | [c0, c1, c2, c3, c4], _ =>
    obtain ⟨fuel, hf⟩ := h
    obtain ⟨xs, n, _, _, _, hlen, hg⟩ := DataW.trod_struct Tryd.underlying23 hf
    match xs, hlen with
    | [y0, y1, y2, y3, y4], _ =>
      have g0 := hg 0 _ rfl
      have g1 := hg 1 _ rfl
      have g2 := hg 2 _ rfl
      have g3 := hg 3 _ rfl
      have g4 := hg 4 _ rfl
      simp [Value.cells, h1] at g0 g1 g2 g3 g4
      obtain ⟨k, rfl, w0⟩ := int_cell g0
      obtain ⟨x, rfl, w1⟩ := int_cell g1
      obtain ⟨n, rfl, w2⟩ := int_cell g2
      obtain ⟨s, rfl, w3⟩ := int_cell g3
      obtain ⟨u, rfl, w4⟩ := int_cell g4
      exact ⟨k, x, n, s, u, rfl, w0, w1, w2, w3, w4⟩

end

end Go.Proofs.YtnppkdnmkhoeeaaDoor

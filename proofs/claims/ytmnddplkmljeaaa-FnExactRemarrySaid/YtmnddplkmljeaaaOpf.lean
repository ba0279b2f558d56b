/- Arguments that are a family, opened to their cells. -/
import Derived.Test.YtmnddplkmljeaaaBase
import Derived.Lib.SmallJoins
import Derived.ChangeArms
namespace Go.Proofs.Ytmnddplkmljeaaa
open Go.ChangeShapes Go.WideShapes Go.ChangeAt Go.RowKit
set_option linter.unusedVariables false
set_option maxRecDepth 100000

section
variable {H : Type} {enc : TypeId × Value → H} {w : World} {base : Nat} {held : Bool}

theorem row_cellF {n : Nat} {x : DataW H × List MemPlace} {v : Value} (h : DataW.trod enc Try.prog w base (fun _ => true) held n 24 [v] = some x) : ∃ (a : Option Addr) (l c : Nat) (zs : List Int), v = .slice a l c ∧ IsRow .i64 w a l c zs := by
  rcases open_ints Try.underlying24 Try.underlying2 (by kernel_rfl) h with ⟨hcs, _⟩ | ⟨x, l, c, zs, hcs, _, hl, hm, hz, _, hcell, hwz⟩
  · obtain rfl : v = .slice none 0 0 := by simpa using hcs
    exact ⟨none, 0, 0, [], rfl, .inl ⟨rfl, rfl, rfl, rfl⟩⟩
  · obtain rfl : v = .slice (some x) l c := by simpa using hcs
    exact ⟨some x, l, c, zs, rfl, .inr ⟨_, rfl, hl, hm, by simpa using hz, hcell, hwz⟩⟩

theorem int_cellF {n : Nat} {x : DataW H × List MemPlace} {v : Value} (h : DataW.trod enc Try.prog w base (fun _ => true) held n 2 [v] = some x) : ∃ k : Int, v = .int .i64 k ∧ (Lit.int .i64 k).wf = true := by
  obtain ⟨k, hcs, _, hw⟩ := DataW.trod_int Try.underlying2 h
  exact ⟨k, by simpa using hcs, hw⟩

theorem open_fam {r : Reach} {b0 : Nat} {v : Value} {d : DataW H} {p : List MemPlace} (hv : Value.okWide Try.prog w r b0 48 v) (h : DataW.Trod enc Try.prog w base (fun _ => true) held 48 v d p) :
    ∃ (k x n s : Int) (a : Option Addr) (l c : Nat) (zs : List Int), v = .agg #[.int .i64 k, .int .i64 x, .int .i64 n, .int .i64 s, .slice a l c] ∧ (Lit.int .i64 k).wf = true ∧ (Lit.int .i64 x).wf = true ∧ (Lit.int .i64 n).wf = true ∧ (Lit.int .i64 s).wf = true ∧ IsRow .i64 w a l c zs := by
  obtain ⟨cs, rfl, hsz⟩ := okWide_struct Try.underlying48 hv
  have hC : Try.prog.cellsOf 48 = 5 := by kernel_rfl
  have h1 : Try.prog.cellsOf 2 = 1 := by kernel_rfl
  have h3 : Try.prog.cellsOf 24 = 1 := by kernel_rfl
  obtain ⟨l⟩ := cs
  match l, hsz.trans hC with
  | [c0, c1, c2, c3, c4], _ =>
    obtain ⟨fuel, hf⟩ := h
    obtain ⟨xs, n, _, _, _, hlen, hg⟩ := DataW.trod_struct Try.underlying48 hf
    match xs, hlen with
    | [y0, y1, y2, y3, y4], _ =>
      have g0 := hg 0 _ rfl
      have g1 := hg 1 _ rfl
      have g2 := hg 2 _ rfl
      have g3 := hg 3 _ rfl
      have g4 := hg 4 _ rfl
      simp [Value.cells, h1, h3] at g0 g1 g2 g3 g4
      obtain ⟨k, rfl, w0⟩ := int_cellF g0
      obtain ⟨x, rfl, w1⟩ := int_cellF g1
      obtain ⟨n, rfl, w2⟩ := int_cellF g2
      obtain ⟨s, rfl, w3⟩ := int_cellF g3
      obtain ⟨a, l, c, zs, rfl, w4⟩ := row_cellF g4
      exact ⟨k, x, n, s, a, l, c, zs, rfl, w0, w1, w2, w3, w4⟩

end

end Go.Proofs.Ytmnddplkmljeaaa

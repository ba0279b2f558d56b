/- Merged: Opc. -/
import Derived.Test.YtpphiekbhikadaaDoorTc1
import Derived.Lib.SmallJoins
import Derived.ChangeArms

/- Arguments that are a class, opened to their cells. -/
namespace Go.Proofs.YtpphiekbhikadaaDoor
open Go.ChangeShapes Go.WideShapes Go.ChangeAt Go.RowKit
set_option linter.unusedVariables false
set_option maxRecDepth 100000

section
variable {H : Type} {enc : TypeId × Value → H} {w : World} {base : Nat} {held : Bool}

theorem row_cell {n : Nat} {x : DataW H × List MemPlace} {v : Value} (h : DataW.trod enc Tryd.prog w base (fun _ => true) held n 24 [v] = some x) : ∃ (a : Option Addr) (l c : Nat) (zs : List Int), v = .slice a l c ∧ IsRow .i64 w a l c zs := by
  rcases open_ints Tryd.underlying24 Tryd.underlying2 (by kernel_rfl) h with ⟨hcs, _⟩ | ⟨x, l, c, zs, hcs, _, hl, hm, hz, _, hcell, hwz⟩
  · obtain rfl : v = .slice none 0 0 := by simpa using hcs
    exact ⟨none, 0, 0, [], rfl, .inl ⟨rfl, rfl, rfl, rfl⟩⟩
  · obtain rfl : v = .slice (some x) l c := by simpa using hcs
    exact ⟨some x, l, c, zs, rfl, .inr ⟨_, rfl, hl, hm, by simpa using hz, hcell, hwz⟩⟩

theorem open_cls {r : Reach} {b0 : Nat} {v : Value} {d : DataW H} {p : List MemPlace} (hv : Value.okWide Tryd.prog w r b0 40 v) (h : DataW.Trod enc Tryd.prog w base (fun _ => true) held 40 v d p) :
    ∃ (a : Option Addr) (l c : Nat) (zs : List Int) (b : Option Addr) (m e : Nat) (ys : List Int) (ch : Int), v = .agg #[.slice a l c, .slice b m e, .int .i64 ch] ∧ (Lit.int .i64 ch).wf = true ∧ IsRow .i64 w a l c zs ∧ IsRow .i64 w b m e ys := by
  obtain ⟨cs, rfl, hsz⟩ := okWide_struct Tryd.underlying40 hv
  have hC : Tryd.prog.cellsOf 40 = 3 := by kernel_rfl
  have h1 : Tryd.prog.cellsOf 2 = 1 := by kernel_rfl
  have h3 : Tryd.prog.cellsOf 24 = 1 := by kernel_rfl
  obtain ⟨l⟩ := cs
  match l, hsz.trans hC with
  | [c0, c1, c2], _ =>
    obtain ⟨fuel, hf⟩ := h
    obtain ⟨xs, n, _, _, _, hlen, hg⟩ := DataW.trod_struct Tryd.underlying40 hf
    match xs, hlen with
    | [y0, y1, y2], _ =>
      have g0 := hg 0 _ rfl
      have g1 := hg 1 _ rfl
      have g2 := hg 2 _ rfl
      simp [Value.cells, h1, h3] at g0 g1 g2
      obtain ⟨a, l, c, zs, rfl, w0⟩ := row_cell g0
      obtain ⟨b, m, e, ys, rfl, w1⟩ := row_cell g1
      obtain ⟨k, hcs, _, hw⟩ := DataW.trod_int Tryd.underlying2 g2
      obtain rfl : c2 = .int .i64 k := by simpa using hcs
      exact ⟨a, l, c, zs, b, m, e, ys, k, rfl, hw, w0, w1⟩

end

end Go.Proofs.YtpphiekbhikadaaDoor

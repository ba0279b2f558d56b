/- Merged: Opn. -/
import Derived.Test.YtdlfofdibooidaaGreatLa1
import Derived.Lib.SmallJoins
import Derived.ChangeArms

/- Arguments that are a basis or a policy, opened to their cells. -/
namespace Go.Proofs.YtdlfofdibooidaaGreat
open Go.ChangeShapes Go.WideShapes Go.ChangeAt Go.RowKit
set_option linter.unusedVariables false
set_option maxRecDepth 100000

section
variable {H : Type} {enc : TypeId × Value → H} {w : World} {base : Nat} {held : Bool}

/-- a cell that reads as an integer -/
theorem int_cell {n : Nat} {x : DataW H × List MemPlace} {v : Value} (h : DataW.trod enc Tryz.prog w base (fun _ => true) held n 2 [v] = some x) : ∃ k : Int, v = .int .i64 k ∧ (Lit.int .i64 k).wf = true := by
  obtain ⟨k, hcs, _, hw⟩ := DataW.trod_int Tryz.underlying2 h
  exact ⟨k, by simpa using hcs, hw⟩

theorem open_pol {r : Reach} {b0 : Nat} {v : Value} {d : DataW H} {p : List MemPlace} (hv : Value.okWide Tryz.prog w r b0 44 v) (h : DataW.Trod enc Tryz.prog w base (fun _ => true) held 44 v d p) :
    ∃ k x n s u : Int, v = .agg #[.int .i64 k, .int .i64 x, .int .i64 n, .int .i64 s, .int .i64 u] ∧ (Lit.int .i64 k).wf = true ∧ (Lit.int .i64 x).wf = true ∧ (Lit.int .i64 n).wf = true ∧ (Lit.int .i64 s).wf = true ∧ (Lit.int .i64 u).wf = true := by
  obtain ⟨cs, rfl, hsz⟩ := okWide_struct Tryz.underlying44 hv
  have hC : Tryz.prog.cellsOf 44 = 5 := by kernel_rfl
  have h1 : Tryz.prog.cellsOf 2 = 1 := by kernel_rfl
  obtain ⟨l⟩ := cs
  match l, hsz.trans hC with
  | [c0, c1, c2, c3, c4], _ =>
    obtain ⟨fuel, hf⟩ := h
    obtain ⟨xs, n, _, _, _, hlen, hg⟩ := DataW.trod_struct Tryz.underlying44 hf
    match xs, hlen with
    | [y0, y1, y2, y3, y4], _ =>
      have g0 := hg 0 _ rfl
      have g1 := hg 1 _ rfl
      have g2 := hg 2 _ rfl
      have g3 := hg 3 _ rfl
      have g4 := hg 4 _ rfl
      simp [Value.cells, h1] at g0 g1 g2 g3 g4
      obtain ⟨k, rfl, w0⟩ := int_cell g0
      obtain ⟨x, rfl, w1⟩ := int_cell g1
      obtain ⟨n, rfl, w2⟩ := int_cell g2
      obtain ⟨s, rfl, w3⟩ := int_cell g3
      obtain ⟨u, rfl, w4⟩ := int_cell g4
      exact ⟨k, x, n, s, u, rfl, w0, w1, w2, w3, w4⟩

theorem open_bas {r : Reach} {b0 : Nat} {v : Value} {d : DataW H} {p : List MemPlace} (hv : Value.okWide Tryz.prog w r b0 43 v) (h : DataW.Trod enc Tryz.prog w base (fun _ => true) held 43 v d p) :
    ∃ (f : Int) (a : Option Addr) (l c : Nat) (i : Int) (zs : List Int), v = .agg #[.int .i64 f, .slice a l c, .int .i64 i] ∧ (Lit.int .i64 f).wf = true ∧ (Lit.int .i64 i).wf = true ∧ IsRow .i64 w a l c zs := by
  obtain ⟨cs, rfl, hsz⟩ := okWide_struct Tryz.underlying43 hv
  have hC : Tryz.prog.cellsOf 43 = 3 := by kernel_rfl
  have h1 : Tryz.prog.cellsOf 2 = 1 := by kernel_rfl
  have h2 : Tryz.prog.cellsOf 41 = 2 := by kernel_rfl
  have h3 : Tryz.prog.cellsOf 24 = 1 := by kernel_rfl
  obtain ⟨l⟩ := cs
  match l, hsz.trans hC with
  | [c0, c1, c2], _ =>
    obtain ⟨fuel, hf⟩ := h
    obtain ⟨xs, n, _, _, _, hlen, hg⟩ := DataW.trod_struct Tryz.underlying43 hf
    match xs, hlen with
    | [y0, y1], _ =>
      have g0 := hg 0 _ rfl
      have g1 := hg 1 _ rfl
      simp [Value.cells, h1, h2] at g0 g1
      obtain ⟨i, rfl, w1⟩ := int_cell g1
      obtain ⟨zs, m, _, _, _, hlen, hk⟩ := DataW.trod_struct Tryz.underlying41 g0
      match zs, hlen with
      | [z0, z1], _ =>
        have k0 := hk 0 _ rfl
        have k1 := hk 1 _ rfl
        simp [h1, h3] at k0 k1
        obtain ⟨f, rfl, w0⟩ := int_cell k0
        rcases open_ints Tryz.underlying24 Tryz.underlying2 (by kernel_rfl) k1 with ⟨hcs, _⟩ | ⟨x, l, c, zs, hcs, _, hl, hm, hz, _, hcell, hwz⟩
        · obtain rfl : c1 = .slice none 0 0 := by simpa using hcs
          exact ⟨f, none, 0, 0, i, [], rfl, w0, w1, .inl ⟨rfl, rfl, rfl, rfl⟩⟩
        · obtain rfl : c1 = .slice (some x) l c := by simpa using hcs
          exact ⟨f, some x, l, c, i, zs, rfl, w0, w1, .inr ⟨_, rfl, hl, hm, by simpa using hz, hcell, hwz⟩⟩

end

end Go.Proofs.YtdlfofdibooidaaGreat

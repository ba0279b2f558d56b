/- MakeTable of the program: what the calls return. -/
import Derived.Test.YtnppkdnmkhoeeaaDoorMake
namespace Go.Proofs.YtnppkdnmkhoeeaaDoor
open Go.ChangeShapes Go.WideShapes Go.ChangeAt Go.RowKit
set_option linter.unusedVariables false
set_option maxRecDepth 100000

/-- whether a table is made of these -/
def mkB (f L : Int) (rs : List Int) : Bool := inB f 0 100 && inB L 1 1000000 && (decide (rs.length ≤ 118) && decide ((rs.length : Int) ≤ 149 - f)) && rtsB rs

theorem mkB_iff (f L : Int) (rs : List Int) : mkB f L rs = true ↔ (0 ≤ f ∧ f ≤ 100) ∧ (1 ≤ L ∧ L ≤ 1000000) ∧ (rs.length ≤ 118 ∧ (rs.length : Int) ≤ 149 - f) ∧ ∀ r ∈ rs, 0 ≤ r ∧ r ≤ 1000 := by
  unfold mkB
  simp only [Bool.and_eq_true, inB_iff, rtsB_iff, decide_eq_true_iff]
  constructor
  · rintro ⟨⟨⟨a, b⟩, c⟩, d⟩; exact ⟨a, b, c, d⟩
  · rintro ⟨a, b, c, d⟩; exact ⟨⟨⟨a, b⟩, c⟩, d⟩

theorem mkB_no {f L : Int} {rs : List Int} (h : mkB f L rs = true → False) : mkB f L rs = false := by
  rw [Bool.eq_false_iff]; exact h

def MkPost (f L : Int) (rs : List Int) (w : World) (e : Ending) (w' : World) : Prop :=
  (mkB f L rs = true ∧ ∃ v, e = .returned (.tuple #[.agg #[.int .i64 f, v], .int .i64 0]) ∧ Made w (mkL L rs) v w') ∨
  (mkB f L rs = false ∧ e = .returned (.tuple #[.agg #[.int .i64 0, .slice none 0 0], .int .i64 2]) ∧ Below w.heap.size w w')

theorem MkPost.bad {f L : Int} {rs : List Int} {w w' : World} (h : mkB f L rs = false) (hb : Below w.heap.size w w') : MkPost f L rs w (.returned (.tuple #[.agg #[.int .i64 0, .slice none 0 0], .int .i64 2])) w' := .inr ⟨h, rfl, hb⟩

theorem two_set (w : World) (x y u v : Value) (T : TypeId) : (((w.alloc (.cells #[x, y] T)).setCell ⟨w.heap.size, 0, none⟩ u).setCell ⟨w.heap.size, 1, none⟩ v).cell? ⟨w.heap.size, 0, none⟩ = some u ∧ (((w.alloc (.cells #[x, y] T)).setCell ⟨w.heap.size, 0, none⟩ u).setCell ⟨w.heap.size, 1, none⟩ v).cell? ⟨w.heap.size, 1, none⟩ = some v := by
  constructor <;> go_simp

end Go.Proofs.YtnppkdnmkhoeeaaDoor

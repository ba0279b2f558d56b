/- The exact law on MakeTable: the program answers as its model, what it hands over is its own. -/
import Derived.Test.YtnppkdnmkhoeeaaDoorMakeS
import Derived.Test.YtnppkdnmkhoeeaaDoorTabL
namespace Go.Proofs.YtnppkdnmkhoeeaaDoor
open Go.ChangeShapes Go.WideShapes Go.ChangeAt Go.RowKit
set_option linter.unusedVariables false
set_option maxRecDepth 100000

/-- what MakeTable hands over: its first age, its lives, its code -/
def mkF (f L : Int) (rs : List Int) : Int := if mkB f L rs = true then f else 0

def mkY (f L : Int) (rs : List Int) : List Int := if mkB f L rs = true then mkL L rs else []

def mkE (f L : Int) (rs : List Int) : Int := if mkB f L rs = true then 0 else 2

def TbPost (F : Int) (ys : List Int) (E : Int) (w : World) (e : Ending) (w' : World) : Prop :=
  ∃ a n c, e = .returned (.tuple #[.agg #[.int .i64 F, .slice a n c], .int .i64 E]) ∧ TbR w.heap.size w' a n ys ∧ Below w.heap.size w w'

theorem mk_tb {f L : Int} {rs : List Int} {w : World} {e : Ending} {w' : World} (h : MkPost f L rs w e w') : TbPost (mkF f L rs) (mkY f L rs) (mkE f L rs) w e w' := by
  rcases h with ⟨hm, v, rfl, g, c, rfl, hc, hg, hr, hb⟩ | ⟨hm, rfl, hb⟩
  · have hl := ((mkB_iff _ _ _).1 hm).2.2.1.1
    have hn := mkL_len rs L
    have e1 : mkY f L rs = mkL L rs := by simp [mkY, hm]
    refine ⟨some ⟨g, 0, none⟩, (mkL L rs).length, c, by simp [mkF, mkE, hm], ?_, hb⟩
    rw [e1]
    exact ⟨rfl, by omega, .inr ⟨g, 0, rfl, hg, hr.lt (by omega), hr⟩⟩
  · exact ⟨none, 0, 0, by simp [mkF, mkE, hm], ⟨by simp [mkY, hm], by omega, .inl ⟨rfl, rfl⟩⟩, hb⟩

theorem box3 {w w1 : World} {x y : Value} {T : TypeId} (hb : Below w.heap.size (w.alloc (.cells #[x, y] T)) w1) : Below w.heap.size w w1 := ((Below.refl w.heap.size w).alloc (Nat.le_refl _) _).trans hb

end Go.Proofs.YtnppkdnmkhoeeaaDoor

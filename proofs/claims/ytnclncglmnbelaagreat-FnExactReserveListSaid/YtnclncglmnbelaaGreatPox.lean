/- Policies: the boxes of a law on a basis and a policy. (Written by wip/gen/poy.py.) -/
import Derived.Test.YtnclncglmnbelaaGreatPoh
import Derived.Deep.RegionHeld3
namespace Go.Proofs.YtnclncglmnbelaaGreat
open Go.ChangeShapes Go.WideShapes Go.ChangeAt Go.RowKit
set_option linter.unusedVariables false
set_option maxRecDepth 100000

/-- the boxes of a law, and the copy with which the program is called -/
structure LX (w : World) (f : Int) (v : Value) (r k x n s u : Int) (X B l : Nat) (xs : List Int) (W : World) : Prop where
  bp : BP w f v r k x n s u W
  x : Bx W X [.int .i64 f, .slice (some ⟨B, 0, none⟩) l l, .int .i64 r]
  b : Blk W B xs

theorem LX.on {w : World} {f : Int} {v : Value} {r k x n s u : Int} {X B l : Nat} {xs : List Int} {W W' : World} (h : LX w f v r k x n s u X B l xs W) (hb : Below W.heap.size W W') : LX w f v r k x n s u X B l xs W' := ⟨h.bp.on hb, h.x.on hb, h.b.step hb⟩

theorem LX.drew {w : World} {f : Int} {v : Value} {r k x n s u : Int} {X B l : Nat} {xs : List Int} {W : World} (h : LX w f v r k x n s u X B l xs W) : LX w f v r k x n s u X B l xs W.drew := h.on (Below.drew (Below.refl _ _))

theorem lxP {w : World} {f : Int} {v : Value} {r k x n s u : Int} {X B l : Nat} {xs : List Int} {W : World} (h : LX w f v r k x n s u X B l xs W) :
    W.cell? ⟨X, 0, none⟩ = some (.int .i64 f) ∧ W.cell? ⟨X, 1, none⟩ = some (.slice (some ⟨B, 0, none⟩) l l) ∧ W.cell? ⟨X, 2, none⟩ = some (.int .i64 r) ∧ W.cell? ⟨w.heap.size + 1, 0, none⟩ = some (.int .i64 k) ∧ W.cell? ⟨w.heap.size + 1, 1, none⟩ = some (.int .i64 x) ∧ W.cell? ⟨w.heap.size + 1, 2, none⟩ = some (.int .i64 n) ∧ W.cell? ⟨w.heap.size + 1, 3, none⟩ = some (.int .i64 s) ∧ W.cell? ⟨w.heap.size + 1, 4, none⟩ = some (.int .i64 u) ∧ Hid (LX w f v r k x n s u X B l xs W) := by
  obtain ⟨c0, c1, c2⟩ := h.x.three
  exact ⟨c0, c1, c2, h.bp.p0, h.bp.p1, h.bp.p2, h.bp.p3, h.bp.p4, Lib.hid h⟩

theorem lxB {w : World} {f : Int} {v : Value} {r k x n s u : Int} {X B l : Nat} {xs : List Int} {W : World} (h : LX w f v r k x n s u X B l xs W) :
    W.cell? ⟨X, 0, none⟩ = some (.int .i64 f) ∧ W.cell? ⟨X, 1, none⟩ = some (.slice (some ⟨B, 0, none⟩) l l) ∧ W.cell? ⟨X, 2, none⟩ = some (.int .i64 r) ∧ W.cell? ⟨w.heap.size, 0, none⟩ = some (.int .i64 f) ∧ W.cell? ⟨w.heap.size, 1, none⟩ = some (v) ∧ W.cell? ⟨w.heap.size, 2, none⟩ = some (.int .i64 r) ∧ Hid (LX w f v r k x n s u X B l xs W) := by
  obtain ⟨c0, c1, c2⟩ := h.x.three
  exact ⟨c0, c1, c2, h.bp.b0, h.bp.b1, h.bp.b2, Lib.hid h⟩

end Go.Proofs.YtnclncglmnbelaaGreat

/- Families: the box of a call's family; values behind codes. (Written by wip/gen/fmt.py.) -/
import Derived.Test.YtmnddplkmljeaaaFmn
import Derived.Test.YtmnddplkmljeaaaLwb
namespace Go.Proofs.Ytmnddplkmljeaaa
open Go.ChangeShapes Go.WideShapes Go.ChangeAt Go.RowKit
set_option linter.unusedVariables false
set_option maxRecDepth 100000

/-- the box of a call's family, and its births -/
structure FB (w : World) (d m v l : Int) (a : Option Addr) (n c : Nat) (ch : List Int) (W : World) : Prop where
  b : Bx W w.heap.size [.int .i64 d, .int .i64 m, .int .i64 v, .int .i64 l, .slice a n c]
  i : Ints W a n ch
  low : Below w.heap.size w W

theorem FB.new (w : World) (d m v l : Int) {a : Option Addr} {n c : Nat} {ch : List Int} (h : Ints w a n ch) : FB w d m v l a n c ch (w.alloc (.cells #[.int .i64 d, .int .i64 m, .int .i64 v, .int .i64 l, .slice a n c] 26)) :=
  ⟨Bx.new w [.int .i64 d, .int .i64 m, .int .i64 v, .int .i64 l, .slice a n c] 26, h.on (box_b _ _), box_b _ _⟩

section
variable {w : World} {d m v l : Int} {a : Option Addr} {n c : Nat} {ch : List Int} {W W' : World}

theorem FB.on (h : FB w d m v l a n c ch W) (hb : Below W.heap.size W W') : FB w d m v l a n c ch W' :=
  ⟨h.b.on hb, h.i.on hb, h.low.trans (hb.mono h.low.size)⟩

theorem FB.drew (h : FB w d m v l a n c ch W) : FB w d m v l a n c ch W.drew := h.on (Below.drew (Below.refl _ _))

theorem FB.box (h : FB w d m v l a n c ch W) (o : Obj) : FB w d m v l a n c ch (W.alloc o) := h.on (box_b _ _)

theorem fbS (h : FB w d m v l a n c ch W) : W.cell? ⟨w.heap.size, 0, none⟩ = some (.int .i64 d) ∧ W.cell? ⟨w.heap.size, 1, none⟩ = some (.int .i64 m) ∧ W.cell? ⟨w.heap.size, 2, none⟩ = some (.int .i64 v) ∧ W.cell? ⟨w.heap.size, 3, none⟩ = some (.int .i64 l) ∧ W.cell? ⟨w.heap.size, 4, none⟩ = some (.slice a n c) ∧ Hid (FB w d m v l a n c ch W) := by
  obtain ⟨c0, c1, c2, c3, c4⟩ := h.b.five
  exact ⟨c0, c1, c2, c3, c4, Lib.hid h⟩
end

theorem fmE_iff {B R : Bool} : fmE B R = 0 ↔ B = true ∧ R = true := by
  cases B <;> cases R <;> simp [fmE]

/-- a value behind a code -/
def fV (E x : Int) : Int := if E = 0 then x else 0

def fB (E : Int) (x : Bool) : Bool := if E = 0 then x else false

end Go.Proofs.Ytmnddplkmljeaaa

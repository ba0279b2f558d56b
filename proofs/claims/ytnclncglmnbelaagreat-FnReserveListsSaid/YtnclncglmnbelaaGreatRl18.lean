/- Merged: Dpr. -/
import Derived.Test.YtnclncglmnbelaaGreatRl17

/- Policies: what the laws draw: a basis and a policy, a basis. (Written by wip/gen/dpr.py.) -/
namespace Go.Proofs.YtnclncglmnbelaaGreat
open Go.ChangeShapes Go.WideShapes Go.ChangeAt Go.RowKit
set_option linter.unusedVariables false
set_option linter.unusedSimpArgs false

set_option maxHeartbeats 1000000 in
theorem two_end {X Y : Nat} {V E : World} {F : Int} {ta : Option Addr} {tn tc : Nat} {xs : List Int} {r k x n s u : Int} (rx : Bx V X [.int .i64 0, .slice none 0 0, .int .i64 0]) (ry : Bx V Y [.int .i64 0, .int .i64 0, .int .i64 0, .int .i64 0, .int .i64 0]) (hXY : X < Y) (hi : Ints V ta tn xs) (far : ∀ y, ta = some y → Y < y.block) (hE : E = ((((((((V.setCell ⟨X, 0, none⟩ (.int .i64 F)).setCell ⟨X, 1, none⟩ (.slice ta tn tc)).setCell ⟨X, 2, none⟩ (.int .i64 r)).setCell ⟨Y, 0, none⟩ (.int .i64 k)).setCell ⟨Y, 1, none⟩ (.int .i64 x)).setCell ⟨Y, 2, none⟩ (.int .i64 n)).setCell ⟨Y, 3, none⟩ (.int .i64 s)).setCell ⟨Y, 4, none⟩ (.int .i64 u))) :
    Bx E X [.int .i64 F, .slice ta tn tc, .int .i64 r] ∧ Bx E Y [.int .i64 k, .int .i64 x, .int .i64 n, .int .i64 s, .int .i64 u] ∧ Ints E ta tn xs ∧ Below X V E := by
  have nXY : X ≠ Y := by omega
  have nYX : Y ≠ X := by omega
  have x8 := ((((((((rx.p30 (.int .i64 F)).p31 (.slice ta tn tc)).p32 (.int .i64 r)).off nXY 0 (.int .i64 k)).off nXY 1 (.int .i64 x)).off nXY 2 (.int .i64 n)).off nXY 3 (.int .i64 s)).off nXY 4 (.int .i64 u))
  have y8 := ((((((((ry.off nYX 0 (.int .i64 F)).off nYX 1 (.slice ta tn tc)).off nYX 2 (.int .i64 r)).p50 (.int .i64 k)).p51 (.int .i64 x)).p52 (.int .i64 n)).p53 (.int .i64 s)).p54 (.int .i64 u))
  have hlow := (((((((((Below.refl X V).setCell (p := ⟨X, 0, none⟩) (by show X ≤ X; omega) (.int .i64 F)).setCell (p := ⟨X, 1, none⟩) (by show X ≤ X; omega) (.slice ta tn tc)).setCell (p := ⟨X, 2, none⟩) (by show X ≤ X; omega) (.int .i64 r)).setCell (p := ⟨Y, 0, none⟩) (by show X ≤ Y; omega) (.int .i64 k)).setCell (p := ⟨Y, 1, none⟩) (by show X ≤ Y; omega) (.int .i64 x)).setCell (p := ⟨Y, 2, none⟩) (by show X ≤ Y; omega) (.int .i64 n)).setCell (p := ⟨Y, 3, none⟩) (by show X ≤ Y; omega) (.int .i64 s)).setCell (p := ⟨Y, 4, none⟩) (by show X ≤ Y; omega) (.int .i64 u))
  have hall : ∀ j, j ≠ X → j ≠ Y → ((((((((V.setCell ⟨X, 0, none⟩ (.int .i64 F)).setCell ⟨X, 1, none⟩ (.slice ta tn tc)).setCell ⟨X, 2, none⟩ (.int .i64 r)).setCell ⟨Y, 0, none⟩ (.int .i64 k)).setCell ⟨Y, 1, none⟩ (.int .i64 x)).setCell ⟨Y, 2, none⟩ (.int .i64 n)).setCell ⟨Y, 3, none⟩ (.int .i64 s)).setCell ⟨Y, 4, none⟩ (.int .i64 u)).heap[j]? = V.heap[j]? := fun j hx hy => ((setoff (((((((V.setCell ⟨X, 0, none⟩ (.int .i64 F)).setCell ⟨X, 1, none⟩ (.slice ta tn tc)).setCell ⟨X, 2, none⟩ (.int .i64 r)).setCell ⟨Y, 0, none⟩ (.int .i64 k)).setCell ⟨Y, 1, none⟩ (.int .i64 x)).setCell ⟨Y, 2, none⟩ (.int .i64 n)).setCell ⟨Y, 3, none⟩ (.int .i64 s)) Y 4 (.int .i64 u) j hy).trans ((setoff ((((((V.setCell ⟨X, 0, none⟩ (.int .i64 F)).setCell ⟨X, 1, none⟩ (.slice ta tn tc)).setCell ⟨X, 2, none⟩ (.int .i64 r)).setCell ⟨Y, 0, none⟩ (.int .i64 k)).setCell ⟨Y, 1, none⟩ (.int .i64 x)).setCell ⟨Y, 2, none⟩ (.int .i64 n)) Y 3 (.int .i64 s) j hy).trans ((setoff (((((V.setCell ⟨X, 0, none⟩ (.int .i64 F)).setCell ⟨X, 1, none⟩ (.slice ta tn tc)).setCell ⟨X, 2, none⟩ (.int .i64 r)).setCell ⟨Y, 0, none⟩ (.int .i64 k)).setCell ⟨Y, 1, none⟩ (.int .i64 x)) Y 2 (.int .i64 n) j hy).trans ((setoff ((((V.setCell ⟨X, 0, none⟩ (.int .i64 F)).setCell ⟨X, 1, none⟩ (.slice ta tn tc)).setCell ⟨X, 2, none⟩ (.int .i64 r)).setCell ⟨Y, 0, none⟩ (.int .i64 k)) Y 1 (.int .i64 x) j hy).trans ((setoff (((V.setCell ⟨X, 0, none⟩ (.int .i64 F)).setCell ⟨X, 1, none⟩ (.slice ta tn tc)).setCell ⟨X, 2, none⟩ (.int .i64 r)) Y 0 (.int .i64 k) j hy).trans ((setoff ((V.setCell ⟨X, 0, none⟩ (.int .i64 F)).setCell ⟨X, 1, none⟩ (.slice ta tn tc)) X 2 (.int .i64 r) j hx).trans ((setoff (V.setCell ⟨X, 0, none⟩ (.int .i64 F)) X 1 (.slice ta tn tc) j hx).trans (setoff V X 0 (.int .i64 F) j hx))))))))
  obtain ⟨G, hG⟩ : ∃ y_, ((((((((V.setCell ⟨X, 0, none⟩ (.int .i64 F)).setCell ⟨X, 1, none⟩ (.slice ta tn tc)).setCell ⟨X, 2, none⟩ (.int .i64 r)).setCell ⟨Y, 0, none⟩ (.int .i64 k)).setCell ⟨Y, 1, none⟩ (.int .i64 x)).setCell ⟨Y, 2, none⟩ (.int .i64 n)).setCell ⟨Y, 3, none⟩ (.int .i64 s)).setCell ⟨Y, 4, none⟩ (.int .i64 u)) = y_ := ⟨_, rfl⟩
  rw [hG] at x8 y8 hlow hall hE
  clear hG
  subst hE
  refine ⟨x8, y8, ?_, hlow⟩
  refine ⟨hi.len, hi.max, ?_⟩
  rcases hi.cells with h0 | ⟨b, off, rfl, hc⟩
  · exact .inl h0
  · have hb : Y < b := far ⟨b, off, none⟩ rfl
    exact .inr ⟨b, off, rfl, fun i hI => (World.cell?_of_block (w := V) (a := ⟨b, off + i, none⟩) (hall b (by omega) (by omega))).trans (hc i hI)⟩


set_option maxHeartbeats 1000000 in
theorem one_end {X : Nat} {V E : World} {F : Int} {ta : Option Addr} {tn tc : Nat} {xs : List Int} {r : Int} (rx : Bx V X [.int .i64 0, .slice none 0 0, .int .i64 0]) (hi : Ints V ta tn xs) (far : ∀ y, ta = some y → X < y.block) (hE : E = (((V.setCell ⟨X, 0, none⟩ (.int .i64 F)).setCell ⟨X, 1, none⟩ (.slice ta tn tc)).setCell ⟨X, 2, none⟩ (.int .i64 r))) :
    Bx E X [.int .i64 F, .slice ta tn tc, .int .i64 r] ∧ Ints E ta tn xs ∧ Below X V E := by
  have x8 := (((rx.p30 (.int .i64 F)).p31 (.slice ta tn tc)).p32 (.int .i64 r))
  have hlow := ((((Below.refl X V).setCell (p := ⟨X, 0, none⟩) (by show X ≤ X; omega) (.int .i64 F)).setCell (p := ⟨X, 1, none⟩) (by show X ≤ X; omega) (.slice ta tn tc)).setCell (p := ⟨X, 2, none⟩) (by show X ≤ X; omega) (.int .i64 r))
  have hall : ∀ j, j ≠ X → (((V.setCell ⟨X, 0, none⟩ (.int .i64 F)).setCell ⟨X, 1, none⟩ (.slice ta tn tc)).setCell ⟨X, 2, none⟩ (.int .i64 r)).heap[j]? = V.heap[j]? := fun j hx => ((setoff ((V.setCell ⟨X, 0, none⟩ (.int .i64 F)).setCell ⟨X, 1, none⟩ (.slice ta tn tc)) X 2 (.int .i64 r) j hx).trans ((setoff (V.setCell ⟨X, 0, none⟩ (.int .i64 F)) X 1 (.slice ta tn tc) j hx).trans (setoff V X 0 (.int .i64 F) j hx)))
  obtain ⟨G, hG⟩ : ∃ y_, (((V.setCell ⟨X, 0, none⟩ (.int .i64 F)).setCell ⟨X, 1, none⟩ (.slice ta tn tc)).setCell ⟨X, 2, none⟩ (.int .i64 r)) = y_ := ⟨_, rfl⟩
  rw [hG] at x8 hlow hall hE
  clear hG
  subst hE
  refine ⟨x8, ?_, hlow⟩
  refine ⟨hi.len, hi.max, ?_⟩
  rcases hi.cells with h0 | ⟨b, off, rfl, hc⟩
  · exact .inl h0
  · have hb : X < b := far ⟨b, off, none⟩ rfl
    exact .inr ⟨b, off, rfl, fun i hI => (World.cell?_of_block (w := V) (a := ⟨b, off + i, none⟩) (hall b (by omega))).trans (hc i hI)⟩


def DgPost (w : World) (e : Ending) (w' : World) : Prop :=
  ∃ F ta tn tc xs r k x n s u, e = .returned (.tuple #[.agg #[.int .i64 F, .slice ta tn tc, .int .i64 r], .agg #[.int .i64 k, .int .i64 x, .int .i64 n, .int .i64 s, .int .i64 u]]) ∧ Ints w' ta tn xs ∧ tn ≤ tc ∧ tn ≤ 4096 ∧ Below w.heap.size w w'

def DbPost (w : World) (e : Ending) (w' : World) : Prop :=
  ∃ F ta tn tc xs r, e = .returned (.agg #[.int .i64 F, .slice ta tn tc, .int .i64 r]) ∧ Ints w' ta tn xs ∧ tn ≤ tc ∧ tn ≤ 4096 ∧ Below w.heap.size w w'

end Go.Proofs.YtnclncglmnbelaaGreat

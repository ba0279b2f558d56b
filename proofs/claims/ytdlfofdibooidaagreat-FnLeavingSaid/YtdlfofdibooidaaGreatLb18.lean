/- Merged: Dpr, Drr. -/
import Derived.Test.YtdlfofdibooidaaGreatLb12
import Derived.Test.YtdlfofdibooidaaGreatLb17
import Derived.Deep.RegionHeld3

/- Policies: what the laws draw: a basis and a policy, a basis. (Written by wip/gen/dpr.py.) -/
namespace Go.Proofs.YtdlfofdibooidaaGreat
open Go.ChangeShapes Go.WideShapes Go.ChangeAt Go.RowKit
set_option linter.unusedVariables false
set_option linter.unusedSimpArgs false

set_option maxHeartbeats 1000000 in
theorem two_end {X Y : Nat} {V E : World} {F : Int} {ta : Option Addr} {tn tc : Nat} {xs : List Int} {r k x n s u : Int} (rx : Bx V X [.int .i64 0, .slice none 0 0, .int .i64 0]) (ry : Bx V Y [.int .i64 0, .int .i64 0, .int .i64 0, .int .i64 0, .int .i64 0]) (hXY : X < Y) (hi : Ints V ta tn xs) (far : ∀ y, ta = some y → Y < y.block) (hE : E = ((((((((V.setCell ⟨X, 0, none⟩ (.int .i64 F)).setCell ⟨X, 1, none⟩ (.slice ta tn tc)).setCell ⟨X, 2, none⟩ (.int .i64 r)).setCell ⟨Y, 0, none⟩ (.int .i64 k)).setCell ⟨Y, 1, none⟩ (.int .i64 x)).setCell ⟨Y, 2, none⟩ (.int .i64 n)).setCell ⟨Y, 3, none⟩ (.int .i64 s)).setCell ⟨Y, 4, none⟩ (.int .i64 u))) :
    Bx E X [.int .i64 F, .slice ta tn tc, .int .i64 r] ∧ Bx E Y [.int .i64 k, .int .i64 x, .int .i64 n, .int .i64 s, .int .i64 u] ∧ Ints E ta tn xs ∧ Below X V E := by
  have nXY : X ≠ Y := by omega
  have nYX : Y ≠ X := by omega
  have x8 := ((((((((rx.p30 (.int .i64 F)).p31 (.slice ta tn tc)).p32 (.int .i64 r)).off nXY 0 (.int .i64 k)).off nXY 1 (.int .i64 x)).off nXY 2 (.int .i64 n)).off nXY 3 (.int .i64 s)).off nXY 4 (.int .i64 u))
  have y8 := ((((((((ry.off nYX 0 (.int .i64 F)).off nYX 1 (.slice ta tn tc)).off nYX 2 (.int .i64 r)).p50 (.int .i64 k)).p51 (.int .i64 x)).p52 (.int .i64 n)).p53 (.int .i64 s)).p54 (.int .i64 u))
  have hlow := (((((((((Below.refl X V).setCell (p := ⟨X, 0, none⟩) (by show X ≤ X; omega) (.int .i64 F)).setCell (p := ⟨X, 1, none⟩) (by show X ≤ X; omega) (.slice ta tn tc)).setCell (p := ⟨X, 2, none⟩) (by show X ≤ X; omega) (.int .i64 r)).setCell (p := ⟨Y, 0, none⟩) (by show X ≤ Y; omega) (.int .i64 k)).setCell (p := ⟨Y, 1, none⟩) (by show X ≤ Y; omega) (.int .i64 x)).setCell (p := ⟨Y, 2, none⟩) (by show X ≤ Y; omega) (.int .i64 n)).setCell (p := ⟨Y, 3, none⟩) (by show X ≤ Y; omega) (.int .i64 s)).setCell (p := ⟨Y, 4, none⟩) (by show X ≤ Y; omega) (.int .i64 u))
  have hall : ∀ j, j ≠ X → j ≠ Y → ((((((((V.setCell ⟨X, 0, none⟩ (.int .i64 F)).setCell ⟨X, 1, none⟩ (.slice ta tn tc)).setCell ⟨X, 2, none⟩ (.int .i64 r)).setCell ⟨Y, 0, none⟩ (.int .i64 k)).setCell ⟨Y, 1, none⟩ (.int .i64 x)).setCell ⟨Y, 2, none⟩ (.int .i64 n)).setCell ⟨Y, 3, none⟩ (.int .i64 s)).setCell ⟨Y, 4, none⟩ (.int .i64 u)).heap[j]? = V.heap[j]? := fun j hx hy => ((setoff (((((((V.setCell ⟨X, 0, none⟩ (.int .i64 F)).setCell ⟨X, 1, none⟩ (.slice ta tn tc)).setCell ⟨X, 2, none⟩ (.int .i64 r)).setCell ⟨Y, 0, none⟩ (.int .i64 k)).setCell ⟨Y, 1, none⟩ (.int .i64 x)).setCell ⟨Y, 2, none⟩ (.int .i64 n)).setCell ⟨Y, 3, none⟩ (.int .i64 s)) Y 4 (.int .i64 u) j hy).trans ((setoff ((((((V.setCell ⟨X, 0, none⟩ (.int .i64 F)).setCell ⟨X, 1, none⟩ (.slice ta tn tc)).setCell ⟨X, 2, none⟩ (.int .i64 r)).setCell ⟨Y, 0, none⟩ (.int .i64 k)).setCell ⟨Y, 1, none⟩ (.int .i64 x)).setCell ⟨Y, 2, none⟩ (.int .i64 n)) Y 3 (.int .i64 s) j hy).trans ((setoff (((((V.setCell ⟨X, 0, none⟩ (.int .i64 F)).setCell ⟨X, 1, none⟩ (.slice ta tn tc)).setCell ⟨X, 2, none⟩ (.int .i64 r)).setCell ⟨Y, 0, none⟩ (.int .i64 k)).setCell ⟨Y, 1, none⟩ (.int .i64 x)) Y 2 (.int .i64 n) j hy).trans ((setoff ((((V.setCell ⟨X, 0, none⟩ (.int .i64 F)).setCell ⟨X, 1, none⟩ (.slice ta tn tc)).setCell ⟨X, 2, none⟩ (.int .i64 r)).setCell ⟨Y, 0, none⟩ (.int .i64 k)) Y 1 (.int .i64 x) j hy).trans ((setoff (((V.setCell ⟨X, 0, none⟩ (.int .i64 F)).setCell ⟨X, 1, none⟩ (.slice ta tn tc)).setCell ⟨X, 2, none⟩ (.int .i64 r)) Y 0 (.int .i64 k) j hy).trans ((setoff ((V.setCell ⟨X, 0, none⟩ (.int .i64 F)).setCell ⟨X, 1, none⟩ (.slice ta tn tc)) X 2 (.int .i64 r) j hx).trans ((setoff (V.setCell ⟨X, 0, none⟩ (.int .i64 F)) X 1 (.slice ta tn tc) j hx).trans (setoff V X 0 (.int .i64 F) j hx))))))))
  obtain ⟨G, hG⟩ : ∃ y_, ((((((((V.setCell ⟨X, 0, none⟩ (.int .i64 F)).setCell ⟨X, 1, none⟩ (.slice ta tn tc)).setCell ⟨X, 2, none⟩ (.int .i64 r)).setCell ⟨Y, 0, none⟩ (.int .i64 k)).setCell ⟨Y, 1, none⟩ (.int .i64 x)).setCell ⟨Y, 2, none⟩ (.int .i64 n)).setCell ⟨Y, 3, none⟩ (.int .i64 s)).setCell ⟨Y, 4, none⟩ (.int .i64 u)) = y_ := ⟨_, rfl⟩
  rw [hG] at x8 y8 hlow hall hE
  clear hG
  subst hE
  refine ⟨x8, y8, ?_, hlow⟩
  refine ⟨hi.len, hi.max, ?_⟩
  rcases hi.cells with h0 | ⟨b, off, rfl, hc⟩
  · exact .inl h0
  · have hb : Y < b := far ⟨b, off, none⟩ rfl
    exact .inr ⟨b, off, rfl, fun i hI => (World.cell?_of_block (w := V) (a := ⟨b, off + i, none⟩) (hall b (by omega) (by omega))).trans (hc i hI)⟩


set_option maxHeartbeats 1000000 in
theorem one_end {X : Nat} {V E : World} {F : Int} {ta : Option Addr} {tn tc : Nat} {xs : List Int} {r : Int} (rx : Bx V X [.int .i64 0, .slice none 0 0, .int .i64 0]) (hi : Ints V ta tn xs) (far : ∀ y, ta = some y → X < y.block) (hE : E = (((V.setCell ⟨X, 0, none⟩ (.int .i64 F)).setCell ⟨X, 1, none⟩ (.slice ta tn tc)).setCell ⟨X, 2, none⟩ (.int .i64 r))) :
    Bx E X [.int .i64 F, .slice ta tn tc, .int .i64 r] ∧ Ints E ta tn xs ∧ Below X V E := by
  have x8 := (((rx.p30 (.int .i64 F)).p31 (.slice ta tn tc)).p32 (.int .i64 r))
  have hlow := ((((Below.refl X V).setCell (p := ⟨X, 0, none⟩) (by show X ≤ X; omega) (.int .i64 F)).setCell (p := ⟨X, 1, none⟩) (by show X ≤ X; omega) (.slice ta tn tc)).setCell (p := ⟨X, 2, none⟩) (by show X ≤ X; omega) (.int .i64 r))
  have hall : ∀ j, j ≠ X → (((V.setCell ⟨X, 0, none⟩ (.int .i64 F)).setCell ⟨X, 1, none⟩ (.slice ta tn tc)).setCell ⟨X, 2, none⟩ (.int .i64 r)).heap[j]? = V.heap[j]? := fun j hx => ((setoff ((V.setCell ⟨X, 0, none⟩ (.int .i64 F)).setCell ⟨X, 1, none⟩ (.slice ta tn tc)) X 2 (.int .i64 r) j hx).trans ((setoff (V.setCell ⟨X, 0, none⟩ (.int .i64 F)) X 1 (.slice ta tn tc) j hx).trans (setoff V X 0 (.int .i64 F) j hx)))
  obtain ⟨G, hG⟩ : ∃ y_, (((V.setCell ⟨X, 0, none⟩ (.int .i64 F)).setCell ⟨X, 1, none⟩ (.slice ta tn tc)).setCell ⟨X, 2, none⟩ (.int .i64 r)) = y_ := ⟨_, rfl⟩
  rw [hG] at x8 hlow hall hE
  clear hG
  subst hE
  refine ⟨x8, ?_, hlow⟩
  refine ⟨hi.len, hi.max, ?_⟩
  rcases hi.cells with h0 | ⟨b, off, rfl, hc⟩
  · exact .inl h0
  · have hb : X < b := far ⟨b, off, none⟩ rfl
    exact .inr ⟨b, off, rfl, fun i hI => (World.cell?_of_block (w := V) (a := ⟨b, off + i, none⟩) (hall b (by omega))).trans (hc i hI)⟩


def DgPost (w : World) (e : Ending) (w' : World) : Prop :=
  ∃ F ta tn tc xs r k x n s u, e = .returned (.tuple #[.agg #[.int .i64 F, .slice ta tn tc, .int .i64 r], .agg #[.int .i64 k, .int .i64 x, .int .i64 n, .int .i64 s, .int .i64 u]]) ∧ Ints w' ta tn xs ∧ tn ≤ tc ∧ tn ≤ 4096 ∧ Below w.heap.size w w'

def DbPost (w : World) (e : Ending) (w' : World) : Prop :=
  ∃ F ta tn tc xs r, e = .returned (.agg #[.int .i64 F, .slice ta tn tc, .int .i64 r]) ∧ Ints w' ta tn xs ∧ tn ≤ tc ∧ tn ≤ 4096 ∧ Below w.heap.size w w'

end Go.Proofs.YtdlfofdibooidaaGreat

/- Reserves: what the laws draw: a basis, a policy and a year. (Written by wip/gen/drr.py.) -/
namespace Go.Proofs.YtdlfofdibooidaaGreat
open Go.ChangeShapes Go.WideShapes Go.ChangeAt Go.RowKit
set_option linter.unusedVariables false
set_option linter.unusedSimpArgs false

/-- four numbers in a block -/
def Four1 (B : Nat) (w : World) (k : Nat) : Prop := k ≠ B ∧ k < w.heap.size ∧ ∃ x1 x2 x3 x4 : Int, ∀ i, i < 4 → w.cell? ⟨k, i, none⟩ = some (.int .i64 ([x1, x2, x3, x4].getD i 0))

theorem Four1.new {B k : Nat} {V : World} {x1 x2 x3 x4 : Int} {T : TypeId} (hk : k = V.heap.size) (hB : B < V.heap.size) : Four1 B (V.alloc (.cells #[.int .i64 x1, .int .i64 x2, .int .i64 x3, .int .i64 x4] T)) k := by
  subst hk
  refine ⟨by omega, by rw [World.size_alloc]; omega, x1, x2, x3, x4, fun i hi => ?_⟩
  match i, hi with
  | 0, _ => go_simp
  | 1, _ => go_simp
  | 2, _ => go_simp
  | 3, _ => go_simp

theorem Four1.drew {B k : Nat} {V : World} (h : Four1 B V k) : Four1 B V.drew k := h

theorem Four1.pick {B k : Nat} {w : World} {a : Option Addr} {l c : Nat} {z : List Int} (hf : Four1 B w k) (h : Ready B a l c z w) :
    Calls Tryz.prog 77 #[.pointer (some ⟨B, 0, none⟩), .slice (some ⟨k, 0, none⟩) 4 4] w fun e w' => ∃ v, e = .returned (.int .i64 v) ∧ But B w w' ∧ Ready B a l c z w' := by
  obtain ⟨h1, h2, x1, x2, x3, x4, h3⟩ := hf
  exact (pick_r B k a l c 4 z [x1, x2, x3, x4] w h h1 rfl (by decide) (by decide) h3).mono fun e w' ⟨v, he, _, ho, hs⟩ => ⟨v, he, ho, hs⟩

/-- a basis and a policy drawn, while more is drawn: their boxes, the boxes of the results -/
structure RD (B X Y T Q : Nat) (a : Option Addr) (l c : Nat) (z : List Int) (F : Int) (ta : Option Addr) (tn tc : Nat) (xs : List Int) (r k x n s u : Int) (w W : World) : Prop where
  ready : Ready B a l c z W
  low : But B w W
  rx : ∃ p0 p1 p2, Bx W X [p0, p1, p2]
  ry : ∃ q0 q1 q2 q3 q4, Bx W Y [q0, q1, q2, q3, q4]
  t : Bx W T [.int .i64 F, .slice ta tn tc, .int .i64 r]
  q : Bx W Q [.int .i64 k, .int .i64 x, .int .i64 n, .int .i64 s, .int .i64 u]
  ints : Ints W ta tn xs
  far : ∀ y, ta = some y → Y < y.block
  oB : B < X
  oY : Y = X + 1
  oT : Y < T
  oQ : T < Q
  eX : w.heap.size = X

theorem RD.call {B X Y T Q : Nat} {a : Option Addr} {l c : Nat} {z : List Int} {F : Int} {ta : Option Addr} {tn tc : Nat} {xs : List Int} {r k x n s u : Int} {w : World} {W W' : World} (h : RD B X Y T Q a l c z F ta tn tc xs r k x n s u w W) (ho : But B W W') (hs : Ready B a l c z W') : RD B X Y T Q a l c z F ta tn tc xs r k x n s u w W' := by
  have h1 := h.oB
  have h2 := h.oY
  have h3 := h.oT
  have h4 := h.oQ
  obtain ⟨p0, p1, p2, hx⟩ := h.rx
  obtain ⟨q0, q1, q2, q3, q4, hy⟩ := h.ry
  exact ⟨hs, h.low.trans ho, ⟨p0, p1, p2, hx.same (ho.block X hx.lt (by omega))⟩, ⟨q0, q1, q2, q3, q4, hy.same (ho.block Y hy.lt (by omega))⟩, h.t.same (ho.block T h.t.lt (by omega)), h.q.same (ho.block Q h.q.lt (by omega)), h.ints.butT ho (fun y hy => by have := h.far y hy; omega), h.far, h1, h2, h3, h4, h.eX⟩

theorem RD.on {B X Y T Q : Nat} {a : Option Addr} {l c : Nat} {z : List Int} {F : Int} {ta : Option Addr} {tn tc : Nat} {xs : List Int} {r k x n s u : Int} {w : World} {W W' : World} (h : RD B X Y T Q a l c z F ta tn tc xs r k x n s u w W) (hb : Below W.heap.size W W') : RD B X Y T Q a l c z F ta tn tc xs r k x n s u w W' := h.call ⟨hb.os, hb.tape, hb.output, hb.size, fun i hi _ => hb.block i hi⟩ (h.ready.below hb h.ready.here)

theorem RD.drew {B X Y T Q : Nat} {a : Option Addr} {l c : Nat} {z : List Int} {F : Int} {ta : Option Addr} {tn tc : Nat} {xs : List Int} {r k x n s u : Int} {w : World} {W : World} (h : RD B X Y T Q a l c z F ta tn tc xs r k x n s u w W) : RD B X Y T Q a l c z F ta tn tc xs r k x n s u w W.drew := h.call (But.refl _ _).drew h.ready.drew

theorem RD.set {B X Y T Q : Nat} {a : Option Addr} {l c : Nat} {z : List Int} {F : Int} {ta : Option Addr} {tn tc : Nat} {xs : List Int} {r k x n s u : Int} {w : World} {W E : World} (h : RD B X Y T Q a l c z F ta tn tc xs r k x n s u w W) (K : Nat) (hK : K = X ∨ K = Y) (hb : Below X W E) (hall : ∀ j, j ≠ K → E.heap[j]? = W.heap[j]?) (hx : ∃ p0 p1 p2, Bx E X [p0, p1, p2]) (hy : ∃ q0 q1 q2 q3 q4, Bx E Y [q0, q1, q2, q3, q4]) : RD B X Y T Q a l c z F ta tn tc xs r k x n s u w E := by
  have h1 := h.oB
  have h2 := h.oY
  have h3 := h.oT
  have h4 := h.oQ
  have eX := h.eX
  have ho : But K W E := ⟨hb.os, hb.tape, hb.output, hb.size, fun i hi hne => hall i hne⟩
  exact ⟨h.ready.below hb h1, ⟨hb.os.trans h.low.os, hb.tape.trans h.low.tape, hb.output.trans h.low.output, Nat.le_trans h.low.size hb.size, fun i hi hne => (hall i (by omega)).trans (h.low.block i hi hne)⟩, hx, hy, h.t.same (hall T (by omega)), h.q.same (hall Q (by omega)), h.ints.butT ho (fun y hy => by have := h.far y hy; omega), h.far, h1, h2, h3, h4, eX⟩

theorem RD.putX {B X Y T Q : Nat} {a : Option Addr} {l c : Nat} {z : List Int} {F : Int} {ta : Option Addr} {tn tc : Nat} {xs : List Int} {r k x n s u : Int} {w : World} {W : World} (h : RD B X Y T Q a l c z F ta tn tc xs r k x n s u w W) (y0 y1 y2 : Value) : RD B X Y T Q a l c z F ta tn tc xs r k x n s u w (((W.setCell ⟨X, 0, none⟩ (y0)).setCell ⟨X, 1, none⟩ (y1)).setCell ⟨X, 2, none⟩ (y2)) := by
  obtain ⟨p0, p1, p2, hx⟩ := h.rx
  obtain ⟨q0, q1, q2, q3, q4, hy⟩ := h.ry
  have h2 := h.oY
  exact h.set X (.inl rfl) ((((Below.refl X W).setCell (p := ⟨X, 0, none⟩) (by show X ≤ X; omega) _).setCell (p := ⟨X, 1, none⟩) (by show X ≤ X; omega) _).setCell (p := ⟨X, 2, none⟩) (by show X ≤ X; omega) _) (fun j hj => ((setoff _ X 2 _ _ (hj)).trans ((setoff _ X 1 _ _ (hj)).trans (setoff _ X 0 _ _ (hj))))) ⟨y0, y1, y2, ((hx.p30 y0).p31 y1).p32 y2⟩ ⟨q0, q1, q2, q3, q4, hy.same ((setoff _ X 2 _ _ (by omega)).trans ((setoff _ X 1 _ _ (by omega)).trans (setoff _ X 0 _ _ (by omega))))⟩

theorem RD.putY {B X Y T Q : Nat} {a : Option Addr} {l c : Nat} {z : List Int} {F : Int} {ta : Option Addr} {tn tc : Nat} {xs : List Int} {r k x n s u : Int} {w : World} {W : World} (h : RD B X Y T Q a l c z F ta tn tc xs r k x n s u w W) (y0 y1 y2 y3 y4 : Value) : RD B X Y T Q a l c z F ta tn tc xs r k x n s u w (((((W.setCell ⟨Y, 0, none⟩ (y0)).setCell ⟨Y, 1, none⟩ (y1)).setCell ⟨Y, 2, none⟩ (y2)).setCell ⟨Y, 3, none⟩ (y3)).setCell ⟨Y, 4, none⟩ (y4)) := by
  obtain ⟨p0, p1, p2, hx⟩ := h.rx
  obtain ⟨q0, q1, q2, q3, q4, hy⟩ := h.ry
  have h2 := h.oY
  exact h.set Y (.inr rfl) ((((((Below.refl X W).setCell (p := ⟨Y, 0, none⟩) (by show X ≤ Y; omega) _).setCell (p := ⟨Y, 1, none⟩) (by show X ≤ Y; omega) _).setCell (p := ⟨Y, 2, none⟩) (by show X ≤ Y; omega) _).setCell (p := ⟨Y, 3, none⟩) (by show X ≤ Y; omega) _).setCell (p := ⟨Y, 4, none⟩) (by show X ≤ Y; omega) _) (fun j hj => ((setoff _ Y 4 _ _ (hj)).trans ((setoff _ Y 3 _ _ (hj)).trans ((setoff _ Y 2 _ _ (hj)).trans ((setoff _ Y 1 _ _ (hj)).trans (setoff _ Y 0 _ _ (hj))))))) ⟨p0, p1, p2, hx.same ((setoff _ Y 4 _ _ (by omega)).trans ((setoff _ Y 3 _ _ (by omega)).trans ((setoff _ Y 2 _ _ (by omega)).trans ((setoff _ Y 1 _ _ (by omega)).trans (setoff _ Y 0 _ _ (by omega))))))⟩ ⟨y0, y1, y2, y3, y4, ((((hy.p50 y0).p51 y1).p52 y2).p53 y3).p54 y4⟩

theorem rdS {B X Y T Q : Nat} {a : Option Addr} {l c : Nat} {z : List Int} {F : Int} {ta : Option Addr} {tn tc : Nat} {xs : List Int} {r k x n s u : Int} {w : World} {W : World} (h : RD B X Y T Q a l c z F ta tn tc xs r k x n s u w W) : W.cell? ⟨T, 0, none⟩ = some (.int .i64 F) ∧ W.cell? ⟨T, 1, none⟩ = some (.slice ta tn tc) ∧ W.cell? ⟨T, 2, none⟩ = some (.int .i64 r) ∧ W.cell? ⟨Q, 0, none⟩ = some (.int .i64 k) ∧ W.cell? ⟨Q, 1, none⟩ = some (.int .i64 x) ∧ W.cell? ⟨Q, 2, none⟩ = some (.int .i64 n) ∧ W.cell? ⟨Q, 3, none⟩ = some (.int .i64 s) ∧ W.cell? ⟨Q, 4, none⟩ = some (.int .i64 u) ∧ Hid (RD B X Y T Q a l c z F ta tn tc xs r k x n s u w W) := by
  obtain ⟨c0, c1, c2⟩ := h.t.three0
  obtain ⟨d0, d1, d2, d3, d4⟩ := h.q.five9
  exact ⟨c0, c1, c2, d0, d1, d2, d3, d4, Lib.hid h⟩

/-- what the drawing of a basis, a policy and a year gives -/
def Drawn11 (B : Nat) (a : Option Addr) (l c : Nat) (z : List Int) (w : World) (e : Ending) (w' : World) : Prop :=
  ∃ F ta tn tc xs r k x n s u j, e = .returned (.tuple #[.agg #[.int .i64 F, .slice ta tn tc, .int .i64 r], .agg #[.int .i64 k, .int .i64 x, .int .i64 n, .int .i64 s, .int .i64 u], .int .i64 j]) ∧ Ints w' ta tn xs ∧ tn ≤ tc ∧ tn ≤ 4096 ∧ (∀ y, ta = some y → w.heap.size + 1 < y.block) ∧ But B w w' ∧ Ready B a l c z w'

/-- the end: both boxes are written, in this order or the other -/
theorem RD.fin {B X Y T Q : Nat} {a : Option Addr} {l c : Nat} {z : List Int} {F : Int} {ta : Option Addr} {tn tc : Nat} {xs : List Int} {r k x n s u : Int} {w : World} {V E : World} (h : RD B X Y T Q a l c z F ta tn tc xs r k x n s u w V) (hE : E = ((((((((V.setCell ⟨X, 0, none⟩ (.int .i64 F)).setCell ⟨X, 1, none⟩ (.slice ta tn tc)).setCell ⟨X, 2, none⟩ (.int .i64 r)).setCell ⟨Y, 0, none⟩ (.int .i64 k)).setCell ⟨Y, 1, none⟩ (.int .i64 x)).setCell ⟨Y, 2, none⟩ (.int .i64 n)).setCell ⟨Y, 3, none⟩ (.int .i64 s)).setCell ⟨Y, 4, none⟩ (.int .i64 u)) ∨ E = ((((((((V.setCell ⟨Y, 0, none⟩ (.int .i64 k)).setCell ⟨Y, 1, none⟩ (.int .i64 x)).setCell ⟨Y, 2, none⟩ (.int .i64 n)).setCell ⟨Y, 3, none⟩ (.int .i64 s)).setCell ⟨Y, 4, none⟩ (.int .i64 u)).setCell ⟨X, 0, none⟩ (.int .i64 F)).setCell ⟨X, 1, none⟩ (.slice ta tn tc)).setCell ⟨X, 2, none⟩ (.int .i64 r))) :
    Bx E X [.int .i64 F, .slice ta tn tc, .int .i64 r] ∧ Bx E Y [.int .i64 k, .int .i64 x, .int .i64 n, .int .i64 s, .int .i64 u] ∧ Ints E ta tn xs ∧ But B w E ∧ Ready B a l c z E ∧ (∀ y, ta = some y → w.heap.size + 1 < y.block) := by
  have hf : ∀ y, ta = some y → w.heap.size + 1 < y.block := fun y hy => by have h1 := h.far y hy; have h2 := h.oY; have h3 := h.eX; omega
  have h2 := h.oY
  obtain ⟨p0, p1, p2, hx⟩ := h.rx
  obtain ⟨q0, q1, q2, q3, q4, hy⟩ := h.ry
  rcases hE with rfl | rfl
  · have h8 := (h.putX (.int .i64 F) (.slice ta tn tc) (.int .i64 r)).putY (.int .i64 k) (.int .i64 x) (.int .i64 n) (.int .i64 s) (.int .i64 u)
    refine ⟨?_, ?_, h8.ints, h8.low, h8.ready, hf⟩
    · exact (((hx.p30 (.int .i64 F)).p31 (.slice ta tn tc)).p32 (.int .i64 r)).same ((setoff _ Y 4 _ _ (by omega)).trans ((setoff _ Y 3 _ _ (by omega)).trans ((setoff _ Y 2 _ _ (by omega)).trans ((setoff _ Y 1 _ _ (by omega)).trans (setoff _ Y 0 _ _ (by omega))))))
    · exact (((((hy.same ((setoff _ X 2 _ _ (by omega)).trans ((setoff _ X 1 _ _ (by omega)).trans (setoff _ X 0 _ _ (by omega))))).p50 (.int .i64 k)).p51 (.int .i64 x)).p52 (.int .i64 n)).p53 (.int .i64 s)).p54 (.int .i64 u)
  · have h8 := (h.putY (.int .i64 k) (.int .i64 x) (.int .i64 n) (.int .i64 s) (.int .i64 u)).putX (.int .i64 F) (.slice ta tn tc) (.int .i64 r)
    refine ⟨?_, ?_, h8.ints, h8.low, h8.ready, hf⟩
    · exact (((hx.same ((setoff _ Y 4 _ _ (by omega)).trans ((setoff _ Y 3 _ _ (by omega)).trans ((setoff _ Y 2 _ _ (by omega)).trans ((setoff _ Y 1 _ _ (by omega)).trans (setoff _ Y 0 _ _ (by omega))))))).p30 (.int .i64 F)).p31 (.slice ta tn tc)).p32 (.int .i64 r)
    · exact (((((hy.p50 (.int .i64 k)).p51 (.int .i64 x)).p52 (.int .i64 n)).p53 (.int .i64 s)).p54 (.int .i64 u)).same ((setoff _ X 2 _ _ (by omega)).trans ((setoff _ X 1 _ _ (by omega)).trans (setoff _ X 0 _ _ (by omega))))

theorem size_drew1 (w : World) : w.drew.heap.size = w.heap.size := rfl

set_option maxRecDepth 2000000 in
set_option maxHeartbeats 16000000 in
theorem d11 (B : Nat) (a : Option Addr) (l c : Nat) (z : List Int) (w : World) (h : Ready B a l c z w) : Calls Tryz.prog 57 #[.pointer (some ⟨B, 0, none⟩)] w (Drawn11 B a l c z w) := by
  have hB := h.here
  have b1 := box_b w (.cells #[.int .i64 0, .slice none 0 0, .int .i64 0] 28)
  have b2 := box_b (w.alloc (.cells #[.int .i64 0, .slice none 0 0, .int .i64 0] 28)) (.cells #[.int .i64 0, .int .i64 0, .int .i64 0, .int .i64 0, .int .i64 0] 30)
  have x0 := (Bx.new w [.int .i64 0, .slice none 0 0, .int .i64 0] 28).on b2
  have y0 := Bx.new (w.alloc (.cells #[.int .i64 0, .slice none 0 0, .int .i64 0] 28)) [.int .i64 0, .int .i64 0, .int .i64 0, .int .i64 0, .int .i64 0] 30
  rw [World.size_alloc] at y0
  have HX := Lib.hid (And.intro x0 y0)
  have HB := Lib.hid (b1.trans (b2.mono (by simp)))
  have HS := Lib.hid (h.below HB.out hB)
  have hsz : ((w.alloc (.cells #[.int .i64 0, .slice none 0 0, .int .i64 0] 28)).alloc (.cells #[.int .i64 0, .int .i64 0, .int .i64 0, .int .i64 0, .int .i64 0] 30)).heap.size = w.heap.size + 1 + 1 := by simp
  clear h b1 b2 x0 y0
  go_enter Tryz.func57, Tryz.ntmps57
  go_wp2_with fail
  obtain ⟨W0, hW0⟩ : ∃ y_, (w.alloc (.cells #[.int .i64 0, .slice none 0 0, .int .i64 0] 28)).alloc (.cells #[.int .i64 0, .int .i64 0, .int .i64 0, .int .i64 0, .int .i64 0] 30) = y_ := ⟨_, rfl⟩
  rw [hW0] at HB HX HS hsz ⊢
  clear hW0
  refine (d10 _ a l c z W0 HS.out).mono ?_
  rintro e w2 ⟨F, ta, tn, tc, xs, r, k, x, n, s, u, rfl, hI, htc, htn, far, ho, hs⟩
  have hz2 := ho.size
  have HTC := Lib.hid (And.intro htc htn)
  have HRD : Hid (RD B w.heap.size (w.heap.size + 1) w2.heap.size (w2.heap.size + 1) a l c z F ta tn tc xs r k x n s u w ((w2.alloc (.cells #[.int .i64 F, .slice ta tn tc, .int .i64 r] 28)).alloc (.cells #[.int .i64 k, .int .i64 x, .int .i64 n, .int .i64 s, .int .i64 u] 30))) := Lib.hid (by
    have q1 := box_b w2 (.cells #[.int .i64 F, .slice ta tn tc, .int .i64 r] 28)
    have q2 := box_b (w2.alloc (.cells #[.int .i64 F, .slice ta tn tc, .int .i64 r] 28)) (.cells #[.int .i64 k, .int .i64 x, .int .i64 n, .int .i64 s, .int .i64 u] 30)
    have hx := HX.out.1
    have hy := HX.out.2
    have t1 := (Bx.new w2 [.int .i64 F, .slice ta tn tc, .int .i64 r] 28).on q2
    have t2 := Bx.new (w2.alloc (.cells #[.int .i64 F, .slice ta tn tc, .int .i64 r] 28)) [.int .i64 k, .int .i64 x, .int .i64 n, .int .i64 s, .int .i64 u] 30
    rw [World.size_alloc] at t2
    have hq : Below w2.heap.size w2 ((w2.alloc (.cells #[.int .i64 F, .slice ta tn tc, .int .i64 r] 28)).alloc (.cells #[.int .i64 k, .int .i64 x, .int .i64 n, .int .i64 s, .int .i64 u] 30)) := q1.trans (q2.mono (by simp))
    have hbq : But B w2 ((w2.alloc (.cells #[.int .i64 F, .slice ta tn tc, .int .i64 r] 28)).alloc (.cells #[.int .i64 k, .int .i64 x, .int .i64 n, .int .i64 s, .int .i64 u] 30)) := ⟨hq.os, hq.tape, hq.output, hq.size, fun i hi _ => hq.block i hi⟩
    have hb0 : But B w W0 := ⟨HB.out.os, HB.out.tape, HB.out.output, HB.out.size, fun i hi _ => HB.out.block i hi⟩
    exact ⟨hs.below hq hs.here, (hb0.trans ho).trans hbq, ⟨_, _, _, (hx.same (ho.block _ hx.lt (by omega))).on hq⟩, ⟨_, _, _, _, _, (hy.same (ho.block _ hy.lt (by omega))).on hq⟩, t1, t2, hI.on hq, fun y hy => by have := far y hy; omega, hB, rfl, by omega, by omega, rfl⟩)
  have hX : ∃ X, w.heap.size = X := ⟨_, rfl⟩
  clear htc htn hI far ho hs HX HB HS
  go_wp2_with fail
  obtain ⟨v2, hv2⟩ : ∃ y_, (w2.alloc (.cells #[.int .i64 F, .slice ta tn tc, .int .i64 r] 28)).alloc (.cells #[.int .i64 k, .int .i64 x, .int .i64 n, .int .i64 s, .int .i64 u] 30) = y_ := ⟨_, rfl⟩
  obtain ⟨T, hT⟩ : ∃ y_, w2.heap.size = y_ := ⟨_, rfl⟩
  obtain ⟨Q, hQ⟩ : ∃ y_, T + 1 = y_ := ⟨_, rfl⟩
  obtain ⟨X, hX⟩ := hX
  obtain ⟨Y, hY⟩ : ∃ y_, X + 1 = y_ := ⟨_, rfl⟩
  rw [hv2, hT, hQ, hX, hY] at HRD
  (try rw [hv2])
  (try rw [hT])
  (try rw [hQ])
  (try rw [hX])
  (try rw [hY])
  have hXY : X ≠ Y := by omega
  have hYX : Y ≠ X := by omega
  have hTX : T ≠ X := by omega
  have hTY : T ≠ Y := by omega
  have hQX : Q ≠ X := by omega
  have hQY : Q ≠ Y := by omega
  clear hv2 hT hQ hX hY hz2 hsz hB
  have N1 : Hid (∀ W m, Hid (RD B X Y T Q a l c z F ta tn tc xs r k x n s u w W) → Calls Tryz.prog 58 #[.pointer (some ⟨B, 0, none⟩), .int .i64 m] W fun e w' => ∃ v, e = .returned (.int .i64 v) ∧ Hid (RD B X Y T Q a l c z F ta tn tc xs r k x n s u w w')) :=
    Lib.hid (fun W m hW => (next_r B a l c z m W hW.out.ready).mono fun e w' ⟨v, he, hd, ho, hs⟩ => ⟨v, he, Lib.hid (hW.out.call ho hs)⟩)
  have PG : Hid (∀ w8 kk, Hid (RD B X Y T Q a l c z F ta tn tc xs r k x n s u w w8) → Four1 B w8 kk → Calls Tryz.prog 77 #[.pointer (some ⟨B, 0, none⟩), .slice (some ⟨kk, 0, none⟩) 4 4] w8 fun e w' => ∃ v, e = .returned (.int .i64 v) ∧ Hid (RD B X Y T Q a l c z F ta tn tc xs r k x n s u w w')) :=
    Lib.hid (fun w8 kk hW hf => (hf.pick hW.out.ready).mono fun e w' ⟨v, he, ho, hs⟩ => ⟨v, he, Lib.hid (hW.out.call ho hs)⟩)
  have CP : Hid (∀ W, Hid (RD B X Y T Q a l c z F ta tn tc xs r k x n s u w W) → Calls Tryz.prog 50 #[.agg #[.int .i64 F, .slice ta tn tc, .int .i64 r], .agg #[.int .i64 k, .int .i64 x, .int .i64 n, .int .i64 s, .int .i64 u]] W fun e w' => e = .returned (.bool (poB r F xs k x n s u)) ∧ Below W.heap.size W w') := Lib.hid (fun W hW => spol_any r F xs ta tn tc k x n s u W hW.out.ints)
  obtain ⟨c0, c1, c2, d0, d1, d2, d3, d4, _⟩ := rdS HRD.out
  by_cases hp : poB r F xs k x n s u = true
  · have CL : Hid (∀ W, Hid (RD B X Y T Q a l c z F ta tn tc xs r k x n s u w W) → Calls Tryz.prog 44 #[.agg #[.int .i64 F, .slice ta tn tc, .int .i64 r], .agg #[.int .i64 k, .int .i64 x, .int .i64 n, .int .i64 s, .int .i64 u]] W fun e w' => e = .returned (.int .i64 (durN F xs k x n)) ∧ Below W.heap.size W w') := Lib.hid (fun W hW => sdur_any r F xs ta tn tc k x n s u W hW.out.ints hp)
    obtain ⟨E, hE⟩ : ∃ y_, durN F xs k x n = y_ := ⟨_, rfl⟩
    rw [hE] at CL
    rw [hp] at CP
    clear hp hE
    with_reducible refine (CP.out _ HRD).mono ?_
    rintro e w3 ⟨rfl, hb⟩
    have HRD := Lib.hid (HRD.out.on hb)
    clear hb c0 c1 c2 d0 d1 d2 d3 d4
    obtain ⟨c0, c1, c2, d0, d1, d2, d3, d4, _⟩ := rdS HRD.out
    go_wp2_with fail
    with_reducible refine (CL.out _ HRD).mono ?_
    rintro e w4 ⟨rfl, hb⟩
    have HRD := Lib.hid (HRD.out.on hb)
    clear hb c0 c1 c2 d0 d1 d2 d3 d4
    obtain ⟨c0, c1, c2, d0, d1, d2, d3, d4, _⟩ := rdS HRD.out
    go_wp2_with fail
    with_reducible refine (N1.out _ _ HRD).mono ?_
    rintro e w5 ⟨rr, rfl, HRD⟩
    clear c0 c1 c2 d0 d1 d2 d3 d4
    obtain ⟨c0, c1, c2, d0, d1, d2, d3, d4, _⟩ := rdS HRD.out
    have hBW := HRD.out.ready.here
    by_cases hr0 : rr = 0
    · subst hr0
      go_wp2_with fail
      go_region_held3 (fun W9 => W9.cell? ⟨T, 0, none⟩ = some (.int .i64 F) ∧ W9.cell? ⟨T, 1, none⟩ = some (.slice ta tn tc) ∧ W9.cell? ⟨T, 2, none⟩ = some (.int .i64 r) ∧ W9.cell? ⟨Q, 0, none⟩ = some (.int .i64 k) ∧ W9.cell? ⟨Q, 1, none⟩ = some (.int .i64 x) ∧ W9.cell? ⟨Q, 2, none⟩ = some (.int .i64 n) ∧ W9.cell? ⟨Q, 3, none⟩ = some (.int .i64 s) ∧ W9.cell? ⟨Q, 4, none⟩ = some (.int .i64 u) ∧ Hid (RD B X Y T Q a l c z F ta tn tc xs r k x n s u w W9))
        (first
          | (with_reducible exact rdS (RD.putY (RD.putX HV.out _ _ _) _ _ _ _ _))
          | (with_reducible exact rdS (RD.putX (RD.putY HV.out _ _ _ _ _) _ _ _))
          | (with_reducible exact rdS (RD.putX HV.out _ _ _))
          | (with_reducible exact rdS (RD.putY HV.out _ _ _ _ _))
          | (with_reducible exact rdS HV.out)
          | (with_reducible exact rdS (RD.drew HRD.out))
          | (with_reducible exact rdS (RD.on (RD.drew HRD.out) (box_b _ _)))
          | (with_reducible exact rdS (RD.drew (RD.on HRD.out (box_b _ _))))
          | (with_reducible exact rdS (RD.on HRD.out (box_b _ _)))
          | fail)
        (first
          | (go_split_ands; go_at_call 77; ((with_reducible refine (PG.out _ _ (by with_reducible assumption) ?_).mono ?_)); (· (repeat (first | (with_reducible apply Four1.new; (· simp only [World.size_alloc, size_drew1]); (· ((try simp only [World.size_alloc, size_drew1]); omega))) | (with_reducible apply Four1.drew)))); rintro e w' ⟨vv, rfl, HV⟩; obtain ⟨⟨_, _, _, hrx⟩, ⟨_, _, _, _, _, hry⟩⟩ := And.intro HV.out.rx HV.out.ry; obtain ⟨x0, x1, x2⟩ := hrx.three0; obtain ⟨y0, y1, y2, y3, y4⟩ := hry.five9; have fx0 := hrx.free 0; have fx1 := hrx.free 1; have fx2 := hrx.free 2; have fy0 := hry.free 0; have fy1 := hry.free 1; have fy2 := hry.free 2; have fy3 := hry.free 3; have fy4 := hry.free 4; clear hrx hry)
          | fail)
      all_goals
        go_split_ands
        have HEND := Lib.hid (fun E hE => HV.out.fin (E := E) hE)
        go_wp2_with fail
        obtain ⟨hbx, hby, hi, hlo, hre, hfar⟩ := HEND.out _ (by first | exact Or.inl rfl | exact Or.inr rfl)
        obtain ⟨e0, e1, e2⟩ := hbx.three0
        obtain ⟨e3, e4, e5, e6, e7⟩ := hby.five9
        exact bodyPost_ret (v := .tuple #[.agg #[.int .i64 F, .slice ta tn tc, .int .i64 r], .agg #[.int .i64 k, .int .i64 x, .int .i64 n, .int .i64 s, .int .i64 u], .int .i64 vv]) (by simp [results, Tryz.results57, go_sem, e0, e1, e2, e3, e4, e5, e6, e7]) rfl ⟨F, ta, tn, tc, xs, r, k, x, n, s, u, vv, rfl, hi, HTC.out.1, HTC.out.2, hfar, hlo, hre⟩
    · have hrb : (rr == 0) = false := by simpa using hr0
      go_wp2_with fail
      go_region_held3 (fun W9 => W9.cell? ⟨T, 0, none⟩ = some (.int .i64 F) ∧ W9.cell? ⟨T, 1, none⟩ = some (.slice ta tn tc) ∧ W9.cell? ⟨T, 2, none⟩ = some (.int .i64 r) ∧ W9.cell? ⟨Q, 0, none⟩ = some (.int .i64 k) ∧ W9.cell? ⟨Q, 1, none⟩ = some (.int .i64 x) ∧ W9.cell? ⟨Q, 2, none⟩ = some (.int .i64 n) ∧ W9.cell? ⟨Q, 3, none⟩ = some (.int .i64 s) ∧ W9.cell? ⟨Q, 4, none⟩ = some (.int .i64 u) ∧ Hid (RD B X Y T Q a l c z F ta tn tc xs r k x n s u w W9))
        (first
          | (with_reducible exact rdS (RD.putY (RD.putX HV.out _ _ _) _ _ _ _ _))
          | (with_reducible exact rdS (RD.putX (RD.putY HV.out _ _ _ _ _) _ _ _))
          | (with_reducible exact rdS (RD.putX HV.out _ _ _))
          | (with_reducible exact rdS (RD.putY HV.out _ _ _ _ _))
          | (with_reducible exact rdS HV.out)
          | (with_reducible exact rdS (RD.drew HRD.out))
          | (with_reducible exact rdS (RD.on (RD.drew HRD.out) (box_b _ _)))
          | (with_reducible exact rdS (RD.drew (RD.on HRD.out (box_b _ _))))
          | (with_reducible exact rdS (RD.on HRD.out (box_b _ _)))
          | fail)
        (first
          | (go_split_ands; go_at_call 58; ((with_reducible refine (N1.out _ _ (by with_reducible assumption)).mono ?_)); rintro e w' ⟨vv, rfl, HV⟩; obtain ⟨⟨_, _, _, hrx⟩, ⟨_, _, _, _, _, hry⟩⟩ := And.intro HV.out.rx HV.out.ry; obtain ⟨x0, x1, x2⟩ := hrx.three0; obtain ⟨y0, y1, y2, y3, y4⟩ := hry.five9; have fx0 := hrx.free 0; have fx1 := hrx.free 1; have fx2 := hrx.free 2; have fy0 := hry.free 0; have fy1 := hry.free 1; have fy2 := hry.free 2; have fy3 := hry.free 3; have fy4 := hry.free 4; clear hrx hry)
          | fail)
      all_goals
        go_split_ands
        have HEND := Lib.hid (fun E hE => HV.out.fin (E := E) hE)
        go_wp2_with fail
        obtain ⟨hbx, hby, hi, hlo, hre, hfar⟩ := HEND.out _ (by first | exact Or.inl rfl | exact Or.inr rfl)
        obtain ⟨e0, e1, e2⟩ := hbx.three0
        obtain ⟨e3, e4, e5, e6, e7⟩ := hby.five9
        exact bodyPost_ret (v := .tuple #[.agg #[.int .i64 F, .slice ta tn tc, .int .i64 r], .agg #[.int .i64 k, .int .i64 x, .int .i64 n, .int .i64 s, .int .i64 u], .int .i64 vv]) (by simp [results, Tryz.results57, go_sem, e0, e1, e2, e3, e4, e5, e6, e7]) rfl ⟨F, ta, tn, tc, xs, r, k, x, n, s, u, vv, rfl, hi, HTC.out.1, HTC.out.2, hfar, hlo, hre⟩
  · have hp2 : poB r F xs k x n s u = false := by simpa using hp
    rw [hp2] at CP
    clear hp hp2
    with_reducible refine (CP.out _ HRD).mono ?_
    rintro e w3 ⟨rfl, hb⟩
    have HRD := Lib.hid (HRD.out.on hb)
    clear hb c0 c1 c2 d0 d1 d2 d3 d4
    obtain ⟨c0, c1, c2, d0, d1, d2, d3, d4, _⟩ := rdS HRD.out
    go_wp2_with fail
    with_reducible refine (N1.out _ _ HRD).mono ?_
    rintro e w5 ⟨rr, rfl, HRD⟩
    clear c0 c1 c2 d0 d1 d2 d3 d4
    obtain ⟨c0, c1, c2, d0, d1, d2, d3, d4, _⟩ := rdS HRD.out
    have hBW := HRD.out.ready.here
    by_cases hr0 : rr = 0
    · subst hr0
      go_wp2_with fail
      go_region_held3 (fun W9 => W9.cell? ⟨T, 0, none⟩ = some (.int .i64 F) ∧ W9.cell? ⟨T, 1, none⟩ = some (.slice ta tn tc) ∧ W9.cell? ⟨T, 2, none⟩ = some (.int .i64 r) ∧ W9.cell? ⟨Q, 0, none⟩ = some (.int .i64 k) ∧ W9.cell? ⟨Q, 1, none⟩ = some (.int .i64 x) ∧ W9.cell? ⟨Q, 2, none⟩ = some (.int .i64 n) ∧ W9.cell? ⟨Q, 3, none⟩ = some (.int .i64 s) ∧ W9.cell? ⟨Q, 4, none⟩ = some (.int .i64 u) ∧ Hid (RD B X Y T Q a l c z F ta tn tc xs r k x n s u w W9))
        (first
          | (with_reducible exact rdS (RD.putY (RD.putX HV.out _ _ _) _ _ _ _ _))
          | (with_reducible exact rdS (RD.putX (RD.putY HV.out _ _ _ _ _) _ _ _))
          | (with_reducible exact rdS (RD.putX HV.out _ _ _))
          | (with_reducible exact rdS (RD.putY HV.out _ _ _ _ _))
          | (with_reducible exact rdS HV.out)
          | (with_reducible exact rdS (RD.drew HRD.out))
          | (with_reducible exact rdS (RD.on (RD.drew HRD.out) (box_b _ _)))
          | (with_reducible exact rdS (RD.drew (RD.on HRD.out (box_b _ _))))
          | (with_reducible exact rdS (RD.on HRD.out (box_b _ _)))
          | fail)
        (first
          | (go_split_ands; go_at_call 77; ((with_reducible refine (PG.out _ _ (by with_reducible assumption) ?_).mono ?_)); (· (repeat (first | (with_reducible apply Four1.new; (· simp only [World.size_alloc, size_drew1]); (· ((try simp only [World.size_alloc, size_drew1]); omega))) | (with_reducible apply Four1.drew)))); rintro e w' ⟨vv, rfl, HV⟩; obtain ⟨⟨_, _, _, hrx⟩, ⟨_, _, _, _, _, hry⟩⟩ := And.intro HV.out.rx HV.out.ry; obtain ⟨x0, x1, x2⟩ := hrx.three0; obtain ⟨y0, y1, y2, y3, y4⟩ := hry.five9; have fx0 := hrx.free 0; have fx1 := hrx.free 1; have fx2 := hrx.free 2; have fy0 := hry.free 0; have fy1 := hry.free 1; have fy2 := hry.free 2; have fy3 := hry.free 3; have fy4 := hry.free 4; clear hrx hry)
          | fail)
      all_goals
        go_split_ands
        have HEND := Lib.hid (fun E hE => HV.out.fin (E := E) hE)
        go_wp2_with fail
        obtain ⟨hbx, hby, hi, hlo, hre, hfar⟩ := HEND.out _ (by first | exact Or.inl rfl | exact Or.inr rfl)
        obtain ⟨e0, e1, e2⟩ := hbx.three0
        obtain ⟨e3, e4, e5, e6, e7⟩ := hby.five9
        exact bodyPost_ret (v := .tuple #[.agg #[.int .i64 F, .slice ta tn tc, .int .i64 r], .agg #[.int .i64 k, .int .i64 x, .int .i64 n, .int .i64 s, .int .i64 u], .int .i64 vv]) (by simp [results, Tryz.results57, go_sem, e0, e1, e2, e3, e4, e5, e6, e7]) rfl ⟨F, ta, tn, tc, xs, r, k, x, n, s, u, vv, rfl, hi, HTC.out.1, HTC.out.2, hfar, hlo, hre⟩
    · have hrb : (rr == 0) = false := by simpa using hr0
      go_wp2_with fail
      go_region_held3 (fun W9 => W9.cell? ⟨T, 0, none⟩ = some (.int .i64 F) ∧ W9.cell? ⟨T, 1, none⟩ = some (.slice ta tn tc) ∧ W9.cell? ⟨T, 2, none⟩ = some (.int .i64 r) ∧ W9.cell? ⟨Q, 0, none⟩ = some (.int .i64 k) ∧ W9.cell? ⟨Q, 1, none⟩ = some (.int .i64 x) ∧ W9.cell? ⟨Q, 2, none⟩ = some (.int .i64 n) ∧ W9.cell? ⟨Q, 3, none⟩ = some (.int .i64 s) ∧ W9.cell? ⟨Q, 4, none⟩ = some (.int .i64 u) ∧ Hid (RD B X Y T Q a l c z F ta tn tc xs r k x n s u w W9))
        (first
          | (with_reducible exact rdS (RD.putY (RD.putX HV.out _ _ _) _ _ _ _ _))
          | (with_reducible exact rdS (RD.putX (RD.putY HV.out _ _ _ _ _) _ _ _))
          | (with_reducible exact rdS (RD.putX HV.out _ _ _))
          | (with_reducible exact rdS (RD.putY HV.out _ _ _ _ _))
          | (with_reducible exact rdS HV.out)
          | (with_reducible exact rdS (RD.drew HRD.out))
          | (with_reducible exact rdS (RD.on (RD.drew HRD.out) (box_b _ _)))
          | (with_reducible exact rdS (RD.drew (RD.on HRD.out (box_b _ _))))
          | (with_reducible exact rdS (RD.on HRD.out (box_b _ _)))
          | fail)
        (first
          | (go_split_ands; go_at_call 58; ((with_reducible refine (N1.out _ _ (by with_reducible assumption)).mono ?_)); rintro e w' ⟨vv, rfl, HV⟩; obtain ⟨⟨_, _, _, hrx⟩, ⟨_, _, _, _, _, hry⟩⟩ := And.intro HV.out.rx HV.out.ry; obtain ⟨x0, x1, x2⟩ := hrx.three0; obtain ⟨y0, y1, y2, y3, y4⟩ := hry.five9; have fx0 := hrx.free 0; have fx1 := hrx.free 1; have fx2 := hrx.free 2; have fy0 := hry.free 0; have fy1 := hry.free 1; have fy2 := hry.free 2; have fy3 := hry.free 3; have fy4 := hry.free 4; clear hrx hry)
          | fail)
      all_goals
        go_split_ands
        have HEND := Lib.hid (fun E hE => HV.out.fin (E := E) hE)
        go_wp2_with fail
        obtain ⟨hbx, hby, hi, hlo, hre, hfar⟩ := HEND.out _ (by first | exact Or.inl rfl | exact Or.inr rfl)
        obtain ⟨e0, e1, e2⟩ := hbx.three0
        obtain ⟨e3, e4, e5, e6, e7⟩ := hby.five9
        exact bodyPost_ret (v := .tuple #[.agg #[.int .i64 F, .slice ta tn tc, .int .i64 r], .agg #[.int .i64 k, .int .i64 x, .int .i64 n, .int .i64 s, .int .i64 u], .int .i64 vv]) (by simp [results, Tryz.results57, go_sem, e0, e1, e2, e3, e4, e5, e6, e7]) rfl ⟨F, ta, tn, tc, xs, r, k, x, n, s, u, vv, rfl, hi, HTC.out.1, HTC.out.2, hfar, hlo, hre⟩

def DhPost (w : World) (e : Ending) (w' : World) : Prop :=
  ∃ F ta tn tc xs r k x n s u j, e = .returned (.tuple #[.agg #[.int .i64 F, .slice ta tn tc, .int .i64 r], .agg #[.int .i64 k, .int .i64 x, .int .i64 n, .int .i64 s, .int .i64 u], .int .i64 j]) ∧ Ints w' ta tn xs ∧ tn ≤ tc ∧ tn ≤ 4096 ∧ Below w.heap.size w w'

end Go.Proofs.YtdlfofdibooidaaGreat

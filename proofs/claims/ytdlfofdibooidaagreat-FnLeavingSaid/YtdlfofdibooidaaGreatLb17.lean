/- Merged: Dpo. -/
import Derived.Test.YtdlfofdibooidaaGreatLb11
import Derived.Test.YtdlfofdibooidaaGreatLb16
import Derived.Lib.SmallJoins

/- Policies: the model's draw of a basis and a policy. (Written by wip/gen/dpo.py.) -/
namespace Go.Proofs.YtdlfofdibooidaaGreat
open Go.ChangeShapes Go.WideShapes Go.ChangeAt Go.RowKit
set_option linter.unusedVariables false
set_option linter.unusedSimpArgs false

theorem Ints.farT {w w' : World} {a : Option Addr} {l B : Nat} {xs : List Int} (h : Ints w a l xs) (ho : ∀ k, k ≠ B → w'.heap[k]? = w.heap[k]?) (hne : 0 < l → ∀ x, a = some x → x.block ≠ B) : Ints w' a l xs := by
  refine ⟨h.len, h.max, ?_⟩
  rcases h.cells with h0 | ⟨b, off, rfl, hc⟩
  · exact .inl h0
  · by_cases hl : l = 0
    · exact .inl hl
    · exact .inr ⟨b, off, rfl, fun i hi => (World.cell?_of_block (w := w) (a := ⟨b, off + i, none⟩) (ho b (hne (by omega) ⟨b, off, none⟩ rfl))).trans (hc i hi)⟩

theorem Ints.lo {w : World} {a : Option Addr} {l : Nat} {xs : List Int} (h : Ints w a l xs) : 0 < l → ∀ x, a = some x → x.block < w.heap.size := by
  intro hl y hy
  rcases h.cells with h0 | ⟨b, off, rfl, hc⟩
  · omega
  · obtain rfl : (⟨b, off, none⟩ : Addr) = y := by simpa using hy
    exact block_lt (p := ⟨b, off + 0, none⟩) (hc 0 hl)

theorem Bx.five9 {w : World} {B : Nat} {x y z u v : Value} (h : Bx w B [x, y, z, u, v]) : w.cell? ⟨B, 0, none⟩ = some x ∧ w.cell? ⟨B, 1, none⟩ = some y ∧ w.cell? ⟨B, 2, none⟩ = some z ∧ w.cell? ⟨B, 3, none⟩ = some u ∧ w.cell? ⟨B, 4, none⟩ = some v := by
  obtain ⟨T, h⟩ := h
  simp [World.cell?, h]

theorem Bx.three0 {w : World} {B : Nat} {x y z : Value} (h : Bx w B [x, y, z]) : w.cell? ⟨B, 0, none⟩ = some x ∧ w.cell? ⟨B, 1, none⟩ = some y ∧ w.cell? ⟨B, 2, none⟩ = some z := by
  obtain ⟨T, h⟩ := h
  simp [World.cell?, h]

theorem Bx.putA {w : World} {B i : Nat} {vs : List Value} (h : Bx w B vs) (v : Value) : Bx (w.setCell ⟨B, i, none⟩ v) B (vs.toArray.setIfInBounds i v).toList := by
  obtain ⟨T, h⟩ := h
  exact ⟨T, by rw [Joins.block_setCell h]⟩

theorem Bx.p30 {w : World} {B : Nat} {x0 x1 x2 : Value} (h : Bx w B [x0, x1, x2]) (v : Value) : Bx (w.setCell ⟨B, 0, none⟩ v) B [v, x1, x2] := by
  have := h.putA (i := 0) v
  simpa using this

theorem Bx.p31 {w : World} {B : Nat} {x0 x1 x2 : Value} (h : Bx w B [x0, x1, x2]) (v : Value) : Bx (w.setCell ⟨B, 1, none⟩ v) B [x0, v, x2] := by
  have := h.putA (i := 1) v
  simpa using this

theorem Bx.p32 {w : World} {B : Nat} {x0 x1 x2 : Value} (h : Bx w B [x0, x1, x2]) (v : Value) : Bx (w.setCell ⟨B, 2, none⟩ v) B [x0, x1, v] := by
  have := h.putA (i := 2) v
  simpa using this

theorem Bx.p50 {w : World} {B : Nat} {x0 x1 x2 x3 x4 : Value} (h : Bx w B [x0, x1, x2, x3, x4]) (v : Value) : Bx (w.setCell ⟨B, 0, none⟩ v) B [v, x1, x2, x3, x4] := by
  have := h.putA (i := 0) v
  simpa using this

theorem Bx.p51 {w : World} {B : Nat} {x0 x1 x2 x3 x4 : Value} (h : Bx w B [x0, x1, x2, x3, x4]) (v : Value) : Bx (w.setCell ⟨B, 1, none⟩ v) B [x0, v, x2, x3, x4] := by
  have := h.putA (i := 1) v
  simpa using this

theorem Bx.p52 {w : World} {B : Nat} {x0 x1 x2 x3 x4 : Value} (h : Bx w B [x0, x1, x2, x3, x4]) (v : Value) : Bx (w.setCell ⟨B, 2, none⟩ v) B [x0, x1, v, x3, x4] := by
  have := h.putA (i := 2) v
  simpa using this

theorem Bx.p53 {w : World} {B : Nat} {x0 x1 x2 x3 x4 : Value} (h : Bx w B [x0, x1, x2, x3, x4]) (v : Value) : Bx (w.setCell ⟨B, 3, none⟩ v) B [x0, x1, x2, v, x4] := by
  have := h.putA (i := 3) v
  simpa using this

theorem Bx.p54 {w : World} {B : Nat} {x0 x1 x2 x3 x4 : Value} (h : Bx w B [x0, x1, x2, x3, x4]) (v : Value) : Bx (w.setCell ⟨B, 4, none⟩ v) B [x0, x1, x2, x3, v] := by
  have := h.putA (i := 4) v
  simpa using this

/-- in the midst of the draw: X, Y the results, T the table's box, P the policy, Q the basis -/
structure DP (B X Y T P Q : Nat) (a : Option Addr) (l c : Nat) (z : List Int) (F : Int) (ta : Option Addr) (tn tc : Nat) (xs : List Int) (r k x n s u : Int) (w W : World) : Prop where
  ready : Ready B a l c z W
  but : But B w W
  rx : Bx W X [.int .i64 0, .slice none 0 0, .int .i64 0]
  ry : Bx W Y [.int .i64 0, .int .i64 0, .int .i64 0, .int .i64 0, .int .i64 0]
  t : Bx W T [.int .i64 F, .slice ta tn tc]
  p : Bx W P [.int .i64 k, .int .i64 x, .int .i64 n, .int .i64 s, .int .i64 u]
  q : Bx W Q [.int .i64 F, .slice ta tn tc, .int .i64 r]
  ints : Ints W ta tn xs
  far : ∀ y, ta = some y → Y < y.block
  lo : 0 < tn → ∀ y, ta = some y → y.block < T
  eX : w.heap.size = X
  oB : B < X
  oX : X < Y
  oY : Y < T
  oT : T < P
  oP : P < Q

theorem DP.call {B X Y T P Q : Nat} {a : Option Addr} {l c : Nat} {z : List Int} {F : Int} {ta : Option Addr} {tn tc : Nat} {xs : List Int} {r k x n s u : Int} {w : World} {W W' : World} (h : DP B X Y T P Q a l c z F ta tn tc xs r k x n s u w W) (ho : But B W W') (hs : Ready B a l c z W') : DP B X Y T P Q a l c z F ta tn tc xs r k x n s u w W' := by
  have h1 := h.oB
  have h2 := h.oX
  have h3 := h.oY
  have h4 := h.oT
  have h5 := h.oP
  exact ⟨hs, h.but.trans ho, h.rx.same (ho.block X h.rx.lt (by omega)), h.ry.same (ho.block Y h.ry.lt (by omega)), h.t.same (ho.block T h.t.lt (by omega)), h.p.same (ho.block P h.p.lt (by omega)), h.q.same (ho.block Q h.q.lt (by omega)),
    h.ints.butT ho (fun y hy => by have := h.far y hy; omega), h.far, h.lo, h.eX, h1, h2, h3, h4, h5⟩

theorem DP.on {B X Y T P Q : Nat} {a : Option Addr} {l c : Nat} {z : List Int} {F : Int} {ta : Option Addr} {tn tc : Nat} {xs : List Int} {r k x n s u : Int} {w : World} {W W' : World} (h : DP B X Y T P Q a l c z F ta tn tc xs r k x n s u w W) (hb : Below W.heap.size W W') : DP B X Y T P Q a l c z F ta tn tc xs r k x n s u w W' :=
  h.call ⟨hb.os, hb.tape, hb.output, hb.size, fun i hi _ => hb.block i hi⟩ (h.ready.below hb h.ready.here)

theorem DP.drew {B X Y T P Q : Nat} {a : Option Addr} {l c : Nat} {z : List Int} {F : Int} {ta : Option Addr} {tn tc : Nat} {xs : List Int} {r k x n s u : Int} {w : World} {W : World} (h : DP B X Y T P Q a l c z F ta tn tc xs r k x n s u w W) : DP B X Y T P Q a l c z F ta tn tc xs r k x n s u w W.drew := h.call (But.refl _ _).drew h.ready.drew

/-- a store into the policy -/
theorem DP.setP {B X Y T P Q : Nat} {a : Option Addr} {l c : Nat} {z : List Int} {F : Int} {ta : Option Addr} {tn tc : Nat} {xs : List Int} {r k x n s u : Int} {w : World} {W : World} (h : DP B X Y T P Q a l c z F ta tn tc xs r k x n s u w W) (i : Nat) (v : Value) {k' x' n' s' u' : Int} (he : ([.int .i64 k, .int .i64 x, .int .i64 n, .int .i64 s, .int .i64 u].toArray.setIfInBounds i v).toList = [.int .i64 k', .int .i64 x', .int .i64 n', .int .i64 s', .int .i64 u']) (hk : k' = k) :
    DP B X Y T P Q a l c z F ta tn tc xs r k x' n' s' u' w (W.setCell ⟨P, i, none⟩ v) := by
  subst hk
  have h1 := h.oB
  have h2 := h.oX
  have h3 := h.oY
  have h4 := h.oT
  have h5 := h.oP
  have eX := h.eX
  have far : ∀ j, j ≠ P → (W.setCell ⟨P, i, none⟩ v).heap[j]? = W.heap[j]? := fun j hj => Below.heap_setCell _ _ _ _ hj
  have hlow : Below P W (W.setCell ⟨P, i, none⟩ v) := (Below.refl P W).setCell (p := ⟨P, i, none⟩) (Nat.le_refl _) _
  have hp := h.p.putA (i := i) v
  rw [he] at hp
  exact ⟨h.ready.below hlow (by omega), ⟨h.but.os, h.but.tape, h.but.output, by have := h.but.size; simpa [World.setCell] using this, fun j hj hne => (far j (by omega)).trans (h.but.block j hj hne)⟩, h.rx.same (far X (by omega)), h.ry.same (far Y (by omega)), h.t.same (far T (by omega)), hp, h.q.same (far Q (by omega)),
    h.ints.farT far (fun hl y hy => by have := h.lo hl y hy; omega), h.far, h.lo, eX, h1, h2, h3, h4, h5⟩

theorem DP.setX {B X Y T P Q : Nat} {a : Option Addr} {l c : Nat} {z : List Int} {F : Int} {ta : Option Addr} {tn tc : Nat} {xs : List Int} {r k x n s u : Int} {w : World} {W : World} (h : DP B X Y T P Q a l c z F ta tn tc xs r k x n s u w W) (v : Int) : DP B X Y T P Q a l c z F ta tn tc xs r k v n s u w (W.setCell ⟨P, 1, none⟩ (.int .i64 v)) := h.setP 1 _ rfl rfl

theorem DP.setN {B X Y T P Q : Nat} {a : Option Addr} {l c : Nat} {z : List Int} {F : Int} {ta : Option Addr} {tn tc : Nat} {xs : List Int} {r k x n s u : Int} {w : World} {W : World} (h : DP B X Y T P Q a l c z F ta tn tc xs r k x n s u w W) (v : Int) : DP B X Y T P Q a l c z F ta tn tc xs r k x v s u w (W.setCell ⟨P, 2, none⟩ (.int .i64 v)) := h.setP 2 _ rfl rfl

theorem DP.setU {B X Y T P Q : Nat} {a : Option Addr} {l c : Nat} {z : List Int} {F : Int} {ta : Option Addr} {tn tc : Nat} {xs : List Int} {r k x n s u : Int} {w : World} {W : World} (h : DP B X Y T P Q a l c z F ta tn tc xs r k x n s u w W) (v : Int) : DP B X Y T P Q a l c z F ta tn tc xs r k x n s v w (W.setCell ⟨P, 4, none⟩ (.int .i64 v)) := h.setP 4 _ rfl rfl

theorem setoff (W : World) (b i : Nat) (v : Value) (j : Nat) (hj : j ≠ b) : (W.setCell ⟨b, i, none⟩ v).heap[j]? = W.heap[j]? := Below.heap_setCell _ _ _ _ hj

theorem Bx.off {w : World} {B C : Nat} {vs : List Value} (h : Bx w B vs) (hne : B ≠ C) (i : Nat) (v : Value) : Bx (w.setCell ⟨C, i, none⟩ v) B vs := h.same (setoff w C i v B hne)

set_option maxHeartbeats 1000000 in
theorem DP.end {B X Y T P Q : Nat} {a : Option Addr} {l c : Nat} {z : List Int} {F : Int} {ta : Option Addr} {tn tc : Nat} {xs : List Int} {r k x n s u : Int} {w : World} {V E : World} (h : DP B X Y T P Q a l c z F ta tn tc xs r k x n s u w V) (hE : E = ((((((((V.setCell ⟨X, 0, none⟩ (.int .i64 F)).setCell ⟨X, 1, none⟩ (.slice ta tn tc)).setCell ⟨X, 2, none⟩ (.int .i64 r)).setCell ⟨Y, 0, none⟩ (.int .i64 k)).setCell ⟨Y, 1, none⟩ (.int .i64 x)).setCell ⟨Y, 2, none⟩ (.int .i64 n)).setCell ⟨Y, 3, none⟩ (.int .i64 s)).setCell ⟨Y, 4, none⟩ (.int .i64 u)).drew) : Bx E X [.int .i64 F, .slice ta tn tc, .int .i64 r] ∧ Bx E Y [.int .i64 k, .int .i64 x, .int .i64 n, .int .i64 s, .int .i64 u] ∧ Ints E ta tn xs ∧ But B w E ∧ Ready B a l c z E := by
  have h1 := h.oB
  have h2 := h.oX
  have eX := h.eX
  have nXY : X ≠ Y := by omega
  have nYX : Y ≠ X := by omega
  have x8 := ((((((((h.rx.p30 (.int .i64 F)).p31 (.slice ta tn tc)).p32 (.int .i64 r)).off nXY 0 (.int .i64 k)).off nXY 1 (.int .i64 x)).off nXY 2 (.int .i64 n)).off nXY 3 (.int .i64 s)).off nXY 4 (.int .i64 u))
  have y8 := ((((((((h.ry.off nYX 0 (.int .i64 F)).off nYX 1 (.slice ta tn tc)).off nYX 2 (.int .i64 r)).p50 (.int .i64 k)).p51 (.int .i64 x)).p52 (.int .i64 n)).p53 (.int .i64 s)).p54 (.int .i64 u))
  have hlow := (((((((((Below.refl X V).setCell (p := ⟨X, 0, none⟩) (by show X ≤ X; omega) (.int .i64 F)).setCell (p := ⟨X, 1, none⟩) (by show X ≤ X; omega) (.slice ta tn tc)).setCell (p := ⟨X, 2, none⟩) (by show X ≤ X; omega) (.int .i64 r)).setCell (p := ⟨Y, 0, none⟩) (by show X ≤ Y; omega) (.int .i64 k)).setCell (p := ⟨Y, 1, none⟩) (by show X ≤ Y; omega) (.int .i64 x)).setCell (p := ⟨Y, 2, none⟩) (by show X ≤ Y; omega) (.int .i64 n)).setCell (p := ⟨Y, 3, none⟩) (by show X ≤ Y; omega) (.int .i64 s)).setCell (p := ⟨Y, 4, none⟩) (by show X ≤ Y; omega) (.int .i64 u))
  have hall : ∀ j, j ≠ X → j ≠ Y → ((((((((V.setCell ⟨X, 0, none⟩ (.int .i64 F)).setCell ⟨X, 1, none⟩ (.slice ta tn tc)).setCell ⟨X, 2, none⟩ (.int .i64 r)).setCell ⟨Y, 0, none⟩ (.int .i64 k)).setCell ⟨Y, 1, none⟩ (.int .i64 x)).setCell ⟨Y, 2, none⟩ (.int .i64 n)).setCell ⟨Y, 3, none⟩ (.int .i64 s)).setCell ⟨Y, 4, none⟩ (.int .i64 u)).heap[j]? = V.heap[j]? := fun j hx hy => ((setoff (((((((V.setCell ⟨X, 0, none⟩ (.int .i64 F)).setCell ⟨X, 1, none⟩ (.slice ta tn tc)).setCell ⟨X, 2, none⟩ (.int .i64 r)).setCell ⟨Y, 0, none⟩ (.int .i64 k)).setCell ⟨Y, 1, none⟩ (.int .i64 x)).setCell ⟨Y, 2, none⟩ (.int .i64 n)).setCell ⟨Y, 3, none⟩ (.int .i64 s)) Y 4 (.int .i64 u) j hy).trans ((setoff ((((((V.setCell ⟨X, 0, none⟩ (.int .i64 F)).setCell ⟨X, 1, none⟩ (.slice ta tn tc)).setCell ⟨X, 2, none⟩ (.int .i64 r)).setCell ⟨Y, 0, none⟩ (.int .i64 k)).setCell ⟨Y, 1, none⟩ (.int .i64 x)).setCell ⟨Y, 2, none⟩ (.int .i64 n)) Y 3 (.int .i64 s) j hy).trans ((setoff (((((V.setCell ⟨X, 0, none⟩ (.int .i64 F)).setCell ⟨X, 1, none⟩ (.slice ta tn tc)).setCell ⟨X, 2, none⟩ (.int .i64 r)).setCell ⟨Y, 0, none⟩ (.int .i64 k)).setCell ⟨Y, 1, none⟩ (.int .i64 x)) Y 2 (.int .i64 n) j hy).trans ((setoff ((((V.setCell ⟨X, 0, none⟩ (.int .i64 F)).setCell ⟨X, 1, none⟩ (.slice ta tn tc)).setCell ⟨X, 2, none⟩ (.int .i64 r)).setCell ⟨Y, 0, none⟩ (.int .i64 k)) Y 1 (.int .i64 x) j hy).trans ((setoff (((V.setCell ⟨X, 0, none⟩ (.int .i64 F)).setCell ⟨X, 1, none⟩ (.slice ta tn tc)).setCell ⟨X, 2, none⟩ (.int .i64 r)) Y 0 (.int .i64 k) j hy).trans ((setoff ((V.setCell ⟨X, 0, none⟩ (.int .i64 F)).setCell ⟨X, 1, none⟩ (.slice ta tn tc)) X 2 (.int .i64 r) j hx).trans ((setoff (V.setCell ⟨X, 0, none⟩ (.int .i64 F)) X 1 (.slice ta tn tc) j hx).trans (setoff V X 0 (.int .i64 F) j hx))))))))
  obtain ⟨G, hG⟩ : ∃ y_, ((((((((V.setCell ⟨X, 0, none⟩ (.int .i64 F)).setCell ⟨X, 1, none⟩ (.slice ta tn tc)).setCell ⟨X, 2, none⟩ (.int .i64 r)).setCell ⟨Y, 0, none⟩ (.int .i64 k)).setCell ⟨Y, 1, none⟩ (.int .i64 x)).setCell ⟨Y, 2, none⟩ (.int .i64 n)).setCell ⟨Y, 3, none⟩ (.int .i64 s)).setCell ⟨Y, 4, none⟩ (.int .i64 u)) = y_ := ⟨_, rfl⟩
  rw [hG] at x8 y8 hlow hall hE
  clear hG
  subst hE
  refine ⟨x8, y8, ?_, ⟨hlow.os.trans h.but.os, hlow.tape.trans h.but.tape, hlow.output.trans h.but.output, Nat.le_trans h.but.size hlow.size, fun j hj hne => (hall j (by omega) (by omega)).trans (h.but.block j hj hne)⟩, (h.ready.below hlow h1).drew⟩
  refine ⟨h.ints.len, h.ints.max, ?_⟩
  rcases h.ints.cells with h0 | ⟨b, off, rfl, hc⟩
  · exact .inl h0
  · refine .inr ⟨b, off, rfl, fun i hi => ?_⟩
    have hb : Y < b := h.far ⟨b, off, none⟩ rfl
    exact (World.cell?_of_block (w := V) (a := ⟨b, off + i, none⟩) (hall b (by omega) (by omega))).trans (hc i hi)

/-- what the draw's drawn regions load -/
theorem dpS {B X Y T P Q : Nat} {a : Option Addr} {l c : Nat} {z : List Int} {F : Int} {ta : Option Addr} {tn tc : Nat} {xs : List Int} {r k x n s u : Int} {w : World} {W : World} (h : DP B X Y T P Q a l c z F ta tn tc xs r k x n s u w W) :
    W.cell? ⟨T, 0, none⟩ = some (.int .i64 F) ∧ W.cell? ⟨T, 1, none⟩ = some (.slice ta tn tc) ∧ W.cell? ⟨P, 1, none⟩ = some (.int .i64 x) ∧ W.cell? ⟨P, 2, none⟩ = some (.int .i64 n) ∧ Hid (DP B X Y T P Q a l c z F ta tn tc xs r k x n s u w W) := by
  obtain ⟨c0, c1⟩ := h.t.two
  obtain ⟨-, d1, d2, -, -⟩ := h.p.five9
  exact ⟨c0, c1, d1, d2, Lib.hid h⟩

/-- .. before the policy is made -/
structure D0 (B X Y T : Nat) (a : Option Addr) (l c : Nat) (z : List Int) (F : Int) (ta : Option Addr) (tn tc : Nat) (xs : List Int) (w W : World) : Prop where
  ready : Ready B a l c z W
  but : But B w W
  rx : Bx W X [.int .i64 0, .slice none 0 0, .int .i64 0]
  ry : Bx W Y [.int .i64 0, .int .i64 0, .int .i64 0, .int .i64 0, .int .i64 0]
  t : Bx W T [.int .i64 F, .slice ta tn tc]
  ints : Ints W ta tn xs
  far : ∀ y, ta = some y → Y < y.block
  lo : 0 < tn → ∀ y, ta = some y → y.block < T
  eX : w.heap.size = X
  oB : B < X
  oX : X < Y
  oY : Y < T

theorem D0.call {B X Y T : Nat} {a : Option Addr} {l c : Nat} {z : List Int} {F : Int} {ta : Option Addr} {tn tc : Nat} {xs : List Int} {w W W' : World} (h : D0 B X Y T a l c z F ta tn tc xs w W) (ho : But B W W') (hs : Ready B a l c z W') : D0 B X Y T a l c z F ta tn tc xs w W' := by
  have h1 := h.oB
  have h2 := h.oX
  have h3 := h.oY
  exact ⟨hs, h.but.trans ho, h.rx.same (ho.block X h.rx.lt (by omega)), h.ry.same (ho.block Y h.ry.lt (by omega)), h.t.same (ho.block T h.t.lt (by omega)),
    h.ints.butT ho (fun y hy => by have := h.far y hy; omega), h.far, h.lo, h.eX, h1, h2, h3⟩

theorem DP.new {B X Y T : Nat} {a : Option Addr} {l c : Nat} {z : List Int} {F : Int} {ta : Option Addr} {tn tc : Nat} {xs : List Int} {w W : World} (h : D0 B X Y T a l c z F ta tn tc xs w W) (r k x n s u : Int) :
    DP B X Y T W.heap.size (W.heap.size + 1) a l c z F ta tn tc xs r k x n s u w ((W.alloc (.cells #[.int .i64 k, .int .i64 x, .int .i64 n, .int .i64 s, .int .i64 u] 30)).alloc (.cells #[.int .i64 F, .slice ta tn tc, .int .i64 r] 28)) := by
  have b1 := box_b W (.cells #[.int .i64 k, .int .i64 x, .int .i64 n, .int .i64 s, .int .i64 u] 30)
  have b2 := box_b (W.alloc (.cells #[.int .i64 k, .int .i64 x, .int .i64 n, .int .i64 s, .int .i64 u] 30)) (.cells #[.int .i64 F, .slice ta tn tc, .int .i64 r] 28)
  have hb := b1.trans (b2.mono (by simp))
  have p1 := (Bx.new W [.int .i64 k, .int .i64 x, .int .i64 n, .int .i64 s, .int .i64 u] 30).on b2
  have q1 := Bx.new (W.alloc (.cells #[.int .i64 k, .int .i64 x, .int .i64 n, .int .i64 s, .int .i64 u] 30)) [.int .i64 F, .slice ta tn tc, .int .i64 r] 28
  rw [World.size_alloc] at q1
  have ht := h.t.lt
  exact ⟨h.ready.below hb h.ready.here, h.but.trans ⟨hb.os, hb.tape, hb.output, hb.size, fun i hi _ => hb.block i hi⟩, h.rx.on hb, h.ry.on hb, h.t.on hb, p1, q1, h.ints.on hb, h.far, h.lo, h.eX, h.oB, h.oX, h.oY, ht, by omega⟩

/-- a drawn basis and a drawn policy -/
def Drawn10 (B : Nat) (a : Option Addr) (l c : Nat) (z : List Int) (w : World) (e : Ending) (w' : World) : Prop :=
  ∃ F ta tn tc xs r k x n s u, e = .returned (.tuple #[.agg #[.int .i64 F, .slice ta tn tc, .int .i64 r], .agg #[.int .i64 k, .int .i64 x, .int .i64 n, .int .i64 s, .int .i64 u]]) ∧ Ints w' ta tn xs ∧ tn ≤ tc ∧ tn ≤ 4096 ∧ (∀ y, ta = some y → w.heap.size + 1 < y.block) ∧ But B w w' ∧ Ready B a l c z w'

def LoopR (B X Y T P Q : Nat) (a : Option Addr) (l c : Nat) (z : List Int) (F : Int) (ta : Option Addr) (tn tc : Nat) (xs : List Int) (r k : Int) (w : World) (v : Value) (wr : World) : Prop :=
  ∃ (j : Nat) (x n s u : Int), j ≤ 6 ∧ v = .int .i64 j ∧ Hid (DP B X Y T P Q a l c z F ta tn tc xs r k x n s u w wr)

set_option maxRecDepth 2000000 in
set_option maxHeartbeats 16000000 in
theorem d10 (B : Nat) (a : Option Addr) (l c : Nat) (z : List Int) (w : World) (h : Ready B a l c z w) : Calls Tryz.prog 47 #[.pointer (some ⟨B, 0, none⟩)] w (Drawn10 B a l c z w) := by
  have hB := h.here
  have b1 := box_b w (.cells #[.int .i64 0, .slice none 0 0, .int .i64 0] 28)
  have b2 := box_b (w.alloc (.cells #[.int .i64 0, .slice none 0 0, .int .i64 0] 28)) (.cells #[.int .i64 0, .int .i64 0, .int .i64 0, .int .i64 0, .int .i64 0] 30)
  have x0 := (Bx.new w [.int .i64 0, .slice none 0 0, .int .i64 0] 28).on b2
  have y0 := Bx.new (w.alloc (.cells #[.int .i64 0, .slice none 0 0, .int .i64 0] 28)) [.int .i64 0, .int .i64 0, .int .i64 0, .int .i64 0, .int .i64 0] 30
  rw [World.size_alloc] at y0
  have HX := Lib.hid (And.intro x0 y0)
  have HB := Lib.hid (b1.trans (b2.mono (by simp)))
  have HS := Lib.hid (h.below HB.out hB)
  clear h b1 b2 x0 y0
  go_enter Tryz.func47, Tryz.ntmps47
  go_wp2_with fail
  have hsz : ((w.alloc (.cells #[.int .i64 0, .slice none 0 0, .int .i64 0] 28)).alloc (.cells #[.int .i64 0, .int .i64 0, .int .i64 0, .int .i64 0, .int .i64 0] 30)).heap.size = w.heap.size + 2 := by simp
  obtain ⟨W0, hW0⟩ : ∃ y_, (w.alloc (.cells #[.int .i64 0, .slice none 0 0, .int .i64 0] 28)).alloc (.cells #[.int .i64 0, .int .i64 0, .int .i64 0, .int .i64 0, .int .i64 0] 30) = y_ := ⟨_, rfl⟩
  rw [hW0] at HX HB HS hsz ⊢
  clear hW0
  refine (d07 B a l c z _ HS.out).mono ?_
  rintro e w2 ⟨F, ta, tn, tc, xs, r, k, x, n, rfl, hI, htc, htn, f0, f1, far, ho, hs⟩
  have hT := box_b w2 (.cells #[.int .i64 F, .slice ta tn tc] 26)
  have H0 : Hid (D0 B w.heap.size (w.heap.size + 1) w2.heap.size a l c z F ta tn tc xs w (w2.alloc (.cells #[.int .i64 F, .slice ta tn tc] 26))) := Lib.hid (by
    have hsz2 := ho.size
    have hx := HX.out.1
    have hy := HX.out.2
    exact ⟨hs.alloc _, ((show But B w W0 from ⟨HB.out.os, HB.out.tape, HB.out.output, HB.out.size, fun i hi _ => HB.out.block i hi⟩).trans ho).trans (But.alloc _), ((hx.same (ho.block _ hx.lt (by omega))).on hT), ((hy.same (ho.block _ hy.lt (by omega))).on hT), Bx.new w2 _ _, hI.on hT, fun y hy => by have := far y hy; omega, hI.lo, rfl, hB, by omega, by omega⟩)
  have HTC := Lib.hid (And.intro htc htn)
  clear hs ho far hI HS HX HB hT hsz htc htn
  obtain ⟨X, hX⟩ : ∃ y_, w.heap.size = y_ := ⟨_, rfl⟩
  obtain ⟨Y, hY⟩ : ∃ y_, X + 1 = y_ := ⟨_, rfl⟩
  obtain ⟨T, hTT⟩ : ∃ y_, w2.heap.size = y_ := ⟨_, rfl⟩
  rw [hX, hY, hTT] at H0
  obtain ⟨V0, hV0⟩ : ∃ y_, w2.alloc (.cells #[.int .i64 F, .slice ta tn tc] 26) = y_ := ⟨_, rfl⟩
  rw [hV0] at H0
  have HXX := Lib.hid (And.intro hX hY)
  go_wp2_with fail
  (try rw [hV0])
  clear hV0
  refine (sum7_r B a l c z _ H0.out.ready).mono ?_
  rintro e w3 ⟨s, rfl, -, ho, hs⟩
  have H0 := Lib.hid (H0.out.call ho hs)
  clear ho hs
  go_wp2_with fail
  refine (next_r B a l c z 300 _ H0.out.ready).mono ?_
  rintro e w4 ⟨dd, rfl, -, ho, hs⟩
  have H0 := Lib.hid (H0.out.call ho hs)
  clear ho hs
  go_wp2_with fail
  refine (pick4 B 0 50 100 dd _ _ H0.out.ready).mono ?_
  rintro e w5 ⟨u, rfl, -, ho, hs⟩
  have H0 := Lib.hid (H0.out.call ho hs)
  clear ho hs
  have HP := Lib.hid (DP.new H0.out r k x n s u)
  obtain ⟨t0, t1⟩ := (H0.out.t.on (box_b w5 (.cells #[.int .i64 k, .int .i64 x, .int .i64 n, .int .i64 s, .int .i64 u] 30))).two
  go_wp2_with fail
  obtain ⟨W6, hW6⟩ : ∃ y_, (w5.alloc (.cells #[.int .i64 k, .int .i64 x, .int .i64 n, .int .i64 s, .int .i64 u] 30)).alloc (.cells #[.int .i64 F, .slice ta tn tc, .int .i64 r] 28) = y_ := ⟨_, rfl⟩
  obtain ⟨P, hPP⟩ : ∃ y_, w5.heap.size = y_ := ⟨_, rfl⟩
  obtain ⟨Q, hQQ⟩ : ∃ y_, P + 1 = y_ := ⟨_, rfl⟩
  rw [hW6, hPP, hQQ] at HP
  (try rw [hW6])
  (try rw [hPP])
  (try rw [hQQ])
  clear hW6 hPP hQQ t0 t1 H0 hX hY hTT hB
  have CBA : Hid (∀ W, Ints W ta tn xs → Calls Tryz.prog 78 #[.agg #[.int .i64 F, .slice ta tn tc, .int .i64 r]] W fun e w' => e = .returned (.bool (baB r F xs)) ∧ Below W.heap.size W w') := Lib.hid (fun W hW => sbas_any r F xs ta tn tc W hW)
  have CPO : Hid (∀ x n s u W, Ints W ta tn xs → Calls Tryz.prog 50 #[.agg #[.int .i64 F, .slice ta tn tc, .int .i64 r], .agg #[.int .i64 k, .int .i64 x, .int .i64 n, .int .i64 s, .int .i64 u]] W fun e w' => e = .returned (.bool (poB r F xs k x n s u)) ∧ Below W.heap.size W w') := Lib.hid (fun x n s u W hW => spol_any r F xs ta tn tc k x n s u W hW)
  have hsm := HTC.out.2
  go_loopw [11] (fun v wr => LoopR B X Y T P Q a l c z F ta tn tc xs r k w v wr) (fun v _ => 6 - (intOf v).toNat)
  case atStart => exact ⟨0, x, n, s, u, by omega, rfl, HP⟩
  case round =>
    clear HP
    obtain ⟨j, x, n, s, u, hj, rfl, HP⟩ := hrel
    obtain ⟨b0, b1, b2⟩ := HP.out.q.three0
    obtain ⟨p0, p1, p2, p3, p4⟩ := HP.out.p.five9
    by_cases hj6 : (j : Int) < 6
    · by_cases hba : baB r F xs = true
      · rw [hba] at CBA
        go_wp2_with fail
        refine (CBA.out _ HP.out.ints).mono ?_
        rintro e w7 ⟨rfl, hb⟩
        have HP := Lib.hid (HP.out.on hb)
        clear hb b0 b1 b2 p0 p1 p2 p3 p4
        obtain ⟨b0, b1, b2⟩ := HP.out.q.three0
        obtain ⟨p0, p1, p2, p3, p4⟩ := HP.out.p.five9
        have CPP := Lib.hid (CPO.out x n s u)
        cases hpb : poB r F xs k x n s u
        · rw [hpb] at CPP
          go_wp2_with fail
          refine (CPP.out _ HP.out.ints).mono ?_
          rintro e w7 ⟨rfl, hb⟩
          have HP := Lib.hid (HP.out.on hb)
          clear hb b0 b1 b2 p0 p1 p2 p3 p4
          go_wp2_with fail
          have HAN : Hid (0 ≤ F ∧ F ≤ 100) := Lib.hid (by
            unfold baB at hba
            rw [Bool.and_eq_true] at hba
            exact ((ltB_iff _ _).1 hba.1).1)
          obtain ⟨F0, F1⟩ := HAN.out
          have N7 : Hid (∀ x n s u W, Hid (DP B X Y T P Q a l c z F ta tn tc xs r k x n s u w W) → Calls Tryz.prog 58 #[.pointer (some ⟨B, 0, none⟩), .int .i64 ((tn : Int) - 1)] W fun e w' => ∃ v, e = .returned (.int .i64 v) ∧ (0 ≤ v ∧ v ≤ 4096) ∧ Hid (DP B X Y T P Q a l c z F ta tn tc xs r k x n s u w w')) :=
            Lib.hid (fun x n s u W hW => (next_r B a l c z _ W hW.out.ready).mono fun e w' ⟨v, he, hd, ho, hs⟩ => ⟨v, he, by
              by_cases h1 : 1 < (tn : Int) - 1
              · have := hd.1 h1; omega
              · have := hd.2 (by omega); omega, Lib.hid (hW.out.call ho hs)⟩)
          have N8 : Hid (∀ x n s u m W, 0 ≤ x → x ≤ 10000 → m = F + tn - 1 - x → Hid (DP B X Y T P Q a l c z F ta tn tc xs r k x n s u w W) → Calls Tryz.prog 58 #[.pointer (some ⟨B, 0, none⟩), .int .i64 m] W fun e w' => ∃ v, e = .returned (.int .i64 v) ∧ (0 ≤ v ∧ v ≤ 20000) ∧ Hid (DP B X Y T P Q a l c z F ta tn tc xs r k x n s u w w')) :=
            Lib.hid (fun x n s u m W x0 x1 hm hW => (next_r B a l c z m W hW.out.ready).mono fun e w' ⟨v, he, hd, ho, hs⟩ => ⟨v, he, by
              by_cases h1 : 1 < m
              · have := hd.1 h1; omega
              · have := hd.2 (by omega); omega, Lib.hid (hW.out.call ho hs)⟩)
          have E8 : Hid (∀ x n s u W, Hid (DP B X Y T P Q a l c z F ta tn tc xs r k x n s u w W) → Calls Tryz.prog 73 #[.agg #[.int .i64 F, .slice ta tn tc]] W fun e w' => e = .returned (.int .i64 (F + tn - 1)) ∧ Hid (DP B X Y T P Q a l c z F ta tn tc xs r k x n s u w w')) :=
            Lib.hid (fun x n s u W hW => (end_spec F xs ta tn tc W (by omega) F0 (by omega)).mono fun e w' ⟨he, hb⟩ => ⟨he, Lib.hid (hW.out.on hb)⟩)
          have g1 : IntKind.i64.wrap ((tn : Int) - 1) = (tn : Int) - 1 := IntWalk.i64_in _ (by omega)
          clear hba hpb HAN
          refine wpTill_start (S := (fun w' => w'.cell? ⟨T, 0, none⟩ = some (.int .i64 F) ∧ w'.cell? ⟨T, 1, none⟩ = some (.slice ta tn tc) ∧ w'.cell? ⟨P, 1, none⟩ = some (.int .i64 x) ∧ w'.cell? ⟨P, 2, none⟩ = some (.int .i64 n) ∧ Hid (DP B X Y T P Q a l c z F ta tn tc xs r k x n s u w w'))) (L := 10) (by kernel_rfl) (dpS HP.out.drew) (fun hHeld => ?_)
          refine wpTill_take (i := 0) (v := ?_) rfl (by kernel_rfl) (by kernel_rfl) (by kernel_rfl) (by kernel_rfl) (by kernel_rfl) (fun _ _ _ h => h) (Or.inl ⟨by rfl, ?_⟩) (by assumption) ?_
          rotate_left
          · (intro w hSw; (try dsimp only at hSw); go_simp; try with_reducible rfl)
          try simp only [Act.put, List.setIfInBounds_toArray, List.set_cons_zero, List.set_cons_succ]
          refine wpTill_take (i := 1) (v := ?_) rfl (by kernel_rfl) (by kernel_rfl) (by kernel_rfl) (by kernel_rfl) (by kernel_rfl) (fun _ _ _ h => h) (Or.inl ⟨by rfl, ?_⟩) (by assumption) ?_
          rotate_left
          · (intro w hSw; (try dsimp only at hSw); go_simp; try with_reducible rfl)
          try simp only [Act.put, List.setIfInBounds_toArray, List.set_cons_zero, List.set_cons_succ]
          refine wpTill_take (i := 2) (v := ?_) rfl (by kernel_rfl) (by kernel_rfl) (by kernel_rfl) (by kernel_rfl) (by kernel_rfl) (fun _ _ _ h => h) (Or.inl ⟨by rfl, ?_⟩) (by assumption) ?_
          rotate_left
          · (intro w hSw; (try dsimp only at hSw); go_simp; try with_reducible rfl)
          try simp only [Act.put, List.setIfInBounds_toArray, List.set_cons_zero, List.set_cons_succ]
          refine wpTill_take (i := 3) (v := ?_) rfl (by kernel_rfl) (by kernel_rfl) (by kernel_rfl) (by kernel_rfl) (by kernel_rfl) (fun _ _ _ h => h) (Or.inl ⟨by rfl, ?_⟩) (by assumption) ?_
          rotate_left
          · (intro w hSw; (try dsimp only at hSw); go_simp; try with_reducible rfl)
          try simp only [Act.put, List.setIfInBounds_toArray, List.set_cons_zero, List.set_cons_succ]
          refine wpTill_take (i := 4) (v := ?_) rfl (by kernel_rfl) (by kernel_rfl) (by kernel_rfl) (by kernel_rfl) (by kernel_rfl) (fun _ _ _ h => h) (Or.inl ⟨by rfl, ?_⟩) (by assumption) ?_
          rotate_left
          · (intro w hSw; (try dsimp only at hSw); go_simp; try with_reducible rfl)
          try simp only [Act.put, List.setIfInBounds_toArray, List.set_cons_zero, List.set_cons_succ]
          refine wpTill_take (i := 5) (v := ?_) rfl (by kernel_rfl) (by kernel_rfl) (by kernel_rfl) (by kernel_rfl) (by kernel_rfl) (fun _ _ _ h => h) (Or.inl ⟨by rfl, ?_⟩) (by assumption) ?_
          rotate_left
          · (intro w hSw; (try dsimp only at hSw); go_simp; try with_reducible rfl)
          try simp only [Act.put, List.setIfInBounds_toArray, List.set_cons_zero, List.set_cons_succ]
          refine wpTill_take (i := 6) (v := ?_) rfl (by kernel_rfl) (by kernel_rfl) (by kernel_rfl) (by kernel_rfl) (by kernel_rfl) (fun _ _ _ h => h) (Or.inl ⟨by rfl, ?_⟩) (by assumption) ?_
          rotate_left
          · (intro w hSw; (try dsimp only at hSw); go_simp; try with_reducible rfl)
          try simp only [Act.put, List.setIfInBounds_toArray, List.set_cons_zero, List.set_cons_succ]
          refine wpTill_ready (rs := [7]) (by kernel_rfl) (by simp) ?_
          refine AllTill.cons (o := _) rfl (fun K hK => ?_) AllTill.nil
          go_simp
          go_split_ands
          with_reducible refine (N7.out _ _ _ _ _ (by with_reducible assumption)).mono ?_
          rintro e w' ⟨vd, rfl, ⟨vd0, vd1⟩, HA9⟩
          refine hK.out _ _ (fun _ => ?_) (fun hHeld => ?_)
          · exact dpS HA9.out
          have hHeld := hHeld (by decide)
          clear hK K
          try simp only [Act.put, List.setIfInBounds_toArray, List.set_cons_zero, List.set_cons_succ]
          have g2 : IntKind.i64.wrap (F + vd) = F + vd := IntWalk.i64_in _ (by omega)
          refine wpTill_take (i := 8) (v := ?_) rfl (by kernel_rfl) (by kernel_rfl) (by kernel_rfl) (by kernel_rfl) (by kernel_rfl) (fun _ _ _ h => h) (Or.inl ⟨by rfl, ?_⟩) (by assumption) ?_
          rotate_left
          · (intro w hSw; (try dsimp only at hSw); go_simp; try with_reducible rfl)
          try simp only [Act.put, List.setIfInBounds_toArray, List.set_cons_zero, List.set_cons_succ]
          refine wpTill_take (i := 9) (v := ?_) rfl (by kernel_rfl) (by kernel_rfl) (by kernel_rfl) (by kernel_rfl) (by kernel_rfl) (fun _ _ _ h => h) (Or.inl ⟨by rfl, ?_⟩) (by assumption) ?_
          rotate_left
          · (intro w hSw; (try dsimp only at hSw); go_simp; try with_reducible rfl)
          try simp only [Act.put, List.setIfInBounds_toArray, List.set_cons_zero, List.set_cons_succ]
          have hfz := HA9.out.p.free 1
          obtain ⟨-, hp1, -, -, -⟩ := HA9.out.p.five9
          have HP := Lib.hid (HA9.out.setX (F + vd))
          refine wpTill_ready (rs := [10]) (by kernel_rfl) (by simp) ?_
          refine AllTill.cons (o := _) rfl (fun K hK => ?_) AllTill.nil
          go_simp
          refine hK.out _ _ (fun h => absurd rfl h) (fun _ => ?_)
          clear hK K hHeld
          try simp only [Act.put, List.setIfInBounds_toArray, List.set_cons_zero, List.set_cons_succ]
          refine wpTill_done (by kernel_rfl) ?_ _
          obtain ⟨W7, hW7⟩ : ∃ y_, w'.setCell ⟨P, 1, none⟩ (.int .i64 (F + vd)) = y_ := ⟨_, rfl⟩
          rw [hW7] at HP ⊢
          obtain ⟨X7, hX7⟩ : ∃ y_, F + vd = y_ := ⟨_, rfl⟩
          rw [hX7] at HP
          have z70 : 0 ≤ X7 := by omega
          have z71 : X7 ≤ 10000 := by omega
          clear hW7 hX7 hfz hp1 HA9 g2
          go_wp2_with fail
          obtain ⟨MF, hMF⟩ : ∃ MF : Int → Int, ∀ v : Int, (if 1 + v < n then 1 + v else n) = MF v := ⟨_, fun _ => rfl⟩
          have g3 : IntKind.i64.wrap (F + tn - 1 - X7) = F + tn - 1 - X7 := IntWalk.i64_in _ (by omega)
          obtain ⟨m8, hm8⟩ : ∃ y_, F + tn - 1 - X7 = y_ := ⟨_, rfl⟩
          have HM8 := Lib.hid hm8.symm
          rw [hm8] at g3
          refine wpTill_start (S := (fun w' => w'.cell? ⟨T, 0, none⟩ = some (.int .i64 F) ∧ w'.cell? ⟨T, 1, none⟩ = some (.slice ta tn tc) ∧ w'.cell? ⟨P, 1, none⟩ = some (.int .i64 X7) ∧ w'.cell? ⟨P, 2, none⟩ = some (.int .i64 n) ∧ Hid (DP B X Y T P Q a l c z F ta tn tc xs r k X7 n s u w w'))) (L := 12) (by kernel_rfl) (dpS HP.out.drew) (fun hHeld => ?_)
          refine wpTill_take (i := 0) (v := ?_) rfl (by kernel_rfl) (by kernel_rfl) (by kernel_rfl) (by kernel_rfl) (by kernel_rfl) (fun _ _ _ h => h) (Or.inl ⟨by rfl, ?_⟩) (by assumption) ?_
          rotate_left
          · (intro w hSw; (try dsimp only at hSw); go_simp; try with_reducible rfl)
          try simp only [Act.put, List.setIfInBounds_toArray, List.set_cons_zero, List.set_cons_succ]
          refine wpTill_take (i := 1) (v := ?_) rfl (by kernel_rfl) (by kernel_rfl) (by kernel_rfl) (by kernel_rfl) (by kernel_rfl) (fun _ _ _ h => h) (Or.inl ⟨by rfl, ?_⟩) (by assumption) ?_
          rotate_left
          · (intro w hSw; (try dsimp only at hSw); go_simp; try with_reducible rfl)
          try simp only [Act.put, List.setIfInBounds_toArray, List.set_cons_zero, List.set_cons_succ]
          refine wpTill_take (i := 2) (v := ?_) rfl (by kernel_rfl) (by kernel_rfl) (by kernel_rfl) (by kernel_rfl) (by kernel_rfl) (fun _ _ _ h => h) (Or.inl ⟨by rfl, ?_⟩) (by assumption) ?_
          rotate_left
          · (intro w hSw; (try dsimp only at hSw); go_simp; try with_reducible rfl)
          try simp only [Act.put, List.setIfInBounds_toArray, List.set_cons_zero, List.set_cons_succ]
          refine wpTill_take (i := 3) (v := ?_) rfl (by kernel_rfl) (by kernel_rfl) (by kernel_rfl) (by kernel_rfl) (by kernel_rfl) (fun _ _ _ h => h) (Or.inl ⟨by rfl, ?_⟩) (by assumption) ?_
          rotate_left
          · (intro w hSw; (try dsimp only at hSw); go_simp; try with_reducible rfl)
          try simp only [Act.put, List.setIfInBounds_toArray, List.set_cons_zero, List.set_cons_succ]
          refine wpTill_take (i := 5) (v := ?_) rfl (by kernel_rfl) (by kernel_rfl) (by kernel_rfl) (by kernel_rfl) (by kernel_rfl) (fun _ _ _ h => h) (Or.inl ⟨by rfl, ?_⟩) (by assumption) ?_
          rotate_left
          · (intro w hSw; (try dsimp only at hSw); go_simp; try with_reducible rfl)
          try simp only [Act.put, List.setIfInBounds_toArray, List.set_cons_zero, List.set_cons_succ]
          refine wpTill_take (i := 6) (v := ?_) rfl (by kernel_rfl) (by kernel_rfl) (by kernel_rfl) (by kernel_rfl) (by kernel_rfl) (fun _ _ _ h => h) (Or.inl ⟨by rfl, ?_⟩) (by assumption) ?_
          rotate_left
          · (intro w hSw; (try dsimp only at hSw); go_simp; try with_reducible rfl)
          try simp only [Act.put, List.setIfInBounds_toArray, List.set_cons_zero, List.set_cons_succ]
          refine wpTill_ready (rs := [4]) (by kernel_rfl) (by simp) ?_
          refine AllTill.cons (o := _) rfl (fun K hK => ?_) AllTill.nil
          go_simp
          go_split_ands
          with_reducible refine (E8.out _ _ _ _ _ (by with_reducible assumption)).mono ?_
          rintro e w' ⟨rfl, HA9⟩
          refine hK.out _ _ (fun _ => ?_) (fun hHeld => ?_)
          · exact dpS HA9.out
          have hHeld := hHeld (by decide)
          clear hK K
          try simp only [Act.put, List.setIfInBounds_toArray, List.set_cons_zero, List.set_cons_succ]
          refine wpTill_take (i := 7) (v := ?_) rfl (by kernel_rfl) (by kernel_rfl) (by kernel_rfl) (by kernel_rfl) (by kernel_rfl) (fun _ _ _ h => h) (Or.inl ⟨by rfl, ?_⟩) (by assumption) ?_
          rotate_left
          · (intro w hSw; (try dsimp only at hSw); go_simp; try with_reducible rfl)
          try simp only [Act.put, List.setIfInBounds_toArray, List.set_cons_zero, List.set_cons_succ]
          refine wpTill_ready (rs := [8]) (by kernel_rfl) (by simp) ?_
          refine AllTill.cons (o := _) rfl (fun K hK => ?_) AllTill.nil
          go_simp
          go_split_ands
          with_reducible refine (N8.out X7 _ _ _ _ _ z70 z71 HM8.out (by with_reducible assumption)).mono ?_
          rintro e w' ⟨vb, rfl, ⟨vb0, vb1⟩, HA9⟩
          refine hK.out _ _ (fun _ => ?_) (fun hHeld => ?_)
          · exact dpS HA9.out
          have hHeld := hHeld (by decide)
          clear hK K
          try simp only [Act.put, List.setIfInBounds_toArray, List.set_cons_zero, List.set_cons_succ]
          have g4 : IntKind.i64.wrap (1 + vb) = 1 + vb := IntWalk.i64_in _ (by omega)
          refine wpTill_take (i := 9) (v := ?_) rfl (by kernel_rfl) (by kernel_rfl) (by kernel_rfl) (by kernel_rfl) (by kernel_rfl) (fun _ _ _ h => h) (Or.inl ⟨by rfl, ?_⟩) (by assumption) ?_
          rotate_left
          · (intro w hSw; (try dsimp only at hSw); go_simp; try with_reducible rfl)
          try simp only [Act.put, List.setIfInBounds_toArray, List.set_cons_zero, List.set_cons_succ]
          refine wpTill_ready (rs := [10]) (by kernel_rfl) (by simp) ?_
          refine AllTill.cons (o := _) rfl (fun K hK => ?_) AllTill.nil
          go_simp
          refine hK.out _ _ (fun _ => ?_) (fun hHeld => ?_)
          · exact dpS HA9.out
          have hHeld := hHeld (by decide)
          clear hK K
          try simp only [Act.put, List.setIfInBounds_toArray, List.set_cons_zero, List.set_cons_succ]
          refine wpTill_take (i := 11) (v := ?_) rfl (by kernel_rfl) (by kernel_rfl) (by kernel_rfl) (by kernel_rfl) (by kernel_rfl) (fun _ _ _ h => h) (Or.inl ⟨by rfl, ?_⟩) (by assumption) ?_
          rotate_left
          · (intro w hSw; (try dsimp only at hSw); go_simp; try with_reducible rfl)
          try simp only [Act.put, List.setIfInBounds_toArray, List.set_cons_zero, List.set_cons_succ]
          have hfz := HA9.out.p.free 2
          obtain ⟨-, -, hp2, -, -⟩ := HA9.out.p.five9
          have HP := Lib.hid (HA9.out.setN (MF vb))
          refine wpTill_ready (rs := [12]) (by kernel_rfl) (by simp) ?_
          refine AllTill.cons (o := _) rfl (fun K hK => ?_) AllTill.nil
          go_simp
          refine hK.out _ _ (fun h => absurd rfl h) (fun _ => ?_)
          clear hK K hHeld
          try simp only [Act.put, List.setIfInBounds_toArray, List.set_cons_zero, List.set_cons_succ]
          refine wpTill_done (by kernel_rfl) ?_ _
          obtain ⟨W8, hW8⟩ : ∃ y_, w'.setCell ⟨P, 2, none⟩ (.int .i64 (MF vb)) = y_ := ⟨_, rfl⟩
          rw [hW8] at HP ⊢
          obtain ⟨N8, hN8⟩ : ∃ y_, MF vb = y_ := ⟨_, rfl⟩
          rw [hN8] at HP
          clear hW8 hN8 hfz hp2 HA9 g4 g3 hMF
          have hfz := HP.out.p.free 2
          obtain ⟨p0, p1, p2, p3, p4⟩ := HP.out.p.five9
          by_cases hk0 : k = 0
          · have hk1 : (k == 0) = true := by simp [hk0]
            have HN := Lib.hid (HP.out.setN 0)
            clear hk0
            go_wp2_with fail
            go_roundw
            case rel => exact ⟨j + 1, X7, 0, s, u, by omega, by go_num, HN⟩
            case measure => simp [intOf]; omega
          · have hk1 : (k == 0) = false := by simp [hk0]
            clear hk0
            go_wp2_with fail
            go_roundw
            case rel => exact ⟨j + 1, X7, N8, s, u, by omega, by go_num, HP⟩
            case measure => simp [intOf]; omega
        · rw [hpb] at CPP
          go_wp2_with fail
          refine (CPP.out _ HP.out.ints).mono ?_
          rintro e w7 ⟨rfl, hb⟩
          have HP := Lib.hid (HP.out.on hb)
          clear hb b0 b1 b2 p0 p1 p2 p3 p4
          go_wp2_with fail
          refine (next_r B a l c z 40 _ HP.out.ready).mono ?_
          rintro e w8 ⟨q, rfl, -, ho, hs⟩
          have HP := Lib.hid (HP.out.call ho hs)
          clear ho hs
          by_cases hq0 : q = 0
          · subst hq0
            go_wp2_with fail
            refine (pick3 B (-1) 1000 1001 _ _ HP.out.ready).mono ?_
            rintro e w9 ⟨uu, rfl, -, ho, hs⟩
            have HP := Lib.hid (HP.out.call ho hs)
            have hfz := HP.out.p.free 4
            obtain ⟨-, -, -, -, p4⟩ := HP.out.p.five9
            have HF := Lib.hid (HP.out.setU uu)
            clear ho hs
            obtain ⟨V9, hV9⟩ : ∃ y_, w9.setCell ⟨P, 4, none⟩ (.int .i64 uu) = y_ := ⟨_, rfl⟩
            rw [hV9] at HF
            obtain ⟨q0, q1, q2⟩ := HF.out.q.three0
            obtain ⟨p0, p1, p2, p3, p4⟩ := HF.out.p.five9
            obtain ⟨x0, x1, x2⟩ := HF.out.rx.three0
            obtain ⟨y0, y1, y2, y3, y4⟩ := HF.out.ry.five9
            have nXY : X ≠ Y := by have := HF.out.oX; omega
            have nYX : Y ≠ X := by have := HF.out.oX; omega
            have nPX : P ≠ X := by have := HF.out.oX; have := HF.out.oY; have := HF.out.oT; omega
            have nPY : P ≠ Y := by have := HF.out.oX; have := HF.out.oY; have := HF.out.oT; omega
            have nQX : Q ≠ X := by have := HF.out.oX; have := HF.out.oY; have := HF.out.oT; have := HF.out.oP; omega
            have nQY : Q ≠ Y := by have := HF.out.oX; have := HF.out.oY; have := HF.out.oT; have := HF.out.oP; omega
            have fx0 := HF.out.rx.free 0
            have fx1 := HF.out.rx.free 1
            have fx2 := HF.out.rx.free 2
            have fy0 := HF.out.ry.free 0
            have fy1 := HF.out.ry.free 1
            have fy2 := HF.out.ry.free 2
            have fy3 := HF.out.ry.free 3
            have fy4 := HF.out.ry.free 4
            go_wp2_with fail
            (try rw [hV9])
            clear hV9
            go_region
            go_wp2_with fail
            have hend := DP.end HF.out rfl
            obtain ⟨hbx, hby, hi, hbut, hrd⟩ := hend
            obtain ⟨e0, e1, e2⟩ := hbx.three0
            obtain ⟨e3, e4, e5, e6, e7⟩ := hby.five9
            refine bodyPost_ret (v := .tuple #[.agg #[.int .i64 F, .slice ta tn tc, .int .i64 r], .agg #[.int .i64 k, .int .i64 x, .int .i64 n, .int .i64 s, .int .i64 uu]]) (by simp [results, Tryz.results47, go_sem, e0, e1, e2, e3, e4, e5, e6, e7]) rfl ⟨F, ta, tn, tc, xs, r, k, x, n, s, uu, rfl, hi, HTC.out.1, HTC.out.2, fun y hy => ?_, hbut, hrd⟩
            have := HF.out.far y hy
            have := HXX.out
            omega
          · have z0 : (q == 0) = false := by simp [hq0]
            by_cases hq1 : q = 1
            · subst hq1
              have hfz := HP.out.p.free 2
              obtain ⟨-, -, p2, -, -⟩ := HP.out.p.five9
              obtain ⟨n20, hn20⟩ : ∃ y_, IntKind.i64.wrap (n + 20) = y_ := ⟨_, rfl⟩
              have HF := Lib.hid (HP.out.setN n20)
              obtain ⟨V9, hV9⟩ : ∃ y_, w8.setCell ⟨P, 2, none⟩ (.int .i64 n20) = y_ := ⟨_, rfl⟩
              rw [hV9] at HF
              obtain ⟨q0, q1, q2⟩ := HF.out.q.three0
              obtain ⟨p0, p1, p2, p3, p4⟩ := HF.out.p.five9
              obtain ⟨x0, x1, x2⟩ := HF.out.rx.three0
              obtain ⟨y0, y1, y2, y3, y4⟩ := HF.out.ry.five9
              have nXY : X ≠ Y := by have := HF.out.oX; omega
              have nYX : Y ≠ X := by have := HF.out.oX; omega
              have nPX : P ≠ X := by have := HF.out.oX; have := HF.out.oY; have := HF.out.oT; omega
              have nPY : P ≠ Y := by have := HF.out.oX; have := HF.out.oY; have := HF.out.oT; omega
              have nQX : Q ≠ X := by have := HF.out.oX; have := HF.out.oY; have := HF.out.oT; have := HF.out.oP; omega
              have nQY : Q ≠ Y := by have := HF.out.oX; have := HF.out.oY; have := HF.out.oT; have := HF.out.oP; omega
              have fx0 := HF.out.rx.free 0
              have fx1 := HF.out.rx.free 1
              have fx2 := HF.out.rx.free 2
              have fy0 := HF.out.ry.free 0
              have fy1 := HF.out.ry.free 1
              have fy2 := HF.out.ry.free 2
              have fy3 := HF.out.ry.free 3
              have fy4 := HF.out.ry.free 4
              go_wp2_with fail
              (try rw [hV9])
              clear hV9
              go_region
              go_wp2_with fail
              have hend := DP.end HF.out rfl
              obtain ⟨hbx, hby, hi, hbut, hrd⟩ := hend
              obtain ⟨e0, e1, e2⟩ := hbx.three0
              obtain ⟨e3, e4, e5, e6, e7⟩ := hby.five9
              refine bodyPost_ret (v := .tuple #[.agg #[.int .i64 F, .slice ta tn tc, .int .i64 r], .agg #[.int .i64 k, .int .i64 x, .int .i64 n20, .int .i64 s, .int .i64 u]]) (by simp [results, Tryz.results47, go_sem, e0, e1, e2, e3, e4, e5, e6, e7]) rfl ⟨F, ta, tn, tc, xs, r, k, x, n20, s, u, rfl, hi, HTC.out.1, HTC.out.2, fun y hy => ?_, hbut, hrd⟩
              have := HF.out.far y hy
              have := HXX.out
              omega
            · have z1 : (q == 1) = false := by simp [hq1]
              have HF := HP
              clear hq0 hq1
              obtain ⟨q0, q1, q2⟩ := HF.out.q.three0
              obtain ⟨p0, p1, p2, p3, p4⟩ := HF.out.p.five9
              obtain ⟨x0, x1, x2⟩ := HF.out.rx.three0
              obtain ⟨y0, y1, y2, y3, y4⟩ := HF.out.ry.five9
              have nXY : X ≠ Y := by have := HF.out.oX; omega
              have nYX : Y ≠ X := by have := HF.out.oX; omega
              have nPX : P ≠ X := by have := HF.out.oX; have := HF.out.oY; have := HF.out.oT; omega
              have nPY : P ≠ Y := by have := HF.out.oX; have := HF.out.oY; have := HF.out.oT; omega
              have nQX : Q ≠ X := by have := HF.out.oX; have := HF.out.oY; have := HF.out.oT; have := HF.out.oP; omega
              have nQY : Q ≠ Y := by have := HF.out.oX; have := HF.out.oY; have := HF.out.oT; have := HF.out.oP; omega
              have fx0 := HF.out.rx.free 0
              have fx1 := HF.out.rx.free 1
              have fx2 := HF.out.rx.free 2
              have fy0 := HF.out.ry.free 0
              have fy1 := HF.out.ry.free 1
              have fy2 := HF.out.ry.free 2
              have fy3 := HF.out.ry.free 3
              have fy4 := HF.out.ry.free 4
              go_wp2_with fail
              go_region
              go_wp2_with fail
              have hend := DP.end HF.out rfl
              obtain ⟨hbx, hby, hi, hbut, hrd⟩ := hend
              obtain ⟨e0, e1, e2⟩ := hbx.three0
              obtain ⟨e3, e4, e5, e6, e7⟩ := hby.five9
              refine bodyPost_ret (v := .tuple #[.agg #[.int .i64 F, .slice ta tn tc, .int .i64 r], .agg #[.int .i64 k, .int .i64 x, .int .i64 n, .int .i64 s, .int .i64 u]]) (by simp [results, Tryz.results47, go_sem, e0, e1, e2, e3, e4, e5, e6, e7]) rfl ⟨F, ta, tn, tc, xs, r, k, x, n, s, u, rfl, hi, HTC.out.1, HTC.out.2, fun y hy => ?_, hbut, hrd⟩
              have := HF.out.far y hy
              have := HXX.out
              omega
      · have hba : baB r F xs = false := by simpa using hba
        rw [hba] at CBA
        go_wp2_with fail
        refine (CBA.out _ HP.out.ints).mono ?_
        rintro e w7 ⟨rfl, hb⟩
        have HP := Lib.hid (HP.out.on hb)
        clear hb b0 b1 b2 p0 p1 p2 p3 p4
        go_wp2_with fail
        refine (next_r B a l c z 40 _ HP.out.ready).mono ?_
        rintro e w8 ⟨q, rfl, -, ho, hs⟩
        have HP := Lib.hid (HP.out.call ho hs)
        clear ho hs
        by_cases hq0 : q = 0
        · subst hq0
          go_wp2_with fail
          refine (pick3 B (-1) 1000 1001 _ _ HP.out.ready).mono ?_
          rintro e w9 ⟨uu, rfl, -, ho, hs⟩
          have HP := Lib.hid (HP.out.call ho hs)
          have hfz := HP.out.p.free 4
          obtain ⟨-, -, -, -, p4⟩ := HP.out.p.five9
          have HF := Lib.hid (HP.out.setU uu)
          clear ho hs
          obtain ⟨V9, hV9⟩ : ∃ y_, w9.setCell ⟨P, 4, none⟩ (.int .i64 uu) = y_ := ⟨_, rfl⟩
          rw [hV9] at HF
          obtain ⟨q0, q1, q2⟩ := HF.out.q.three0
          obtain ⟨p0, p1, p2, p3, p4⟩ := HF.out.p.five9
          obtain ⟨x0, x1, x2⟩ := HF.out.rx.three0
          obtain ⟨y0, y1, y2, y3, y4⟩ := HF.out.ry.five9
          have nXY : X ≠ Y := by have := HF.out.oX; omega
          have nYX : Y ≠ X := by have := HF.out.oX; omega
          have nPX : P ≠ X := by have := HF.out.oX; have := HF.out.oY; have := HF.out.oT; omega
          have nPY : P ≠ Y := by have := HF.out.oX; have := HF.out.oY; have := HF.out.oT; omega
          have nQX : Q ≠ X := by have := HF.out.oX; have := HF.out.oY; have := HF.out.oT; have := HF.out.oP; omega
          have nQY : Q ≠ Y := by have := HF.out.oX; have := HF.out.oY; have := HF.out.oT; have := HF.out.oP; omega
          have fx0 := HF.out.rx.free 0
          have fx1 := HF.out.rx.free 1
          have fx2 := HF.out.rx.free 2
          have fy0 := HF.out.ry.free 0
          have fy1 := HF.out.ry.free 1
          have fy2 := HF.out.ry.free 2
          have fy3 := HF.out.ry.free 3
          have fy4 := HF.out.ry.free 4
          go_wp2_with fail
          (try rw [hV9])
          clear hV9
          go_region
          go_wp2_with fail
          have hend := DP.end HF.out rfl
          obtain ⟨hbx, hby, hi, hbut, hrd⟩ := hend
          obtain ⟨e0, e1, e2⟩ := hbx.three0
          obtain ⟨e3, e4, e5, e6, e7⟩ := hby.five9
          refine bodyPost_ret (v := .tuple #[.agg #[.int .i64 F, .slice ta tn tc, .int .i64 r], .agg #[.int .i64 k, .int .i64 x, .int .i64 n, .int .i64 s, .int .i64 uu]]) (by simp [results, Tryz.results47, go_sem, e0, e1, e2, e3, e4, e5, e6, e7]) rfl ⟨F, ta, tn, tc, xs, r, k, x, n, s, uu, rfl, hi, HTC.out.1, HTC.out.2, fun y hy => ?_, hbut, hrd⟩
          have := HF.out.far y hy
          have := HXX.out
          omega
        · have z0 : (q == 0) = false := by simp [hq0]
          by_cases hq1 : q = 1
          · subst hq1
            have hfz := HP.out.p.free 2
            obtain ⟨-, -, p2, -, -⟩ := HP.out.p.five9
            obtain ⟨n20, hn20⟩ : ∃ y_, IntKind.i64.wrap (n + 20) = y_ := ⟨_, rfl⟩
            have HF := Lib.hid (HP.out.setN n20)
            obtain ⟨V9, hV9⟩ : ∃ y_, w8.setCell ⟨P, 2, none⟩ (.int .i64 n20) = y_ := ⟨_, rfl⟩
            rw [hV9] at HF
            obtain ⟨q0, q1, q2⟩ := HF.out.q.three0
            obtain ⟨p0, p1, p2, p3, p4⟩ := HF.out.p.five9
            obtain ⟨x0, x1, x2⟩ := HF.out.rx.three0
            obtain ⟨y0, y1, y2, y3, y4⟩ := HF.out.ry.five9
            have nXY : X ≠ Y := by have := HF.out.oX; omega
            have nYX : Y ≠ X := by have := HF.out.oX; omega
            have nPX : P ≠ X := by have := HF.out.oX; have := HF.out.oY; have := HF.out.oT; omega
            have nPY : P ≠ Y := by have := HF.out.oX; have := HF.out.oY; have := HF.out.oT; omega
            have nQX : Q ≠ X := by have := HF.out.oX; have := HF.out.oY; have := HF.out.oT; have := HF.out.oP; omega
            have nQY : Q ≠ Y := by have := HF.out.oX; have := HF.out.oY; have := HF.out.oT; have := HF.out.oP; omega
            have fx0 := HF.out.rx.free 0
            have fx1 := HF.out.rx.free 1
            have fx2 := HF.out.rx.free 2
            have fy0 := HF.out.ry.free 0
            have fy1 := HF.out.ry.free 1
            have fy2 := HF.out.ry.free 2
            have fy3 := HF.out.ry.free 3
            have fy4 := HF.out.ry.free 4
            go_wp2_with fail
            (try rw [hV9])
            clear hV9
            go_region
            go_wp2_with fail
            have hend := DP.end HF.out rfl
            obtain ⟨hbx, hby, hi, hbut, hrd⟩ := hend
            obtain ⟨e0, e1, e2⟩ := hbx.three0
            obtain ⟨e3, e4, e5, e6, e7⟩ := hby.five9
            refine bodyPost_ret (v := .tuple #[.agg #[.int .i64 F, .slice ta tn tc, .int .i64 r], .agg #[.int .i64 k, .int .i64 x, .int .i64 n20, .int .i64 s, .int .i64 u]]) (by simp [results, Tryz.results47, go_sem, e0, e1, e2, e3, e4, e5, e6, e7]) rfl ⟨F, ta, tn, tc, xs, r, k, x, n20, s, u, rfl, hi, HTC.out.1, HTC.out.2, fun y hy => ?_, hbut, hrd⟩
            have := HF.out.far y hy
            have := HXX.out
            omega
          · have z1 : (q == 1) = false := by simp [hq1]
            have HF := HP
            clear hq0 hq1
            obtain ⟨q0, q1, q2⟩ := HF.out.q.three0
            obtain ⟨p0, p1, p2, p3, p4⟩ := HF.out.p.five9
            obtain ⟨x0, x1, x2⟩ := HF.out.rx.three0
            obtain ⟨y0, y1, y2, y3, y4⟩ := HF.out.ry.five9
            have nXY : X ≠ Y := by have := HF.out.oX; omega
            have nYX : Y ≠ X := by have := HF.out.oX; omega
            have nPX : P ≠ X := by have := HF.out.oX; have := HF.out.oY; have := HF.out.oT; omega
            have nPY : P ≠ Y := by have := HF.out.oX; have := HF.out.oY; have := HF.out.oT; omega
            have nQX : Q ≠ X := by have := HF.out.oX; have := HF.out.oY; have := HF.out.oT; have := HF.out.oP; omega
            have nQY : Q ≠ Y := by have := HF.out.oX; have := HF.out.oY; have := HF.out.oT; have := HF.out.oP; omega
            have fx0 := HF.out.rx.free 0
            have fx1 := HF.out.rx.free 1
            have fx2 := HF.out.rx.free 2
            have fy0 := HF.out.ry.free 0
            have fy1 := HF.out.ry.free 1
            have fy2 := HF.out.ry.free 2
            have fy3 := HF.out.ry.free 3
            have fy4 := HF.out.ry.free 4
            go_wp2_with fail
            go_region
            go_wp2_with fail
            have hend := DP.end HF.out rfl
            obtain ⟨hbx, hby, hi, hbut, hrd⟩ := hend
            obtain ⟨e0, e1, e2⟩ := hbx.three0
            obtain ⟨e3, e4, e5, e6, e7⟩ := hby.five9
            refine bodyPost_ret (v := .tuple #[.agg #[.int .i64 F, .slice ta tn tc, .int .i64 r], .agg #[.int .i64 k, .int .i64 x, .int .i64 n, .int .i64 s, .int .i64 u]]) (by simp [results, Tryz.results47, go_sem, e0, e1, e2, e3, e4, e5, e6, e7]) rfl ⟨F, ta, tn, tc, xs, r, k, x, n, s, u, rfl, hi, HTC.out.1, HTC.out.2, fun y hy => ?_, hbut, hrd⟩
            have := HF.out.far y hy
            have := HXX.out
            omega
    · clear b0 b1 b2 p0 p1 p2 p3 p4
      go_wp2_with fail
      refine (next_r B a l c z 40 _ HP.out.ready).mono ?_
      rintro e w8 ⟨q, rfl, -, ho, hs⟩
      have HP := Lib.hid (HP.out.call ho hs)
      clear ho hs
      by_cases hq0 : q = 0
      · subst hq0
        go_wp2_with fail
        refine (pick3 B (-1) 1000 1001 _ _ HP.out.ready).mono ?_
        rintro e w9 ⟨uu, rfl, -, ho, hs⟩
        have HP := Lib.hid (HP.out.call ho hs)
        have hfz := HP.out.p.free 4
        obtain ⟨-, -, -, -, p4⟩ := HP.out.p.five9
        have HF := Lib.hid (HP.out.setU uu)
        clear ho hs
        obtain ⟨V9, hV9⟩ : ∃ y_, w9.setCell ⟨P, 4, none⟩ (.int .i64 uu) = y_ := ⟨_, rfl⟩
        rw [hV9] at HF
        obtain ⟨q0, q1, q2⟩ := HF.out.q.three0
        obtain ⟨p0, p1, p2, p3, p4⟩ := HF.out.p.five9
        obtain ⟨x0, x1, x2⟩ := HF.out.rx.three0
        obtain ⟨y0, y1, y2, y3, y4⟩ := HF.out.ry.five9
        have nXY : X ≠ Y := by have := HF.out.oX; omega
        have nYX : Y ≠ X := by have := HF.out.oX; omega
        have nPX : P ≠ X := by have := HF.out.oX; have := HF.out.oY; have := HF.out.oT; omega
        have nPY : P ≠ Y := by have := HF.out.oX; have := HF.out.oY; have := HF.out.oT; omega
        have nQX : Q ≠ X := by have := HF.out.oX; have := HF.out.oY; have := HF.out.oT; have := HF.out.oP; omega
        have nQY : Q ≠ Y := by have := HF.out.oX; have := HF.out.oY; have := HF.out.oT; have := HF.out.oP; omega
        have fx0 := HF.out.rx.free 0
        have fx1 := HF.out.rx.free 1
        have fx2 := HF.out.rx.free 2
        have fy0 := HF.out.ry.free 0
        have fy1 := HF.out.ry.free 1
        have fy2 := HF.out.ry.free 2
        have fy3 := HF.out.ry.free 3
        have fy4 := HF.out.ry.free 4
        go_wp2_with fail
        (try rw [hV9])
        clear hV9
        go_region
        go_wp2_with fail
        have hend := DP.end HF.out rfl
        obtain ⟨hbx, hby, hi, hbut, hrd⟩ := hend
        obtain ⟨e0, e1, e2⟩ := hbx.three0
        obtain ⟨e3, e4, e5, e6, e7⟩ := hby.five9
        refine bodyPost_ret (v := .tuple #[.agg #[.int .i64 F, .slice ta tn tc, .int .i64 r], .agg #[.int .i64 k, .int .i64 x, .int .i64 n, .int .i64 s, .int .i64 uu]]) (by simp [results, Tryz.results47, go_sem, e0, e1, e2, e3, e4, e5, e6, e7]) rfl ⟨F, ta, tn, tc, xs, r, k, x, n, s, uu, rfl, hi, HTC.out.1, HTC.out.2, fun y hy => ?_, hbut, hrd⟩
        have := HF.out.far y hy
        have := HXX.out
        omega
      · have z0 : (q == 0) = false := by simp [hq0]
        by_cases hq1 : q = 1
        · subst hq1
          have hfz := HP.out.p.free 2
          obtain ⟨-, -, p2, -, -⟩ := HP.out.p.five9
          obtain ⟨n20, hn20⟩ : ∃ y_, IntKind.i64.wrap (n + 20) = y_ := ⟨_, rfl⟩
          have HF := Lib.hid (HP.out.setN n20)
          obtain ⟨V9, hV9⟩ : ∃ y_, w8.setCell ⟨P, 2, none⟩ (.int .i64 n20) = y_ := ⟨_, rfl⟩
          rw [hV9] at HF
          obtain ⟨q0, q1, q2⟩ := HF.out.q.three0
          obtain ⟨p0, p1, p2, p3, p4⟩ := HF.out.p.five9
          obtain ⟨x0, x1, x2⟩ := HF.out.rx.three0
          obtain ⟨y0, y1, y2, y3, y4⟩ := HF.out.ry.five9
          have nXY : X ≠ Y := by have := HF.out.oX; omega
          have nYX : Y ≠ X := by have := HF.out.oX; omega
          have nPX : P ≠ X := by have := HF.out.oX; have := HF.out.oY; have := HF.out.oT; omega
          have nPY : P ≠ Y := by have := HF.out.oX; have := HF.out.oY; have := HF.out.oT; omega
          have nQX : Q ≠ X := by have := HF.out.oX; have := HF.out.oY; have := HF.out.oT; have := HF.out.oP; omega
          have nQY : Q ≠ Y := by have := HF.out.oX; have := HF.out.oY; have := HF.out.oT; have := HF.out.oP; omega
          have fx0 := HF.out.rx.free 0
          have fx1 := HF.out.rx.free 1
          have fx2 := HF.out.rx.free 2
          have fy0 := HF.out.ry.free 0
          have fy1 := HF.out.ry.free 1
          have fy2 := HF.out.ry.free 2
          have fy3 := HF.out.ry.free 3
          have fy4 := HF.out.ry.free 4
          go_wp2_with fail
          (try rw [hV9])
          clear hV9
          go_region
          go_wp2_with fail
          have hend := DP.end HF.out rfl
          obtain ⟨hbx, hby, hi, hbut, hrd⟩ := hend
          obtain ⟨e0, e1, e2⟩ := hbx.three0
          obtain ⟨e3, e4, e5, e6, e7⟩ := hby.five9
          refine bodyPost_ret (v := .tuple #[.agg #[.int .i64 F, .slice ta tn tc, .int .i64 r], .agg #[.int .i64 k, .int .i64 x, .int .i64 n20, .int .i64 s, .int .i64 u]]) (by simp [results, Tryz.results47, go_sem, e0, e1, e2, e3, e4, e5, e6, e7]) rfl ⟨F, ta, tn, tc, xs, r, k, x, n20, s, u, rfl, hi, HTC.out.1, HTC.out.2, fun y hy => ?_, hbut, hrd⟩
          have := HF.out.far y hy
          have := HXX.out
          omega
        · have z1 : (q == 1) = false := by simp [hq1]
          have HF := HP
          clear hq0 hq1
          obtain ⟨q0, q1, q2⟩ := HF.out.q.three0
          obtain ⟨p0, p1, p2, p3, p4⟩ := HF.out.p.five9
          obtain ⟨x0, x1, x2⟩ := HF.out.rx.three0
          obtain ⟨y0, y1, y2, y3, y4⟩ := HF.out.ry.five9
          have nXY : X ≠ Y := by have := HF.out.oX; omega
          have nYX : Y ≠ X := by have := HF.out.oX; omega
          have nPX : P ≠ X := by have := HF.out.oX; have := HF.out.oY; have := HF.out.oT; omega
          have nPY : P ≠ Y := by have := HF.out.oX; have := HF.out.oY; have := HF.out.oT; omega
          have nQX : Q ≠ X := by have := HF.out.oX; have := HF.out.oY; have := HF.out.oT; have := HF.out.oP; omega
          have nQY : Q ≠ Y := by have := HF.out.oX; have := HF.out.oY; have := HF.out.oT; have := HF.out.oP; omega
          have fx0 := HF.out.rx.free 0
          have fx1 := HF.out.rx.free 1
          have fx2 := HF.out.rx.free 2
          have fy0 := HF.out.ry.free 0
          have fy1 := HF.out.ry.free 1
          have fy2 := HF.out.ry.free 2
          have fy3 := HF.out.ry.free 3
          have fy4 := HF.out.ry.free 4
          go_wp2_with fail
          go_region
          go_wp2_with fail
          have hend := DP.end HF.out rfl
          obtain ⟨hbx, hby, hi, hbut, hrd⟩ := hend
          obtain ⟨e0, e1, e2⟩ := hbx.three0
          obtain ⟨e3, e4, e5, e6, e7⟩ := hby.five9
          refine bodyPost_ret (v := .tuple #[.agg #[.int .i64 F, .slice ta tn tc, .int .i64 r], .agg #[.int .i64 k, .int .i64 x, .int .i64 n, .int .i64 s, .int .i64 u]]) (by simp [results, Tryz.results47, go_sem, e0, e1, e2, e3, e4, e5, e6, e7]) rfl ⟨F, ta, tn, tc, xs, r, k, x, n, s, u, rfl, hi, HTC.out.1, HTC.out.2, fun y hy => ?_, hbut, hrd⟩
          have := HF.out.far y hy
          have := HXX.out
          omega

end Go.Proofs.YtdlfofdibooidaaGreat

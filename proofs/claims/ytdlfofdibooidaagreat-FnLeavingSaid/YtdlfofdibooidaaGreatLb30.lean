/- Merged: Rvf, Rvg, Rvi. -/
import Derived.Test.YtdlfofdibooidaaGreatLb10
import Derived.Test.YtdlfofdibooidaaGreatLb13
import Derived.Test.YtdlfofdibooidaaGreatLb29

/- Reserves: the numerators of the three sides. (Written by wip/gen/rvf.py.) -/
namespace Go.Proofs.YtdlfofdibooidaaGreat
open Go.ChangeShapes Go.WideShapes Go.ChangeAt Go.RowKit
open Go.ChangeMaps (setBlock heap_setBlock_same heap_setBlock_other)
set_option linter.unusedVariables false
set_option maxRecDepth 100000

theorem FW.setN {w : World} {C R : Nat} {r f : Int} {xs : List Int} {v : Value} {k x n s u : Int} {ys : List Value} {W : World} {N : Nat} (h : FW w C R r f xs v k x n s u ys W) (hN : w.heap.size + 2 ≤ N) (a b : Value) : FW w C R r f xs v k x n s u ys ((W.setCell ⟨N, 0, none⟩ a).setCell ⟨N, 1, none⟩ b) := by
  have far : ∀ j, j ≠ N → ((W.setCell ⟨N, 0, none⟩ a).setCell ⟨N, 1, none⟩ b).heap[j]? = W.heap[j]? := fun j hj => (Below.heap_setCell _ _ _ _ hj).trans (Below.heap_setCell _ _ _ _ hj)
  have hc := h.cl
  have hr := h.rl
  obtain ⟨p0, q0, hB⟩ := h.r
  exact ⟨⟨h.crs.b.same (far C (by omega)), h.crs.cols.same (far R (by omega))⟩, h.y.same (far _ (by omega)), ⟨p0, q0, hB.same (far _ (by omega))⟩, (h.low.setCell (p := ⟨N, 0, none⟩) (by show w.heap.size ≤ N; omega) _).setCell (p := ⟨N, 1, none⟩) (by show w.heap.size ≤ N; omega) _, by have := h.sz; simpa [World.setCell] using this, hc, hr⟩

theorem bx_put2 {W : World} {K : Nat} {x y u v : Value} (h : Bx W K [x, y]) : Bx ((W.setCell ⟨K, 0, none⟩ u).setCell ⟨K, 1, none⟩ v) K [u, v] := by
  obtain ⟨T, h⟩ := h
  refine ⟨T, ?_⟩
  simp [World.setCell, Array.getElem?_modify, h]

theorem wq_new {W w' : World} {n : Nat} (hb : Below (W.alloc (.cells #[.int .u64 0, .int .u64 0] 177)).heap.size (W.alloc (.cells #[.int .u64 0, .int .u64 0] 177)) w') (hs : n ≤ W.heap.size) : Bx w' W.heap.size [.int .u64 0, .int .u64 0] ∧ n ≤ W.heap.size ∧ n ≤ w'.heap.size :=
  ⟨(Bx.new W [.int .u64 0, .int .u64 0] 177).on hb, hs, Nat.le_trans (Nat.le_trans hs (by simp)) hb.size⟩

theorem wq_newD {W w' : World} {n : Nat} (hb : Below (W.alloc (.cells #[.int .u64 0, .int .u64 0] 177)).drew.heap.size (W.alloc (.cells #[.int .u64 0, .int .u64 0] 177)).drew w') (hs : n ≤ W.heap.size) : Bx w' W.heap.size [.int .u64 0, .int .u64 0] ∧ n ≤ W.heap.size ∧ n ≤ w'.heap.size :=
  wq_new (w' := w') ⟨hb.os, hb.tape, hb.output, hb.size, hb.block⟩ hs

theorem wq_old {W w' : World} {N n : Nat} (hq : Bx W N [.int .u64 0, .int .u64 0]) (hb : Below W.heap.size W w') (hs : n ≤ W.heap.size) : Bx w' N [.int .u64 0, .int .u64 0] ∧ n ≤ w'.heap.size := ⟨hq.on hb, Nat.le_trans hs hb.size⟩

structure FA (w : World) (C R : Nat) (r f : Int) (xs : List Int) (v : Value) (k x n s u p : Int) (T : TypeId) (g0 g1 g2 g3 g4 g5 g6 g7 e0 e1 e2 e3 e4 e5 e6 e7 : Int) (W : World) : Prop where
  fw : FW w C R r f xs v k x n s u [.pointer (some ⟨C, 0, none⟩), .iface T (.agg #[]), .int .i64 g0, .int .i64 g1, .int .i64 g2, .int .i64 g3, .int .i64 g4, .int .i64 g5, .int .i64 g6, .int .i64 g7] W
  ep : netN r f xs k x n s = p

theorem FA.on {w : World} {C R : Nat} {r f : Int} {xs : List Int} {v : Value} {k x n s u p : Int} {T : TypeId} {g0 g1 g2 g3 g4 g5 g6 g7 e0 e1 e2 e3 e4 e5 e6 e7 : Int} {W W' : World} (h : FA w C R r f xs v k x n s u p T g0 g1 g2 g3 g4 g5 g6 g7 e0 e1 e2 e3 e4 e5 e6 e7 W) (hb : Below W.heap.size W W') : FA w C R r f xs v k x n s u p T g0 g1 g2 g3 g4 g5 g6 g7 e0 e1 e2 e3 e4 e5 e6 e7 W' := ⟨h.fw.on hb, h.ep⟩

theorem FA.drew {w : World} {C R : Nat} {r f : Int} {xs : List Int} {v : Value} {k x n s u p : Int} {T : TypeId} {g0 g1 g2 g3 g4 g5 g6 g7 e0 e1 e2 e3 e4 e5 e6 e7 : Int} {W : World} (h : FA w C R r f xs v k x n s u p T g0 g1 g2 g3 g4 g5 g6 g7 e0 e1 e2 e3 e4 e5 e6 e7 W) : FA w C R r f xs v k x n s u p T g0 g1 g2 g3 g4 g5 g6 g7 e0 e1 e2 e3 e4 e5 e6 e7 W.drew := h.on (Below.drew (Below.refl _ _))

theorem FA.put {w : World} {C R : Nat} {r f : Int} {xs : List Int} {v : Value} {k x n s u p : Int} {T : TypeId} {g0 g1 g2 g3 g4 g5 g6 g7 e0 e1 e2 e3 e4 e5 e6 e7 : Int} {W : World} (h : FA w C R r f xs v k x n s u p T g0 g1 g2 g3 g4 g5 g6 g7 e0 e1 e2 e3 e4 e5 e6 e7 W) (a b : Int) : FA w C R r f xs v k x n s u p T g0 g1 g2 g3 g4 g5 g6 g7 e0 e1 e2 e3 e4 e5 e6 e7 ((W.setCell ⟨w.heap.size + 1, 0, none⟩ (.int .u64 a)).setCell ⟨w.heap.size + 1, 1, none⟩ (.int .u64 b)) := ⟨h.fw.put a b, h.ep⟩

theorem FA.setN {w : World} {C R : Nat} {r f : Int} {xs : List Int} {v : Value} {k x n s u p : Int} {T : TypeId} {g0 g1 g2 g3 g4 g5 g6 g7 e0 e1 e2 e3 e4 e5 e6 e7 : Int} {W : World} {N : Nat} (h : FA w C R r f xs v k x n s u p T g0 g1 g2 g3 g4 g5 g6 g7 e0 e1 e2 e3 e4 e5 e6 e7 W) (hN : w.heap.size + 2 ≤ N) (a b : Value) : FA w C R r f xs v k x n s u p T g0 g1 g2 g3 g4 g5 g6 g7 e0 e1 e2 e3 e4 e5 e6 e7 ((W.setCell ⟨N, 0, none⟩ a).setCell ⟨N, 1, none⟩ b) := ⟨h.fw.setN (by omega) a b, h.ep⟩

theorem faS {w : World} {C R : Nat} {r f : Int} {xs : List Int} {v : Value} {k x n s u p : Int} {T : TypeId} {g0 g1 g2 g3 g4 g5 g6 g7 e0 e1 e2 e3 e4 e5 e6 e7 : Int} {W : World} (h : FA w C R r f xs v k x n s u p T g0 g1 g2 g3 g4 g5 g6 g7 e0 e1 e2 e3 e4 e5 e6 e7 W) : W.cell? ⟨w.heap.size, 0, none⟩ = some (.pointer (some ⟨C, 0, none⟩)) ∧ W.cell? ⟨w.heap.size, 1, none⟩ = some (.iface T (.agg #[])) ∧ W.cell? ⟨w.heap.size, 2, none⟩ = some (.int .i64 g0) ∧ W.cell? ⟨w.heap.size, 3, none⟩ = some (.int .i64 g1) ∧ W.cell? ⟨w.heap.size, 4, none⟩ = some (.int .i64 g2) ∧ W.cell? ⟨w.heap.size, 5, none⟩ = some (.int .i64 g3) ∧ W.cell? ⟨w.heap.size, 6, none⟩ = some (.int .i64 g4) ∧ W.cell? ⟨w.heap.size, 7, none⟩ = some (.int .i64 g5) ∧ W.cell? ⟨w.heap.size, 8, none⟩ = some (.int .i64 g6) ∧ W.cell? ⟨w.heap.size, 9, none⟩ = some (.int .i64 g7) ∧ W.cell? ⟨C, 4, none⟩ = some (.int .i64 s) ∧ W.cell? ⟨C, 6, none⟩ = some (.int .i64 p) ∧ Hid (FA w C R r f xs v k x n s u p T g0 g1 g2 g3 g4 g5 g6 g7 e0 e1 e2 e3 e4 e5 e6 e7 W) := by
  obtain ⟨c0, c1, c2, c3, c4, c5, c6, c7, c8, c9⟩ := h.fw.y.c10
  obtain ⟨x4, x6⟩ := h.fw.crs.prem
  rw [h.ep] at x6
  exact ⟨c0, c1, c2, c3, c4, c5, c6, c7, c8, c9, x4, x6, Lib.hid h⟩

/-- the same, and the first product -/
structure FAN (w : World) (C R : Nat) (r f : Int) (xs : List Int) (v : Value) (k x n s u p : Int) (T : TypeId) (g0 g1 g2 g3 g4 g5 g6 g7 e0 e1 e2 e3 e4 e5 e6 e7 : Int) (N : Nat) (a b : Int) (W : World) : Prop where
  x : FA w C R r f xs v k x n s u p T g0 g1 g2 g3 g4 g5 g6 g7 e0 e1 e2 e3 e4 e5 e6 e7 W
  n : Bx W N [.int .u64 a, .int .u64 b]
  nl : w.heap.size + 2 ≤ N

theorem FAN.on {w : World} {C R : Nat} {r f : Int} {xs : List Int} {v : Value} {k x n s u p : Int} {T : TypeId} {g0 g1 g2 g3 g4 g5 g6 g7 e0 e1 e2 e3 e4 e5 e6 e7 : Int} {N : Nat} {a b : Int} {W W' : World} (h : FAN w C R r f xs v k x n s u p T g0 g1 g2 g3 g4 g5 g6 g7 e0 e1 e2 e3 e4 e5 e6 e7 N a b W) (hb : Below W.heap.size W W') : FAN w C R r f xs v k x n s u p T g0 g1 g2 g3 g4 g5 g6 g7 e0 e1 e2 e3 e4 e5 e6 e7 N a b W' := ⟨h.x.on hb, h.n.on hb, h.nl⟩

theorem FAN.drew {w : World} {C R : Nat} {r f : Int} {xs : List Int} {v : Value} {k x n s u p : Int} {T : TypeId} {g0 g1 g2 g3 g4 g5 g6 g7 e0 e1 e2 e3 e4 e5 e6 e7 : Int} {N : Nat} {a b : Int} {W : World} (h : FAN w C R r f xs v k x n s u p T g0 g1 g2 g3 g4 g5 g6 g7 e0 e1 e2 e3 e4 e5 e6 e7 N a b W) : FAN w C R r f xs v k x n s u p T g0 g1 g2 g3 g4 g5 g6 g7 e0 e1 e2 e3 e4 e5 e6 e7 N a b W.drew := h.on (Below.drew (Below.refl _ _))

theorem FAN.put {w : World} {C R : Nat} {r f : Int} {xs : List Int} {v : Value} {k x n s u p : Int} {T : TypeId} {g0 g1 g2 g3 g4 g5 g6 g7 e0 e1 e2 e3 e4 e5 e6 e7 : Int} {N : Nat} {a b : Int} {W : World} (h : FAN w C R r f xs v k x n s u p T g0 g1 g2 g3 g4 g5 g6 g7 e0 e1 e2 e3 e4 e5 e6 e7 N a b W) (c d : Int) : FAN w C R r f xs v k x n s u p T g0 g1 g2 g3 g4 g5 g6 g7 e0 e1 e2 e3 e4 e5 e6 e7 N a b ((W.setCell ⟨w.heap.size + 1, 0, none⟩ (.int .u64 c)).setCell ⟨w.heap.size + 1, 1, none⟩ (.int .u64 d)) := by
  have hn := h.nl
  exact ⟨h.x.put c d, h.n.same ((Below.heap_setCell _ _ _ _ (by show N ≠ w.heap.size + 1; omega)).trans (Below.heap_setCell _ _ _ _ (by show N ≠ w.heap.size + 1; omega))), hn⟩

theorem fanS {w : World} {C R : Nat} {r f : Int} {xs : List Int} {v : Value} {k x n s u p : Int} {T : TypeId} {g0 g1 g2 g3 g4 g5 g6 g7 e0 e1 e2 e3 e4 e5 e6 e7 : Int} {N : Nat} {a b : Int} {W : World} (h : FAN w C R r f xs v k x n s u p T g0 g1 g2 g3 g4 g5 g6 g7 e0 e1 e2 e3 e4 e5 e6 e7 N a b W) : W.cell? ⟨N, 0, none⟩ = some (.int .u64 a) ∧ W.cell? ⟨N, 1, none⟩ = some (.int .u64 b) ∧ W.cell? ⟨w.heap.size, 0, none⟩ = some (.pointer (some ⟨C, 0, none⟩)) ∧ W.cell? ⟨w.heap.size, 1, none⟩ = some (.iface T (.agg #[])) ∧ W.cell? ⟨w.heap.size, 2, none⟩ = some (.int .i64 g0) ∧ W.cell? ⟨w.heap.size, 3, none⟩ = some (.int .i64 g1) ∧ W.cell? ⟨w.heap.size, 4, none⟩ = some (.int .i64 g2) ∧ W.cell? ⟨w.heap.size, 5, none⟩ = some (.int .i64 g3) ∧ W.cell? ⟨w.heap.size, 6, none⟩ = some (.int .i64 g4) ∧ W.cell? ⟨w.heap.size, 7, none⟩ = some (.int .i64 g5) ∧ W.cell? ⟨w.heap.size, 8, none⟩ = some (.int .i64 g6) ∧ W.cell? ⟨w.heap.size, 9, none⟩ = some (.int .i64 g7) ∧ W.cell? ⟨C, 4, none⟩ = some (.int .i64 s) ∧ W.cell? ⟨C, 6, none⟩ = some (.int .i64 p) ∧ Hid (FAN w C R r f xs v k x n s u p T g0 g1 g2 g3 g4 g5 g6 g7 e0 e1 e2 e3 e4 e5 e6 e7 N a b W) := by
  obtain ⟨c0, c1, c2, c3, c4, c5, c6, c7, c8, c9⟩ := h.x.fw.y.c10
  obtain ⟨x4, x6⟩ := h.x.fw.crs.prem
  obtain ⟨y0, y1⟩ := h.n.two
  rw [h.x.ep] at x6
  exact ⟨y0, y1, c0, c1, c2, c3, c4, c5, c6, c7, c8, c9, x4, x6, Lib.hid h⟩

structure FB (w : World) (C R : Nat) (r f : Int) (xs : List Int) (v : Value) (k x n s u p : Int) (T : TypeId) (g0 g1 g2 g3 g4 g5 g6 g7 e0 e1 e2 e3 e4 e5 e6 e7 : Int) (W : World) : Prop where
  fw : FW w C R r f xs v k x n s u [.pointer (some ⟨C, 0, none⟩), .iface T (.agg #[]), .int .i64 g0, .int .i64 g1, .int .i64 g2, .int .i64 g3, .int .i64 g4, .int .i64 g5, .int .i64 g6, .int .i64 g7] W
  ep : netN r f xs k x n s = p
  g : Q9 W (w.heap.size + 2) (.iface T (.agg #[])) e0 e1 e2 e3 e4 e5 e6 e7
  sz3 : w.heap.size + 3 ≤ W.heap.size

theorem FB.on {w : World} {C R : Nat} {r f : Int} {xs : List Int} {v : Value} {k x n s u p : Int} {T : TypeId} {g0 g1 g2 g3 g4 g5 g6 g7 e0 e1 e2 e3 e4 e5 e6 e7 : Int} {W W' : World} (h : FB w C R r f xs v k x n s u p T g0 g1 g2 g3 g4 g5 g6 g7 e0 e1 e2 e3 e4 e5 e6 e7 W) (hb : Below W.heap.size W W') : FB w C R r f xs v k x n s u p T g0 g1 g2 g3 g4 g5 g6 g7 e0 e1 e2 e3 e4 e5 e6 e7 W' := ⟨h.fw.on hb, h.ep, h.g.on hb, Nat.le_trans h.sz3 hb.size⟩

theorem FB.drew {w : World} {C R : Nat} {r f : Int} {xs : List Int} {v : Value} {k x n s u p : Int} {T : TypeId} {g0 g1 g2 g3 g4 g5 g6 g7 e0 e1 e2 e3 e4 e5 e6 e7 : Int} {W : World} (h : FB w C R r f xs v k x n s u p T g0 g1 g2 g3 g4 g5 g6 g7 e0 e1 e2 e3 e4 e5 e6 e7 W) : FB w C R r f xs v k x n s u p T g0 g1 g2 g3 g4 g5 g6 g7 e0 e1 e2 e3 e4 e5 e6 e7 W.drew := h.on (Below.drew (Below.refl _ _))

theorem FB.put {w : World} {C R : Nat} {r f : Int} {xs : List Int} {v : Value} {k x n s u p : Int} {T : TypeId} {g0 g1 g2 g3 g4 g5 g6 g7 e0 e1 e2 e3 e4 e5 e6 e7 : Int} {W : World} (h : FB w C R r f xs v k x n s u p T g0 g1 g2 g3 g4 g5 g6 g7 e0 e1 e2 e3 e4 e5 e6 e7 W) (a b : Int) : FB w C R r f xs v k x n s u p T g0 g1 g2 g3 g4 g5 g6 g7 e0 e1 e2 e3 e4 e5 e6 e7 ((W.setCell ⟨w.heap.size + 1, 0, none⟩ (.int .u64 a)).setCell ⟨w.heap.size + 1, 1, none⟩ (.int .u64 b)) := ⟨h.fw.put a b, h.ep, h.g.same ((Below.heap_setCell _ _ _ _ (by show w.heap.size + 2 ≠ w.heap.size + 1; omega)).trans (Below.heap_setCell _ _ _ _ (by show w.heap.size + 2 ≠ w.heap.size + 1; omega))), by have := h.sz3; simpa [World.setCell] using this⟩

theorem FB.setN {w : World} {C R : Nat} {r f : Int} {xs : List Int} {v : Value} {k x n s u p : Int} {T : TypeId} {g0 g1 g2 g3 g4 g5 g6 g7 e0 e1 e2 e3 e4 e5 e6 e7 : Int} {W : World} {N : Nat} (h : FB w C R r f xs v k x n s u p T g0 g1 g2 g3 g4 g5 g6 g7 e0 e1 e2 e3 e4 e5 e6 e7 W) (hN : w.heap.size + 3 ≤ N) (a b : Value) : FB w C R r f xs v k x n s u p T g0 g1 g2 g3 g4 g5 g6 g7 e0 e1 e2 e3 e4 e5 e6 e7 ((W.setCell ⟨N, 0, none⟩ a).setCell ⟨N, 1, none⟩ b) := ⟨h.fw.setN (by omega) a b, h.ep, h.g.same ((Below.heap_setCell _ _ _ _ (by show w.heap.size + 2 ≠ N; omega)).trans (Below.heap_setCell _ _ _ _ (by show w.heap.size + 2 ≠ N; omega))), by have := h.sz3; simpa [World.setCell] using this⟩

theorem fbS {w : World} {C R : Nat} {r f : Int} {xs : List Int} {v : Value} {k x n s u p : Int} {T : TypeId} {g0 g1 g2 g3 g4 g5 g6 g7 e0 e1 e2 e3 e4 e5 e6 e7 : Int} {W : World} (h : FB w C R r f xs v k x n s u p T g0 g1 g2 g3 g4 g5 g6 g7 e0 e1 e2 e3 e4 e5 e6 e7 W) : W.cell? ⟨w.heap.size, 0, none⟩ = some (.pointer (some ⟨C, 0, none⟩)) ∧ W.cell? ⟨w.heap.size, 1, none⟩ = some (.iface T (.agg #[])) ∧ W.cell? ⟨w.heap.size, 2, none⟩ = some (.int .i64 g0) ∧ W.cell? ⟨w.heap.size, 3, none⟩ = some (.int .i64 g1) ∧ W.cell? ⟨w.heap.size, 4, none⟩ = some (.int .i64 g2) ∧ W.cell? ⟨w.heap.size, 5, none⟩ = some (.int .i64 g3) ∧ W.cell? ⟨w.heap.size, 6, none⟩ = some (.int .i64 g4) ∧ W.cell? ⟨w.heap.size, 7, none⟩ = some (.int .i64 g5) ∧ W.cell? ⟨w.heap.size, 8, none⟩ = some (.int .i64 g6) ∧ W.cell? ⟨w.heap.size, 9, none⟩ = some (.int .i64 g7) ∧ W.cell? ⟨C, 4, none⟩ = some (.int .i64 s) ∧ W.cell? ⟨C, 6, none⟩ = some (.int .i64 p) ∧ W.cell? ⟨w.heap.size + 2, 0, none⟩ = some (.iface T (.agg #[])) ∧ W.cell? ⟨w.heap.size + 2, 1, none⟩ = some (.int .i64 e0) ∧ W.cell? ⟨w.heap.size + 2, 2, none⟩ = some (.int .i64 e1) ∧ W.cell? ⟨w.heap.size + 2, 3, none⟩ = some (.int .i64 e2) ∧ W.cell? ⟨w.heap.size + 2, 4, none⟩ = some (.int .i64 e3) ∧ W.cell? ⟨w.heap.size + 2, 5, none⟩ = some (.int .i64 e4) ∧ W.cell? ⟨w.heap.size + 2, 6, none⟩ = some (.int .i64 e5) ∧ W.cell? ⟨w.heap.size + 2, 7, none⟩ = some (.int .i64 e6) ∧ W.cell? ⟨w.heap.size + 2, 8, none⟩ = some (.int .i64 e7) ∧ Hid (FB w C R r f xs v k x n s u p T g0 g1 g2 g3 g4 g5 g6 g7 e0 e1 e2 e3 e4 e5 e6 e7 W) := by
  obtain ⟨c0, c1, c2, c3, c4, c5, c6, c7, c8, c9⟩ := h.fw.y.c10
  obtain ⟨x4, x6⟩ := h.fw.crs.prem
  rw [h.ep] at x6
  obtain ⟨d0, d1, d2, d3, d4, d5, d6, d7, d8, -⟩ := h.g.f9
  exact ⟨c0, c1, c2, c3, c4, c5, c6, c7, c8, c9, x4, x6, d0, d1, d2, d3, d4, d5, d6, d7, d8, Lib.hid h⟩

/-- the same, and the first product -/
structure FBN (w : World) (C R : Nat) (r f : Int) (xs : List Int) (v : Value) (k x n s u p : Int) (T : TypeId) (g0 g1 g2 g3 g4 g5 g6 g7 e0 e1 e2 e3 e4 e5 e6 e7 : Int) (N : Nat) (a b : Int) (W : World) : Prop where
  x : FB w C R r f xs v k x n s u p T g0 g1 g2 g3 g4 g5 g6 g7 e0 e1 e2 e3 e4 e5 e6 e7 W
  n : Bx W N [.int .u64 a, .int .u64 b]
  nl : w.heap.size + 3 ≤ N

theorem FBN.on {w : World} {C R : Nat} {r f : Int} {xs : List Int} {v : Value} {k x n s u p : Int} {T : TypeId} {g0 g1 g2 g3 g4 g5 g6 g7 e0 e1 e2 e3 e4 e5 e6 e7 : Int} {N : Nat} {a b : Int} {W W' : World} (h : FBN w C R r f xs v k x n s u p T g0 g1 g2 g3 g4 g5 g6 g7 e0 e1 e2 e3 e4 e5 e6 e7 N a b W) (hb : Below W.heap.size W W') : FBN w C R r f xs v k x n s u p T g0 g1 g2 g3 g4 g5 g6 g7 e0 e1 e2 e3 e4 e5 e6 e7 N a b W' := ⟨h.x.on hb, h.n.on hb, h.nl⟩

theorem FBN.drew {w : World} {C R : Nat} {r f : Int} {xs : List Int} {v : Value} {k x n s u p : Int} {T : TypeId} {g0 g1 g2 g3 g4 g5 g6 g7 e0 e1 e2 e3 e4 e5 e6 e7 : Int} {N : Nat} {a b : Int} {W : World} (h : FBN w C R r f xs v k x n s u p T g0 g1 g2 g3 g4 g5 g6 g7 e0 e1 e2 e3 e4 e5 e6 e7 N a b W) : FBN w C R r f xs v k x n s u p T g0 g1 g2 g3 g4 g5 g6 g7 e0 e1 e2 e3 e4 e5 e6 e7 N a b W.drew := h.on (Below.drew (Below.refl _ _))

theorem FBN.put {w : World} {C R : Nat} {r f : Int} {xs : List Int} {v : Value} {k x n s u p : Int} {T : TypeId} {g0 g1 g2 g3 g4 g5 g6 g7 e0 e1 e2 e3 e4 e5 e6 e7 : Int} {N : Nat} {a b : Int} {W : World} (h : FBN w C R r f xs v k x n s u p T g0 g1 g2 g3 g4 g5 g6 g7 e0 e1 e2 e3 e4 e5 e6 e7 N a b W) (c d : Int) : FBN w C R r f xs v k x n s u p T g0 g1 g2 g3 g4 g5 g6 g7 e0 e1 e2 e3 e4 e5 e6 e7 N a b ((W.setCell ⟨w.heap.size + 1, 0, none⟩ (.int .u64 c)).setCell ⟨w.heap.size + 1, 1, none⟩ (.int .u64 d)) := by
  have hn := h.nl
  exact ⟨h.x.put c d, h.n.same ((Below.heap_setCell _ _ _ _ (by show N ≠ w.heap.size + 1; omega)).trans (Below.heap_setCell _ _ _ _ (by show N ≠ w.heap.size + 1; omega))), hn⟩

theorem fbnS {w : World} {C R : Nat} {r f : Int} {xs : List Int} {v : Value} {k x n s u p : Int} {T : TypeId} {g0 g1 g2 g3 g4 g5 g6 g7 e0 e1 e2 e3 e4 e5 e6 e7 : Int} {N : Nat} {a b : Int} {W : World} (h : FBN w C R r f xs v k x n s u p T g0 g1 g2 g3 g4 g5 g6 g7 e0 e1 e2 e3 e4 e5 e6 e7 N a b W) : W.cell? ⟨N, 0, none⟩ = some (.int .u64 a) ∧ W.cell? ⟨N, 1, none⟩ = some (.int .u64 b) ∧ W.cell? ⟨w.heap.size, 0, none⟩ = some (.pointer (some ⟨C, 0, none⟩)) ∧ W.cell? ⟨w.heap.size, 1, none⟩ = some (.iface T (.agg #[])) ∧ W.cell? ⟨w.heap.size, 2, none⟩ = some (.int .i64 g0) ∧ W.cell? ⟨w.heap.size, 3, none⟩ = some (.int .i64 g1) ∧ W.cell? ⟨w.heap.size, 4, none⟩ = some (.int .i64 g2) ∧ W.cell? ⟨w.heap.size, 5, none⟩ = some (.int .i64 g3) ∧ W.cell? ⟨w.heap.size, 6, none⟩ = some (.int .i64 g4) ∧ W.cell? ⟨w.heap.size, 7, none⟩ = some (.int .i64 g5) ∧ W.cell? ⟨w.heap.size, 8, none⟩ = some (.int .i64 g6) ∧ W.cell? ⟨w.heap.size, 9, none⟩ = some (.int .i64 g7) ∧ W.cell? ⟨C, 4, none⟩ = some (.int .i64 s) ∧ W.cell? ⟨C, 6, none⟩ = some (.int .i64 p) ∧ W.cell? ⟨w.heap.size + 2, 0, none⟩ = some (.iface T (.agg #[])) ∧ W.cell? ⟨w.heap.size + 2, 1, none⟩ = some (.int .i64 e0) ∧ W.cell? ⟨w.heap.size + 2, 2, none⟩ = some (.int .i64 e1) ∧ W.cell? ⟨w.heap.size + 2, 3, none⟩ = some (.int .i64 e2) ∧ W.cell? ⟨w.heap.size + 2, 4, none⟩ = some (.int .i64 e3) ∧ W.cell? ⟨w.heap.size + 2, 5, none⟩ = some (.int .i64 e4) ∧ W.cell? ⟨w.heap.size + 2, 6, none⟩ = some (.int .i64 e5) ∧ W.cell? ⟨w.heap.size + 2, 7, none⟩ = some (.int .i64 e6) ∧ W.cell? ⟨w.heap.size + 2, 8, none⟩ = some (.int .i64 e7) ∧ Hid (FBN w C R r f xs v k x n s u p T g0 g1 g2 g3 g4 g5 g6 g7 e0 e1 e2 e3 e4 e5 e6 e7 N a b W) := by
  obtain ⟨c0, c1, c2, c3, c4, c5, c6, c7, c8, c9⟩ := h.x.fw.y.c10
  obtain ⟨x4, x6⟩ := h.x.fw.crs.prem
  obtain ⟨y0, y1⟩ := h.n.two
  rw [h.x.ep] at x6
  obtain ⟨d0, d1, d2, d3, d4, d5, d6, d7, d8, -⟩ := h.x.g.f9
  exact ⟨y0, y1, c0, c1, c2, c3, c4, c5, c6, c7, c8, c9, x4, x6, d0, d1, d2, d3, d4, d5, d6, d7, d8, Lib.hid h⟩

set_option maxHeartbeats 16000000 in
theorem ifw_any (C R : Nat) (r f : Int) (xs : List Int) (v : Value) (k x n s u j : Int) (w : World) (h : Crs C R r f xs v k x n s u w) (hp : poB r f xs k x n s u = true) (hj : 0 ≤ j ∧ j ≤ durN f xs k x n - 1) (hd : dvN r f xs x j ≠ 0) :
    Calls Tryz.prog 120 #[yrV C r f xs k x n j] w fun e w' => e = .returned (wdV (fwN r f xs k x n s j)) ∧ Below w.heap.size w w' := by
  have hz := rv_as hp hj hd
  have hz0 := (poB_iff.1 hp).1
  unfold asE at hz0
  obtain ⟨t, b, d, t0, b0, p, e1, e2, e3, e4, e5, e6, ⟨t1, t2⟩, ⟨d0, d1⟩, ⟨v0, v1⟩, ⟨t3, t4⟩, ⟨v2, v3⟩, ⟨p0, p1⟩, g0, g1, s0, s1⟩ := rv_nums hp hj hd
  have CT : Hid (∀ W, Calls Tryz.prog 70 #[cvr (.iface (kT k) (.agg #[])) (cD r xs (x + j - f).toNat) (cN r xs (x + j - f).toNat) (cC r xs (x + j - f).toNat) (cM r xs (x + j - f).toNat) (cD r xs (x + j + lfN k n j - f).toNat) (cN r xs (x + j + lfN k n j - f).toNat) (cC r xs (x + j + lfN k n j - f).toNat) (cM r xs (x + j + lfN k n j - f).toNat)] W fun e w' => e = .returned (.int .i64 (ryT r f xs k x n j)) ∧ Below W.heap.size W w') := Lib.hid (fun W => cvn_any hz W)
  have CB : Hid (∀ W, Calls Tryz.prog 129 #[cvr (.iface (kT k) (.agg #[])) (cD r xs (x + j - f).toNat) (cN r xs (x + j - f).toNat) (cC r xs (x + j - f).toNat) (cM r xs (x + j - f).toNat) (cD r xs (x + j + lfN k n j - f).toNat) (cN r xs (x + j + lfN k n j - f).toNat) (cC r xs (x + j + lfN k n j - f).toNat) (cM r xs (x + j + lfN k n j - f).toNat)] W fun e w' => e = .returned (.int .i64 (ryB r f xs k x n j)) ∧ Below W.heap.size W w') := Lib.hid (fun W => cvb_any hz W)
  unfold fwN
  rw [e1] at CT
  rw [e2] at CB
  rw [e1, e2, e6]
  have CP1 := Lib.hid (fun W => prod_any (s) (t) W (by omega) (by omega) (by omega) (by omega))
  have CP2 := Lib.hid (fun W => prod_any (p) (b) W (by omega) (by omega) (by omega) (by omega))
  have CM := Lib.hid (fun W => minus_any (s * t) (p * b) W)
  unfold wdV at CP1 CP2 CM ⊢
  obtain ⟨h3, qh3⟩ : ∃ y_, hiW (s * t - p * b) = y_ := ⟨_, rfl⟩
  obtain ⟨l3, ql3⟩ : ∃ y_, loW (s * t - p * b) = y_ := ⟨_, rfl⟩
  rw [qh3, ql3] at CM ⊢
  clear qh3 ql3
  obtain ⟨h1, qh1⟩ : ∃ y_, hiW (s * t) = y_ := ⟨_, rfl⟩
  obtain ⟨l1, ql1⟩ : ∃ y_, loW (s * t) = y_ := ⟨_, rfl⟩
  rw [qh1, ql1] at CP1 CM
  clear qh1 ql1
  obtain ⟨h2, qh2⟩ : ∃ y_, hiW (p * b) = y_ := ⟨_, rfl⟩
  obtain ⟨l2, ql2⟩ : ∃ y_, loW (p * b) = y_ := ⟨_, rfl⟩
  rw [qh2, ql2] at CP2 CM
  clear qh2 ql2
  have HE := Lib.hid e6
  clear e1 e2 e3 e4 e5 e6 t1 t2 d0 d1 v0 v1 t3 t4 v2 v3 p0 p1 g0 g1 s0 s1 hz hz0 hp hj hd
  unfold yrV
  unfold cvr at CT CB
  obtain ⟨g0, hg0⟩ : ∃ y_, cD r xs (x + j - f).toNat = y_ := ⟨_, rfl⟩
  obtain ⟨g1, hg1⟩ : ∃ y_, cN r xs (x + j - f).toNat = y_ := ⟨_, rfl⟩
  obtain ⟨g2, hg2⟩ : ∃ y_, cC r xs (x + j - f).toNat = y_ := ⟨_, rfl⟩
  obtain ⟨g3, hg3⟩ : ∃ y_, cM r xs (x + j - f).toNat = y_ := ⟨_, rfl⟩
  rw [hg0, hg1, hg2, hg3] at CT CB ⊢
  clear hg0 hg1 hg2 hg3
  obtain ⟨g4, hg0⟩ : ∃ y_, cD r xs (x + j + lfN k n j - f).toNat = y_ := ⟨_, rfl⟩
  obtain ⟨g5, hg1⟩ : ∃ y_, cN r xs (x + j + lfN k n j - f).toNat = y_ := ⟨_, rfl⟩
  obtain ⟨g6, hg2⟩ : ∃ y_, cC r xs (x + j + lfN k n j - f).toNat = y_ := ⟨_, rfl⟩
  obtain ⟨g7, hg3⟩ : ∃ y_, cM r xs (x + j + lfN k n j - f).toNat = y_ := ⟨_, rfl⟩
  rw [hg0, hg1, hg2, hg3] at CT CB ⊢
  clear hg0 hg1 hg2 hg3
  obtain ⟨T, hT⟩ : ∃ y_, kT k = y_ := ⟨_, rfl⟩
  rw [hT] at CT CB ⊢
  clear hT
  have HC : Hid (FA w C R r f xs v k x n s u p T g0 g1 g2 g3 g4 g5 g6 g7 0 0 0 0 0 0 0 0 ((w.alloc (.cells #[.pointer (some ⟨C, 0, none⟩), .iface T (.agg #[]), .int .i64 g0, .int .i64 g1, .int .i64 g2, .int .i64 g3, .int .i64 g4, .int .i64 g5, .int .i64 g6, .int .i64 g7] 89)).alloc (.cells #[.int .u64 0, .int .u64 0] 177))) := Lib.hid ⟨FW.new [.pointer (some ⟨C, 0, none⟩), .iface T (.agg #[]), .int .i64 g0, .int .i64 g1, .int .i64 g2, .int .i64 g3, .int .i64 g4, .int .i64 g5, .int .i64 g6, .int .i64 g7] h, HE.out⟩
  clear h HE
  go_enter Tryz.func120, Tryz.ntmps120
  go_upto_region 1 with fail
  obtain ⟨W0, hW0⟩ : ∃ y_, (w.alloc (.cells #[.pointer (some ⟨C, 0, none⟩), .iface T (.agg #[]), .int .i64 g0, .int .i64 g1, .int .i64 g2, .int .i64 g3, .int .i64 g4, .int .i64 g5, .int .i64 g6, .int .i64 g7] 89)).alloc (.cells #[.int .u64 0, .int .u64 0] 177) = y_ := ⟨_, rfl⟩
  rw [hW0] at HC ⊢
  clear hW0
  go_cut [3] from 4 to 13 (fun q_ wx => ∃ N, q_ = .pointer (some ⟨N, 0, none⟩) ∧ Hid (FAN w C R r f xs v k x n s u p T g0 g1 g2 g3 g4 g5 g6 g7 0 0 0 0 0 0 0 0 N h1 l1 wx))
  case first =>
    have HC0 := Lib.hid (faS HC.out)
    obtain ⟨k0, k1, k2, k3, k4, k5, k6, k7, k8, k9, k10, k11, _⟩ := HC0.out
    have hszD : w.heap.size + 2 ≤ W0.heap.size := HC.out.fw.sz
    have hsz : w.heap.size + 2 ≤ W0.drew.heap.size := hszD
    have hq := True.intro
    have hsT := True.intro
    clear HC0
    go_region_held3 (fun W9 => W9.cell? ⟨w.heap.size, 0, none⟩ = some (.pointer (some ⟨C, 0, none⟩)) ∧ W9.cell? ⟨w.heap.size, 1, none⟩ = some (.iface T (.agg #[])) ∧ W9.cell? ⟨w.heap.size, 2, none⟩ = some (.int .i64 g0) ∧ W9.cell? ⟨w.heap.size, 3, none⟩ = some (.int .i64 g1) ∧ W9.cell? ⟨w.heap.size, 4, none⟩ = some (.int .i64 g2) ∧ W9.cell? ⟨w.heap.size, 5, none⟩ = some (.int .i64 g3) ∧ W9.cell? ⟨w.heap.size, 6, none⟩ = some (.int .i64 g4) ∧ W9.cell? ⟨w.heap.size, 7, none⟩ = some (.int .i64 g5) ∧ W9.cell? ⟨w.heap.size, 8, none⟩ = some (.int .i64 g6) ∧ W9.cell? ⟨w.heap.size, 9, none⟩ = some (.int .i64 g7) ∧ W9.cell? ⟨C, 4, none⟩ = some (.int .i64 s) ∧ W9.cell? ⟨C, 6, none⟩ = some (.int .i64 p) ∧ Hid (FA w C R r f xs v k x n s u p T g0 g1 g2 g3 g4 g5 g6 g7 0 0 0 0 0 0 0 0 W9))
      (first
        | (with_reducible exact faS (FA.setN HSp.out hsT _ _))
        | (go_split_ands; with_reducible exact faS (Hid.out (by with_reducible assumption)))
        | (go_split_ands; with_reducible exact faS (FA.on (Hid.out (by with_reducible assumption)) hb))
        | (go_split_ands; with_reducible exact faS (FA.on (Hid.out (by with_reducible assumption)) (Below.drew (Below.refl _ _))))
        | (go_split_ands; with_reducible exact faS (FA.on (Hid.out (by with_reducible assumption)) (box_b _ _)))
        | (go_split_ands; with_reducible exact faS (FA.on HSp.out (box_b _ _)))
        | fail)
      (first
        | (go_split_ands; go_at_call 70; ((with_reducible refine (CT.out _).mono ?_); rintro e w' ⟨rfl, hb⟩; have HSp : Hid (FA w C R r f xs v k x n s u p T g0 g1 g2 g3 g4 g5 g6 g7 0 0 0 0 0 0 0 0 w') := Lib.hid (FA.on (Hid.out (by with_reducible assumption)) hb); (first | ((with_reducible have hr := wq_newD hb hszD); obtain ⟨hq, hsT, hsz⟩ := hr; obtain ⟨n0, n1⟩ := hq.two; have m0 := hq.free 0; have m1 := hq.free 1) | ((with_reducible have hr := wq_new hb hsz); obtain ⟨hq, hsT, hsz⟩ := hr; obtain ⟨n0, n1⟩ := hq.two; have m0 := hq.free 0; have m1 := hq.free 1) | ((with_reducible have hr := wq_old hq hb hsz); obtain ⟨hq, hsz⟩ := hr; clear n0 n1 m0 m1; obtain ⟨n0, n1⟩ := hq.two; have m0 := hq.free 0; have m1 := hq.free 1) | (have hsz := Nat.le_trans hsz hb.size))))
        | (go_split_ands; go_at_call 132; ((with_reducible refine (CP1.out _).mono ?_); rintro e w' ⟨rfl, hb⟩; have HSp : Hid (FA w C R r f xs v k x n s u p T g0 g1 g2 g3 g4 g5 g6 g7 0 0 0 0 0 0 0 0 w') := Lib.hid (FA.on (Hid.out (by with_reducible assumption)) hb); (first | ((with_reducible have hr := wq_newD hb hszD); obtain ⟨hq, hsT, hsz⟩ := hr; obtain ⟨n0, n1⟩ := hq.two; have m0 := hq.free 0; have m1 := hq.free 1) | ((with_reducible have hr := wq_new hb hsz); obtain ⟨hq, hsT, hsz⟩ := hr; obtain ⟨n0, n1⟩ := hq.two; have m0 := hq.free 0; have m1 := hq.free 1) | ((with_reducible have hr := wq_old hq hb hsz); obtain ⟨hq, hsz⟩ := hr; clear n0 n1 m0 m1; obtain ⟨n0, n1⟩ := hq.two; have m0 := hq.free 0; have m1 := hq.free 1) | (have hsz := Nat.le_trans hsz hb.size))))
        | fail)
    all_goals
      go_split_ands
      go_wp2_with fail
      go_meet
      case rel =>
        first
          | (with_reducible exact ⟨_, rfl, Lib.hid ⟨Hid.out (by with_reducible assumption), bx_put2 hq, hsT⟩⟩)
          | (with_reducible exact ⟨_, rfl, Lib.hid ⟨Hid.out (by with_reducible assumption), Bx.new _ [.int .u64 h1, .int .u64 l1] _, hsz⟩⟩)
          | fail
  case rest =>
    obtain ⟨N, rfl, HQ⟩ := hcut
    have HC0 := Lib.hid (fanS HQ.out)
    obtain ⟨k0, k1, k2, k3, k4, k5, k6, k7, k8, k9, k10, k11, k12, k13, _⟩ := HC0.out
    clear HC0
    have hR := HQ.out.x.fw.r
    obtain ⟨ra, rb, hr⟩ := hR
    obtain ⟨r0, r1⟩ := hr.two
    have z0 := hr.free 0
    have z1 := hr.free 1
    clear hr
    go_wp2_with fail
    go_region_held3 (fun W9 => W9.cell? ⟨N, 0, none⟩ = some (.int .u64 h1) ∧ W9.cell? ⟨N, 1, none⟩ = some (.int .u64 l1) ∧ W9.cell? ⟨w.heap.size, 0, none⟩ = some (.pointer (some ⟨C, 0, none⟩)) ∧ W9.cell? ⟨w.heap.size, 1, none⟩ = some (.iface T (.agg #[])) ∧ W9.cell? ⟨w.heap.size, 2, none⟩ = some (.int .i64 g0) ∧ W9.cell? ⟨w.heap.size, 3, none⟩ = some (.int .i64 g1) ∧ W9.cell? ⟨w.heap.size, 4, none⟩ = some (.int .i64 g2) ∧ W9.cell? ⟨w.heap.size, 5, none⟩ = some (.int .i64 g3) ∧ W9.cell? ⟨w.heap.size, 6, none⟩ = some (.int .i64 g4) ∧ W9.cell? ⟨w.heap.size, 7, none⟩ = some (.int .i64 g5) ∧ W9.cell? ⟨w.heap.size, 8, none⟩ = some (.int .i64 g6) ∧ W9.cell? ⟨w.heap.size, 9, none⟩ = some (.int .i64 g7) ∧ W9.cell? ⟨C, 4, none⟩ = some (.int .i64 s) ∧ W9.cell? ⟨C, 6, none⟩ = some (.int .i64 p) ∧ Hid (FAN w C R r f xs v k x n s u p T g0 g1 g2 g3 g4 g5 g6 g7 0 0 0 0 0 0 0 0 N h1 l1 W9))
      (first
        | (with_reducible exact fanS (FAN.put HSp.out _ _))
        | (go_split_ands; with_reducible exact fanS (Hid.out (by with_reducible assumption)))
        | (go_split_ands; with_reducible exact fanS (FAN.on (Hid.out (by with_reducible assumption)) hb))
        | (go_split_ands; with_reducible exact fanS (FAN.on (Hid.out (by with_reducible assumption)) (Below.drew (Below.refl _ _))))
        | fail)
      (first
        | (go_split_ands; go_at_call 129; ((with_reducible refine (CB.out _).mono ?_); rintro e w' ⟨rfl, hb⟩; have HSp : Hid (FAN w C R r f xs v k x n s u p T g0 g1 g2 g3 g4 g5 g6 g7 0 0 0 0 0 0 0 0 N h1 l1 w') := Lib.hid (FAN.on (Hid.out (by with_reducible assumption)) hb); have hR := HSp.out.x.fw.r; obtain ⟨ra, rb, hr⟩ := hR; obtain ⟨r0, r1⟩ := hr.two; have z0 := hr.free 0; have z1 := hr.free 1))
        | (go_split_ands; go_at_call 132; ((with_reducible refine (CP2.out _).mono ?_); rintro e w' ⟨rfl, hb⟩; have HSp : Hid (FAN w C R r f xs v k x n s u p T g0 g1 g2 g3 g4 g5 g6 g7 0 0 0 0 0 0 0 0 N h1 l1 w') := Lib.hid (FAN.on (Hid.out (by with_reducible assumption)) hb); have hR := HSp.out.x.fw.r; obtain ⟨ra, rb, hr⟩ := hR; obtain ⟨r0, r1⟩ := hr.two; have z0 := hr.free 0; have z1 := hr.free 1))
        | (go_split_ands; go_at_call 133; ((with_reducible refine (CM.out _).mono ?_); rintro e w' ⟨rfl, hb⟩; have HSp : Hid (FAN w C R r f xs v k x n s u p T g0 g1 g2 g3 g4 g5 g6 g7 0 0 0 0 0 0 0 0 N h1 l1 w') := Lib.hid (FAN.on (Hid.out (by with_reducible assumption)) hb); have hR := HSp.out.x.fw.r; obtain ⟨ra, rb, hr⟩ := hR; obtain ⟨r0, r1⟩ := hr.two; have z0 := hr.free 0; have z1 := hr.free 1))
        | fail)
    all_goals
      go_split_ands
      have HZ := HSp
      go_wp2_with fail
      refine bodyPost_ret (v := .agg #[.int .u64 h3, .int .u64 l3]) ?_ rfl ⟨rfl, ?_⟩
      · simp [results, Tryz.results120, go_sem, r0, r1]
      · exact (HZ.out.x.fw.low.setCell (p := ⟨w.heap.size + 1, 0, none⟩) (by show w.heap.size ≤ w.heap.size + 1; omega) _).setCell (p := ⟨w.heap.size + 1, 1, none⟩) (by show w.heap.size ≤ w.heap.size + 1; omega) _

end Go.Proofs.YtdlfofdibooidaaGreat

/- Reserves: what is told of a side, the program's three reserves and the denominator. (Written by wip/gen/rvg.py.) -/
namespace Go.Proofs.YtdlfofdibooidaaGreat
open Go.ChangeShapes Go.WideShapes Go.ChangeAt Go.RowKit
open Go.ChangeMaps (setBlock heap_setBlock_same heap_setBlock_other)
set_option linter.unusedVariables false
set_option maxRecDepth 100000

/-- while a side is told -/
structure TW (w : World) (C R : Nat) (r f : Int) (xs : List Int) (v : Value) (k x n s u : Int) (W : World) : Prop where
  crs : Crs C R r f xs v k x n s u W
  low : Below w.heap.size w W

theorem TW.on {w : World} {C R : Nat} {r f : Int} {xs : List Int} {v : Value} {k x n s u : Int} {W W' : World} (h : TW w C R r f xs v k x n s u W) (hb : Below W.heap.size W W') : TW w C R r f xs v k x n s u W' := ⟨h.crs.on hb, h.low.trans (hb.mono h.low.size)⟩

theorem itold_no (E : Int) (F : Value) (w : World) (he : E ≠ 0) :
    Calls Tryz.prog 119 #[yrZ, F, .int .i64 E] w fun e w' => e = .returned (.tuple #[.int .i64 0, .int .i64 0, .int .i64 E]) ∧ Below w.heap.size w w' := by
  have hb : (E != 0) = true := by simp [he]
  clear he
  unfold yrZ
  go_enter Tryz.func119, Tryz.ntmps119
  go_wp2_with fail
  go_ret3
  exact ⟨rfl, box_b _ _⟩

set_option maxHeartbeats 4000000 in
theorem itold_f (C R : Nat) (r f : Int) (xs : List Int) (v : Value) (k x n s u j : Int) (w : World) (h : Crs C R r f xs v k x n s u w) (hp : poB r f xs k x n s u = true) (hj : 0 ≤ j ∧ j ≤ durN f xs k x n - 1) (hd : dvN r f xs x j ≠ 0) :
    Calls Tryz.prog 119 #[yrV C r f xs k x n j, .func (.func 120) #[yrV C r f xs k x n j] #[], .int .i64 0] w fun e w' => e = .returned (.tuple #[.int .i64 (fwN r f xs k x n s j / dvN r f xs x j), .int .i64 (fwN r f xs k x n s j % dvN r f xs x j), .int .i64 0]) ∧ Below w.heap.size w w' := by
  have CS : Hid (∀ W, Hid (TW w C R r f xs v k x n s u W) → Calls Tryz.prog 120 #[yrV C r f xs k x n j] W fun e w' => e = .returned (wdV (fwN r f xs k x n s j)) ∧ Below W.heap.size W w') :=
    Lib.hid (fun W hW => ifw_any C R r f xs v k x n s u j W hW.out.crs hp hj hd)
  obtain ⟨⟨m1, m2⟩, ⟨m3, m4⟩, ⟨m5, m6⟩⟩ := rv_bds hp hj hd
  obtain ⟨t, b, d, t0, b0, p, e1, e2, e3, e4, e5, e6, ⟨t1, t2⟩, ⟨d0, d1⟩, ⟨v0, v1⟩, ⟨t3, t4⟩, ⟨v2, v3⟩, ⟨p0, p1⟩, g0, g1, s0, s1⟩ := rv_nums hp hj hd
  have hdd : 1 ≤ dvN r f xs x j ∧ dvN r f xs x j ≤ 1000000000000000 := by rw [e3]; exact ⟨d0, d1⟩
  have CO := Lib.hid (fun W => over_any (fwN r f xs k x n s j) (dvN r f xs x j) W (by omega) (by omega) hdd.1 hdd.2)
  have hdv : dvN r f xs x j = cD r xs (x + j - f).toNat := rfl
  rw [hdv] at CO ⊢
  obtain ⟨X, hX⟩ : ∃ y_, fwN r f xs k x n s j / cD r xs (x + j - f).toNat = y_ := ⟨_, rfl⟩
  obtain ⟨Y, hY⟩ : ∃ y_, fwN r f xs k x n s j % cD r xs (x + j - f).toNat = y_ := ⟨_, rfl⟩
  rw [hX, hY] at CO ⊢
  unfold wdV at CS CO
  obtain ⟨h3, qh3⟩ : ∃ y_, hiW (fwN r f xs k x n s j) = y_ := ⟨_, rfl⟩
  obtain ⟨l3, ql3⟩ : ∃ y_, loW (fwN r f xs k x n s j) = y_ := ⟨_, rfl⟩
  rw [qh3, ql3] at CS CO
  clear qh3 ql3
  unfold yrV at CS ⊢
  clear e1 e2 e3 e4 e5 e6 t1 t2 d0 d1 v0 v1 t3 t4 v2 v3 p0 p1 g0 g1 s0 s1 hX hY hdd m1 m2 m3 m4 m5 m6 hp hj hd hdv
  obtain ⟨g0, hg0⟩ : ∃ y_, cD r xs (x + j - f).toNat = y_ := ⟨_, rfl⟩
  rw [hg0] at CO CS ⊢
  clear hg0
  obtain ⟨g1, hg0⟩ : ∃ y_, cN r xs (x + j - f).toNat = y_ := ⟨_, rfl⟩
  obtain ⟨g2, hg1⟩ : ∃ y_, cC r xs (x + j - f).toNat = y_ := ⟨_, rfl⟩
  obtain ⟨g3, hg2⟩ : ∃ y_, cM r xs (x + j - f).toNat = y_ := ⟨_, rfl⟩
  rw [hg0, hg1, hg2] at CS ⊢
  clear hg0 hg1 hg2
  obtain ⟨g4, hg0⟩ : ∃ y_, cD r xs (x + j + lfN k n j - f).toNat = y_ := ⟨_, rfl⟩
  obtain ⟨g5, hg1⟩ : ∃ y_, cN r xs (x + j + lfN k n j - f).toNat = y_ := ⟨_, rfl⟩
  obtain ⟨g6, hg2⟩ : ∃ y_, cC r xs (x + j + lfN k n j - f).toNat = y_ := ⟨_, rfl⟩
  obtain ⟨g7, hg3⟩ : ∃ y_, cM r xs (x + j + lfN k n j - f).toNat = y_ := ⟨_, rfl⟩
  rw [hg0, hg1, hg2, hg3] at CS ⊢
  clear hg0 hg1 hg2 hg3
  obtain ⟨T, hT⟩ : ∃ y_, kT k = y_ := ⟨_, rfl⟩
  rw [hT] at CS ⊢
  clear hT
  have HT : Hid (TW w C R r f xs v k x n s u (w.alloc (.cells #[.pointer (some ⟨C, 0, none⟩), .iface T (.agg #[]), .int .i64 g0, .int .i64 g1, .int .i64 g2, .int .i64 g3, .int .i64 g4, .int .i64 g5, .int .i64 g6, .int .i64 g7] 89))) := Lib.hid ⟨h.on (box_b _ _), box_b _ _⟩
  have hc : (w.alloc (.cells #[.pointer (some ⟨C, 0, none⟩), .iface T (.agg #[]), .int .i64 g0, .int .i64 g1, .int .i64 g2, .int .i64 g3, .int .i64 g4, .int .i64 g5, .int .i64 g6, .int .i64 g7] 89)).cell? ⟨w.heap.size, 2, none⟩ = some (.int .i64 g0) := by go_simp
  clear h
  go_enter Tryz.func119, Tryz.ntmps119
  go_wp2_with fail
  obtain ⟨W0, hW0⟩ : ∃ y_, w.alloc (.cells #[.pointer (some ⟨C, 0, none⟩), .iface T (.agg #[]), .int .i64 g0, .int .i64 g1, .int .i64 g2, .int .i64 g3, .int .i64 g4, .int .i64 g5, .int .i64 g6, .int .i64 g7] 89) = y_ := ⟨_, rfl⟩
  rw [hW0] at HT hc ⊢
  clear hW0
  go_region_held3 (fun W9 => W9.cell? ⟨w.heap.size, 2, none⟩ = some (.int .i64 g0) ∧ Hid (TW w C R r f xs v k x n s u W9))
    (first
      | (go_split_ands; with_reducible exact ⟨by with_reducible assumption, by with_reducible assumption⟩)
      | (go_split_ands; with_reducible exact ⟨keep2 hb (by with_reducible assumption), Lib.hid (TW.on (Hid.out (by with_reducible assumption)) hb)⟩)
      | (go_split_ands; with_reducible exact ⟨cell_drew hc, Lib.hid (TW.on HT.out (Below.drew (Below.refl _ _)))⟩)
      | fail)
    (first
      | (go_split_ands; go_at_call 120; ((with_reducible refine (CS.out _ (by with_reducible assumption)).mono ?_); rintro e w' ⟨rfl, hb⟩))
      | (go_split_ands; go_at_call 131; ((with_reducible refine (CO.out _).mono ?_); rintro e w' ⟨rfl, hb⟩))
      | fail)
  all_goals
    go_split_ands
    have HZ : Hid (TW w C R r f xs v k x n s u w') := by with_reducible assumption
    go_wp2_with fail
    go_ret3
    exact ⟨rfl, HZ.out.low⟩

end Go.Proofs.YtdlfofdibooidaaGreat

/- Reserves: the program's kept reserves and their list. (Written by wip/gen/rvh.py.) | Reserves: the program's list of reserves, risks, the greatest reserve. (Written by wip/gen/rvi.py.) -/
namespace Go.Proofs.YtdlfofdibooidaaGreat
open Go.ChangeShapes Go.WideShapes Go.ChangeAt Go.RowKit
open Go.ChangeMaps (setBlock heap_setBlock_same heap_setBlock_other)
set_option linter.unusedVariables false
set_option maxRecDepth 100000

set_option maxHeartbeats 4000000 in
theorem ike_no (C R : Nat) (r f : Int) (xs : List Int) (v : Value) (k x n s u j : Int) (w : World) (h : Crs C R r f xs v k x n s u w) (hp : poB r f xs k x n s u = true) (hj : 0 ≤ j ∧ j ≤ durN f xs k x n - 1) (hd : dvN r f xs x j = 0) :
    Calls Tryz.prog 95 #[.pointer (some ⟨C, 0, none⟩), .int .i64 j] w fun e w' => e = .returned (.tuple #[.int .i64 0, .int .i64 5]) ∧ Below w.heap.size w w' := by
  have hi := (inB_iff j 0 (durN f xs k x n - 1)).2 hj
  have CI := iin_zero C R r f xs v k x n s u j w h hp hi hd
  have CS := Lib.hid (fun F W => itold_no 5 F W (by omega))
  unfold YrPost yrZ at CI
  unfold yrZ at CS
  clear h hp hj hd hi
  go_enter Tryz.func95, Tryz.ntmps95
  go_wp2_with fail
  with_reducible refine CI.mono ?_
  rintro e w1 ⟨rfl, hb⟩
  have HL := Lib.hid (hb.trans ((box_b w1 (.cells #[.pointer none, .nilIface, .int .i64 0, .int .i64 0, .int .i64 0, .int .i64 0, .int .i64 0, .int .i64 0, .int .i64 0, .int .i64 0] 89)).mono hb.size))
  clear hb CI
  go_wp2_with fail
  with_reducible refine (CS.out _ _).mono ?_
  rintro e w2 ⟨rfl, hb⟩
  have HL2 := Lib.hid (HL.out.trans (hb.mono HL.out.size))
  clear hb
  go_wp2_with fail
  go_ret2
  exact ⟨rfl, HL2.out⟩

set_option maxHeartbeats 4000000 in
theorem ike_yes (C R : Nat) (r f : Int) (xs : List Int) (v : Value) (k x n s u j : Int) (w : World) (h : Crs C R r f xs v k x n s u w) (hp : poB r f xs k x n s u = true) (hj : 0 ≤ j ∧ j ≤ durN f xs k x n - 1) (hd : dvN r f xs x j ≠ 0) :
    Calls Tryz.prog 95 #[.pointer (some ⟨C, 0, none⟩), .int .i64 j] w fun e w' => e = .returned (.tuple #[.int .i64 (ktN r f xs k x n s j), .int .i64 0]) ∧ Below w.heap.size w w' := by
  have hi := (inB_iff j 0 (durN f xs k x n - 1)).2 hj
  have CI := iin_yes C R r f xs v k x n s u j w h hp hi hd
  have CS : Hid (∀ W, Crs C R r f xs v k x n s u W → Calls Tryz.prog 119 #[yrV C r f xs k x n j, .func (.func 120) #[yrV C r f xs k x n j] #[], .int .i64 0] W fun e w' => e = .returned (.tuple #[.int .i64 (fwN r f xs k x n s j / dvN r f xs x j), .int .i64 (fwN r f xs k x n s j % dvN r f xs x j), .int .i64 0]) ∧ Below W.heap.size W w') :=
    Lib.hid (fun W hW => itold_f C R r f xs v k x n s u j W hW hp hj hd)
  obtain ⟨q, m, e1, e2, q0, q1, m0, m1, m2, e3, -⟩ := kt_bd hp hj hd
  rw [e1, e2] at CS
  rw [e3]
  unfold YrPost yrV at CI
  unfold yrV at CS
  have HCB : Hid (∀ (W : World), Below w.heap.size w W → Crs C R r f xs v k x n s u W) := Lib.hid (fun W h2 => h.on h2)
  clear e1 e2 e3 m1 m2 hp hj hd hi h
  obtain ⟨g0, hg0⟩ : ∃ y_, cD r xs (x + j - f).toNat = y_ := ⟨_, rfl⟩
  obtain ⟨g1, hg1⟩ : ∃ y_, cN r xs (x + j - f).toNat = y_ := ⟨_, rfl⟩
  obtain ⟨g2, hg2⟩ : ∃ y_, cC r xs (x + j - f).toNat = y_ := ⟨_, rfl⟩
  obtain ⟨g3, hg3⟩ : ∃ y_, cM r xs (x + j - f).toNat = y_ := ⟨_, rfl⟩
  rw [hg0, hg1, hg2, hg3] at CI CS
  clear hg0 hg1 hg2 hg3
  obtain ⟨g4, hg0⟩ : ∃ y_, cD r xs (x + j + lfN k n j - f).toNat = y_ := ⟨_, rfl⟩
  obtain ⟨g5, hg1⟩ : ∃ y_, cN r xs (x + j + lfN k n j - f).toNat = y_ := ⟨_, rfl⟩
  obtain ⟨g6, hg2⟩ : ∃ y_, cC r xs (x + j + lfN k n j - f).toNat = y_ := ⟨_, rfl⟩
  obtain ⟨g7, hg3⟩ : ∃ y_, cM r xs (x + j + lfN k n j - f).toNat = y_ := ⟨_, rfl⟩
  rw [hg0, hg1, hg2, hg3] at CI CS
  clear hg0 hg1 hg2 hg3
  obtain ⟨T, hT⟩ : ∃ y_, kT k = y_ := ⟨_, rfl⟩
  rw [hT] at CI CS
  clear hT
  have w1_ : IntKind.i64.wrap (q + 1) = q + 1 := IntWalk.i64_in _ (by omega)
  by_cases hm : 0 < m
  · have hr : max 0 (q + min 1 m) = max (q + 1) 0 := by omega
    rw [hr]
    go_enter Tryz.func95, Tryz.ntmps95
    go_wp2_with fail
    with_reducible refine CI.mono ?_
    rintro e w1 ⟨rfl, hb⟩
    have HL := Lib.hid (hb.trans ((box_b w1 (.cells #[.pointer (some ⟨C, 0, none⟩), .iface T (.agg #[]), .int .i64 g0, .int .i64 g1, .int .i64 g2, .int .i64 g3, .int .i64 g4, .int .i64 g5, .int .i64 g6, .int .i64 g7] 89)).mono hb.size))
    clear hb CI
    go_wp2_with fail
    with_reducible refine (CS.out _ (HCB.out _ HL.out)).mono ?_
    rintro e w2 ⟨rfl, hb⟩
    have HL2 := Lib.hid (HL.out.trans (hb.mono HL.out.size))
    clear hb
    go_wp2_with fail
    all_goals
      go_ret2
      exact ⟨ret_ii (by omega) rfl, HL2.out⟩
  · have hr : max 0 (q + min 1 m) = max q 0 := by omega
    rw [hr]
    go_enter Tryz.func95, Tryz.ntmps95
    go_wp2_with fail
    with_reducible refine CI.mono ?_
    rintro e w1 ⟨rfl, hb⟩
    have HL := Lib.hid (hb.trans ((box_b w1 (.cells #[.pointer (some ⟨C, 0, none⟩), .iface T (.agg #[]), .int .i64 g0, .int .i64 g1, .int .i64 g2, .int .i64 g3, .int .i64 g4, .int .i64 g5, .int .i64 g6, .int .i64 g7] 89)).mono hb.size))
    clear hb CI
    go_wp2_with fail
    with_reducible refine (CS.out _ (HCB.out _ HL.out)).mono ?_
    rintro e w2 ⟨rfl, hb⟩
    have HL2 := Lib.hid (HL.out.trans (hb.mono HL.out.size))
    clear hb
    go_wp2_with fail
    all_goals
      go_ret2
      exact ⟨ret_ii (by omega) rfl, HL2.out⟩

theorem dv_nat (r : Int) {f : Int} (xs : List Int) {x : Int} (h : f ≤ x) (j : Nat) : dvN r f xs x j = cD r xs ((x - f).toNat + j) := by
  unfold dvN
  rw [show (x + (j : Int) - f).toNat = (x - f).toNat + j by omega]

theorem Crs.kind {C R : Nat} {r f : Int} {xs : List Int} {k x n s u : Int} {v : Value} {W : World} (h : Crs C R r f xs v k x n s u W) : W.cell? ⟨C, 1, none⟩ = some (.int .i64 k) ∧ W.cell? ⟨C, 4, none⟩ = some (.int .i64 s) := by
  have hb := h.b
  unfold crV at hb
  obtain ⟨-, c1, -, -, c4, -⟩ := hb.c17
  exact ⟨c1, c4⟩

end Go.Proofs.YtdlfofdibooidaaGreat

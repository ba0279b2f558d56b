/- Reserves: the numerators of the three sides. (Written by wip/gen/rvf.py.) -/
import Derived.Test.YtnclncglmnbelaaRve
namespace Go.Proofs.Ytnclncglmnbelaa
open Go.ChangeShapes Go.WideShapes Go.ChangeAt Go.RowKit
open Go.ChangeMaps (setBlock heap_setBlock_same heap_setBlock_other)
set_option linter.unusedVariables false
set_option maxRecDepth 100000

theorem FW.setN {w : World} {C R : Nat} {r f : Int} {xs : List Int} {v : Value} {k x n s u : Int} {ys : List Value} {W : World} {N : Nat} (h : FW w C R r f xs v k x n s u ys W) (hN : w.heap.size + 2 ≤ N) (a b : Value) : FW w C R r f xs v k x n s u ys ((W.setCell ⟨N, 0, none⟩ a).setCell ⟨N, 1, none⟩ b) := by
  have far : ∀ j, j ≠ N → ((W.setCell ⟨N, 0, none⟩ a).setCell ⟨N, 1, none⟩ b).heap[j]? = W.heap[j]? := fun j hj => (Below.heap_setCell _ _ _ _ hj).trans (Below.heap_setCell _ _ _ _ hj)
  have hc := h.cl
  have hr := h.rl
  obtain ⟨p0, q0, hB⟩ := h.r
  exact ⟨⟨h.crs.b.same (far C (by omega)), h.crs.cols.same (far R (by omega))⟩, h.y.same (far _ (by omega)), ⟨p0, q0, hB.same (far _ (by omega))⟩, (h.low.setCell (p := ⟨N, 0, none⟩) (by show w.heap.size ≤ N; omega) _).setCell (p := ⟨N, 1, none⟩) (by show w.heap.size ≤ N; omega) _, by have := h.sz; simpa [World.setCell] using this, hc, hr⟩

theorem bx_put2 {W : World} {K : Nat} {x y u v : Value} (h : Bx W K [x, y]) : Bx ((W.setCell ⟨K, 0, none⟩ u).setCell ⟨K, 1, none⟩ v) K [u, v] := by
  obtain ⟨T, h⟩ := h
  refine ⟨T, ?_⟩
  simp [World.setCell, Array.getElem?_modify, h]

theorem wq_new {W w' : World} {n : Nat} (hb : Below (W.alloc (.cells #[.int .u64 0, .int .u64 0] 175)).heap.size (W.alloc (.cells #[.int .u64 0, .int .u64 0] 175)) w') (hs : n ≤ W.heap.size) : Bx w' W.heap.size [.int .u64 0, .int .u64 0] ∧ n ≤ W.heap.size ∧ n ≤ w'.heap.size :=
  ⟨(Bx.new W [.int .u64 0, .int .u64 0] 175).on hb, hs, Nat.le_trans (Nat.le_trans hs (by simp)) hb.size⟩

theorem wq_newD {W w' : World} {n : Nat} (hb : Below (W.alloc (.cells #[.int .u64 0, .int .u64 0] 175)).drew.heap.size (W.alloc (.cells #[.int .u64 0, .int .u64 0] 175)).drew w') (hs : n ≤ W.heap.size) : Bx w' W.heap.size [.int .u64 0, .int .u64 0] ∧ n ≤ W.heap.size ∧ n ≤ w'.heap.size :=
  wq_new (w' := w') ⟨hb.os, hb.tape, hb.output, hb.size, hb.block⟩ hs

theorem wq_old {W w' : World} {N n : Nat} (hq : Bx W N [.int .u64 0, .int .u64 0]) (hb : Below W.heap.size W w') (hs : n ≤ W.heap.size) : Bx w' N [.int .u64 0, .int .u64 0] ∧ n ≤ w'.heap.size := ⟨hq.on hb, Nat.le_trans hs hb.size⟩

structure FA (w : World) (C R : Nat) (r f : Int) (xs : List Int) (v : Value) (k x n s u p : Int) (T : TypeId) (g0 g1 g2 g3 g4 g5 g6 g7 e0 e1 e2 e3 e4 e5 e6 e7 : Int) (W : World) : Prop where
  fw : FW w C R r f xs v k x n s u [.pointer (some ⟨C, 0, none⟩), .iface T (.agg #[]), .int .i64 g0, .int .i64 g1, .int .i64 g2, .int .i64 g3, .int .i64 g4, .int .i64 g5, .int .i64 g6, .int .i64 g7] W
  ep : netN r f xs k x n s = p

theorem FA.on {w : World} {C R : Nat} {r f : Int} {xs : List Int} {v : Value} {k x n s u p : Int} {T : TypeId} {g0 g1 g2 g3 g4 g5 g6 g7 e0 e1 e2 e3 e4 e5 e6 e7 : Int} {W W' : World} (h : FA w C R r f xs v k x n s u p T g0 g1 g2 g3 g4 g5 g6 g7 e0 e1 e2 e3 e4 e5 e6 e7 W) (hb : Below W.heap.size W W') : FA w C R r f xs v k x n s u p T g0 g1 g2 g3 g4 g5 g6 g7 e0 e1 e2 e3 e4 e5 e6 e7 W' := ⟨h.fw.on hb, h.ep⟩

theorem FA.drew {w : World} {C R : Nat} {r f : Int} {xs : List Int} {v : Value} {k x n s u p : Int} {T : TypeId} {g0 g1 g2 g3 g4 g5 g6 g7 e0 e1 e2 e3 e4 e5 e6 e7 : Int} {W : World} (h : FA w C R r f xs v k x n s u p T g0 g1 g2 g3 g4 g5 g6 g7 e0 e1 e2 e3 e4 e5 e6 e7 W) : FA w C R r f xs v k x n s u p T g0 g1 g2 g3 g4 g5 g6 g7 e0 e1 e2 e3 e4 e5 e6 e7 W.drew := h.on (Below.drew (Below.refl _ _))

theorem FA.put {w : World} {C R : Nat} {r f : Int} {xs : List Int} {v : Value} {k x n s u p : Int} {T : TypeId} {g0 g1 g2 g3 g4 g5 g6 g7 e0 e1 e2 e3 e4 e5 e6 e7 : Int} {W : World} (h : FA w C R r f xs v k x n s u p T g0 g1 g2 g3 g4 g5 g6 g7 e0 e1 e2 e3 e4 e5 e6 e7 W) (a b : Int) : FA w C R r f xs v k x n s u p T g0 g1 g2 g3 g4 g5 g6 g7 e0 e1 e2 e3 e4 e5 e6 e7 ((W.setCell ⟨w.heap.size + 1, 0, none⟩ (.int .u64 a)).setCell ⟨w.heap.size + 1, 1, none⟩ (.int .u64 b)) := ⟨h.fw.put a b, h.ep⟩

theorem FA.setN {w : World} {C R : Nat} {r f : Int} {xs : List Int} {v : Value} {k x n s u p : Int} {T : TypeId} {g0 g1 g2 g3 g4 g5 g6 g7 e0 e1 e2 e3 e4 e5 e6 e7 : Int} {W : World} {N : Nat} (h : FA w C R r f xs v k x n s u p T g0 g1 g2 g3 g4 g5 g6 g7 e0 e1 e2 e3 e4 e5 e6 e7 W) (hN : w.heap.size + 2 ≤ N) (a b : Value) : FA w C R r f xs v k x n s u p T g0 g1 g2 g3 g4 g5 g6 g7 e0 e1 e2 e3 e4 e5 e6 e7 ((W.setCell ⟨N, 0, none⟩ a).setCell ⟨N, 1, none⟩ b) := ⟨h.fw.setN (by omega) a b, h.ep⟩

theorem faS {w : World} {C R : Nat} {r f : Int} {xs : List Int} {v : Value} {k x n s u p : Int} {T : TypeId} {g0 g1 g2 g3 g4 g5 g6 g7 e0 e1 e2 e3 e4 e5 e6 e7 : Int} {W : World} (h : FA w C R r f xs v k x n s u p T g0 g1 g2 g3 g4 g5 g6 g7 e0 e1 e2 e3 e4 e5 e6 e7 W) : W.cell? ⟨w.heap.size, 0, none⟩ = some (.pointer (some ⟨C, 0, none⟩)) ∧ W.cell? ⟨w.heap.size, 1, none⟩ = some (.iface T (.agg #[])) ∧ W.cell? ⟨w.heap.size, 2, none⟩ = some (.int .i64 g0) ∧ W.cell? ⟨w.heap.size, 3, none⟩ = some (.int .i64 g1) ∧ W.cell? ⟨w.heap.size, 4, none⟩ = some (.int .i64 g2) ∧ W.cell? ⟨w.heap.size, 5, none⟩ = some (.int .i64 g3) ∧ W.cell? ⟨w.heap.size, 6, none⟩ = some (.int .i64 g4) ∧ W.cell? ⟨w.heap.size, 7, none⟩ = some (.int .i64 g5) ∧ W.cell? ⟨w.heap.size, 8, none⟩ = some (.int .i64 g6) ∧ W.cell? ⟨w.heap.size, 9, none⟩ = some (.int .i64 g7) ∧ W.cell? ⟨C, 4, none⟩ = some (.int .i64 s) ∧ W.cell? ⟨C, 6, none⟩ = some (.int .i64 p) ∧ Hid (FA w C R r f xs v k x n s u p T g0 g1 g2 g3 g4 g5 g6 g7 e0 e1 e2 e3 e4 e5 e6 e7 W) := by
  obtain ⟨c0, c1, c2, c3, c4, c5, c6, c7, c8, c9⟩ := h.fw.y.c10
  obtain ⟨x4, x6⟩ := h.fw.crs.prem
  rw [h.ep] at x6
  exact ⟨c0, c1, c2, c3, c4, c5, c6, c7, c8, c9, x4, x6, Lib.hid h⟩

/-- the same, and the first product -/
structure FAN (w : World) (C R : Nat) (r f : Int) (xs : List Int) (v : Value) (k x n s u p : Int) (T : TypeId) (g0 g1 g2 g3 g4 g5 g6 g7 e0 e1 e2 e3 e4 e5 e6 e7 : Int) (N : Nat) (a b : Int) (W : World) : Prop where
  x : FA w C R r f xs v k x n s u p T g0 g1 g2 g3 g4 g5 g6 g7 e0 e1 e2 e3 e4 e5 e6 e7 W
  n : Bx W N [.int .u64 a, .int .u64 b]
  nl : w.heap.size + 2 ≤ N

theorem FAN.on {w : World} {C R : Nat} {r f : Int} {xs : List Int} {v : Value} {k x n s u p : Int} {T : TypeId} {g0 g1 g2 g3 g4 g5 g6 g7 e0 e1 e2 e3 e4 e5 e6 e7 : Int} {N : Nat} {a b : Int} {W W' : World} (h : FAN w C R r f xs v k x n s u p T g0 g1 g2 g3 g4 g5 g6 g7 e0 e1 e2 e3 e4 e5 e6 e7 N a b W) (hb : Below W.heap.size W W') : FAN w C R r f xs v k x n s u p T g0 g1 g2 g3 g4 g5 g6 g7 e0 e1 e2 e3 e4 e5 e6 e7 N a b W' := ⟨h.x.on hb, h.n.on hb, h.nl⟩

theorem FAN.drew {w : World} {C R : Nat} {r f : Int} {xs : List Int} {v : Value} {k x n s u p : Int} {T : TypeId} {g0 g1 g2 g3 g4 g5 g6 g7 e0 e1 e2 e3 e4 e5 e6 e7 : Int} {N : Nat} {a b : Int} {W : World} (h : FAN w C R r f xs v k x n s u p T g0 g1 g2 g3 g4 g5 g6 g7 e0 e1 e2 e3 e4 e5 e6 e7 N a b W) : FAN w C R r f xs v k x n s u p T g0 g1 g2 g3 g4 g5 g6 g7 e0 e1 e2 e3 e4 e5 e6 e7 N a b W.drew := h.on (Below.drew (Below.refl _ _))

theorem FAN.put {w : World} {C R : Nat} {r f : Int} {xs : List Int} {v : Value} {k x n s u p : Int} {T : TypeId} {g0 g1 g2 g3 g4 g5 g6 g7 e0 e1 e2 e3 e4 e5 e6 e7 : Int} {N : Nat} {a b : Int} {W : World} (h : FAN w C R r f xs v k x n s u p T g0 g1 g2 g3 g4 g5 g6 g7 e0 e1 e2 e3 e4 e5 e6 e7 N a b W) (c d : Int) : FAN w C R r f xs v k x n s u p T g0 g1 g2 g3 g4 g5 g6 g7 e0 e1 e2 e3 e4 e5 e6 e7 N a b ((W.setCell ⟨w.heap.size + 1, 0, none⟩ (.int .u64 c)).setCell ⟨w.heap.size + 1, 1, none⟩ (.int .u64 d)) := by
  have hn := h.nl
  exact ⟨h.x.put c d, h.n.same ((Below.heap_setCell _ _ _ _ (by show N ≠ w.heap.size + 1; omega)).trans (Below.heap_setCell _ _ _ _ (by show N ≠ w.heap.size + 1; omega))), hn⟩

theorem fanS {w : World} {C R : Nat} {r f : Int} {xs : List Int} {v : Value} {k x n s u p : Int} {T : TypeId} {g0 g1 g2 g3 g4 g5 g6 g7 e0 e1 e2 e3 e4 e5 e6 e7 : Int} {N : Nat} {a b : Int} {W : World} (h : FAN w C R r f xs v k x n s u p T g0 g1 g2 g3 g4 g5 g6 g7 e0 e1 e2 e3 e4 e5 e6 e7 N a b W) : W.cell? ⟨N, 0, none⟩ = some (.int .u64 a) ∧ W.cell? ⟨N, 1, none⟩ = some (.int .u64 b) ∧ W.cell? ⟨w.heap.size, 0, none⟩ = some (.pointer (some ⟨C, 0, none⟩)) ∧ W.cell? ⟨w.heap.size, 1, none⟩ = some (.iface T (.agg #[])) ∧ W.cell? ⟨w.heap.size, 2, none⟩ = some (.int .i64 g0) ∧ W.cell? ⟨w.heap.size, 3, none⟩ = some (.int .i64 g1) ∧ W.cell? ⟨w.heap.size, 4, none⟩ = some (.int .i64 g2) ∧ W.cell? ⟨w.heap.size, 5, none⟩ = some (.int .i64 g3) ∧ W.cell? ⟨w.heap.size, 6, none⟩ = some (.int .i64 g4) ∧ W.cell? ⟨w.heap.size, 7, none⟩ = some (.int .i64 g5) ∧ W.cell? ⟨w.heap.size, 8, none⟩ = some (.int .i64 g6) ∧ W.cell? ⟨w.heap.size, 9, none⟩ = some (.int .i64 g7) ∧ W.cell? ⟨C, 4, none⟩ = some (.int .i64 s) ∧ W.cell? ⟨C, 6, none⟩ = some (.int .i64 p) ∧ Hid (FAN w C R r f xs v k x n s u p T g0 g1 g2 g3 g4 g5 g6 g7 e0 e1 e2 e3 e4 e5 e6 e7 N a b W) := by
  obtain ⟨c0, c1, c2, c3, c4, c5, c6, c7, c8, c9⟩ := h.x.fw.y.c10
  obtain ⟨x4, x6⟩ := h.x.fw.crs.prem
  obtain ⟨y0, y1⟩ := h.n.two
  rw [h.x.ep] at x6
  exact ⟨y0, y1, c0, c1, c2, c3, c4, c5, c6, c7, c8, c9, x4, x6, Lib.hid h⟩

structure FB (w : World) (C R : Nat) (r f : Int) (xs : List Int) (v : Value) (k x n s u p : Int) (T : TypeId) (g0 g1 g2 g3 g4 g5 g6 g7 e0 e1 e2 e3 e4 e5 e6 e7 : Int) (W : World) : Prop where
  fw : FW w C R r f xs v k x n s u [.pointer (some ⟨C, 0, none⟩), .iface T (.agg #[]), .int .i64 g0, .int .i64 g1, .int .i64 g2, .int .i64 g3, .int .i64 g4, .int .i64 g5, .int .i64 g6, .int .i64 g7] W
  ep : netN r f xs k x n s = p
  g : Q9 W (w.heap.size + 2) (.iface T (.agg #[])) e0 e1 e2 e3 e4 e5 e6 e7
  sz3 : w.heap.size + 3 ≤ W.heap.size

theorem FB.on {w : World} {C R : Nat} {r f : Int} {xs : List Int} {v : Value} {k x n s u p : Int} {T : TypeId} {g0 g1 g2 g3 g4 g5 g6 g7 e0 e1 e2 e3 e4 e5 e6 e7 : Int} {W W' : World} (h : FB w C R r f xs v k x n s u p T g0 g1 g2 g3 g4 g5 g6 g7 e0 e1 e2 e3 e4 e5 e6 e7 W) (hb : Below W.heap.size W W') : FB w C R r f xs v k x n s u p T g0 g1 g2 g3 g4 g5 g6 g7 e0 e1 e2 e3 e4 e5 e6 e7 W' := ⟨h.fw.on hb, h.ep, h.g.on hb, Nat.le_trans h.sz3 hb.size⟩

theorem FB.drew {w : World} {C R : Nat} {r f : Int} {xs : List Int} {v : Value} {k x n s u p : Int} {T : TypeId} {g0 g1 g2 g3 g4 g5 g6 g7 e0 e1 e2 e3 e4 e5 e6 e7 : Int} {W : World} (h : FB w C R r f xs v k x n s u p T g0 g1 g2 g3 g4 g5 g6 g7 e0 e1 e2 e3 e4 e5 e6 e7 W) : FB w C R r f xs v k x n s u p T g0 g1 g2 g3 g4 g5 g6 g7 e0 e1 e2 e3 e4 e5 e6 e7 W.drew := h.on (Below.drew (Below.refl _ _))

theorem FB.put {w : World} {C R : Nat} {r f : Int} {xs : List Int} {v : Value} {k x n s u p : Int} {T : TypeId} {g0 g1 g2 g3 g4 g5 g6 g7 e0 e1 e2 e3 e4 e5 e6 e7 : Int} {W : World} (h : FB w C R r f xs v k x n s u p T g0 g1 g2 g3 g4 g5 g6 g7 e0 e1 e2 e3 e4 e5 e6 e7 W) (a b : Int) : FB w C R r f xs v k x n s u p T g0 g1 g2 g3 g4 g5 g6 g7 e0 e1 e2 e3 e4 e5 e6 e7 ((W.setCell ⟨w.heap.size + 1, 0, none⟩ (.int .u64 a)).setCell ⟨w.heap.size + 1, 1, none⟩ (.int .u64 b)) := ⟨h.fw.put a b, h.ep, h.g.same ((Below.heap_setCell _ _ _ _ (by show w.heap.size + 2 ≠ w.heap.size + 1; omega)).trans (Below.heap_setCell _ _ _ _ (by show w.heap.size + 2 ≠ w.heap.size + 1; omega))), by have := h.sz3; simpa [World.setCell] using this⟩

theorem FB.setN {w : World} {C R : Nat} {r f : Int} {xs : List Int} {v : Value} {k x n s u p : Int} {T : TypeId} {g0 g1 g2 g3 g4 g5 g6 g7 e0 e1 e2 e3 e4 e5 e6 e7 : Int} {W : World} {N : Nat} (h : FB w C R r f xs v k x n s u p T g0 g1 g2 g3 g4 g5 g6 g7 e0 e1 e2 e3 e4 e5 e6 e7 W) (hN : w.heap.size + 3 ≤ N) (a b : Value) : FB w C R r f xs v k x n s u p T g0 g1 g2 g3 g4 g5 g6 g7 e0 e1 e2 e3 e4 e5 e6 e7 ((W.setCell ⟨N, 0, none⟩ a).setCell ⟨N, 1, none⟩ b) := ⟨h.fw.setN (by omega) a b, h.ep, h.g.same ((Below.heap_setCell _ _ _ _ (by show w.heap.size + 2 ≠ N; omega)).trans (Below.heap_setCell _ _ _ _ (by show w.heap.size + 2 ≠ N; omega))), by have := h.sz3; simpa [World.setCell] using this⟩

theorem fbS {w : World} {C R : Nat} {r f : Int} {xs : List Int} {v : Value} {k x n s u p : Int} {T : TypeId} {g0 g1 g2 g3 g4 g5 g6 g7 e0 e1 e2 e3 e4 e5 e6 e7 : Int} {W : World} (h : FB w C R r f xs v k x n s u p T g0 g1 g2 g3 g4 g5 g6 g7 e0 e1 e2 e3 e4 e5 e6 e7 W) : W.cell? ⟨w.heap.size, 0, none⟩ = some (.pointer (some ⟨C, 0, none⟩)) ∧ W.cell? ⟨w.heap.size, 1, none⟩ = some (.iface T (.agg #[])) ∧ W.cell? ⟨w.heap.size, 2, none⟩ = some (.int .i64 g0) ∧ W.cell? ⟨w.heap.size, 3, none⟩ = some (.int .i64 g1) ∧ W.cell? ⟨w.heap.size, 4, none⟩ = some (.int .i64 g2) ∧ W.cell? ⟨w.heap.size, 5, none⟩ = some (.int .i64 g3) ∧ W.cell? ⟨w.heap.size, 6, none⟩ = some (.int .i64 g4) ∧ W.cell? ⟨w.heap.size, 7, none⟩ = some (.int .i64 g5) ∧ W.cell? ⟨w.heap.size, 8, none⟩ = some (.int .i64 g6) ∧ W.cell? ⟨w.heap.size, 9, none⟩ = some (.int .i64 g7) ∧ W.cell? ⟨C, 4, none⟩ = some (.int .i64 s) ∧ W.cell? ⟨C, 6, none⟩ = some (.int .i64 p) ∧ W.cell? ⟨w.heap.size + 2, 0, none⟩ = some (.iface T (.agg #[])) ∧ W.cell? ⟨w.heap.size + 2, 1, none⟩ = some (.int .i64 e0) ∧ W.cell? ⟨w.heap.size + 2, 2, none⟩ = some (.int .i64 e1) ∧ W.cell? ⟨w.heap.size + 2, 3, none⟩ = some (.int .i64 e2) ∧ W.cell? ⟨w.heap.size + 2, 4, none⟩ = some (.int .i64 e3) ∧ W.cell? ⟨w.heap.size + 2, 5, none⟩ = some (.int .i64 e4) ∧ W.cell? ⟨w.heap.size + 2, 6, none⟩ = some (.int .i64 e5) ∧ W.cell? ⟨w.heap.size + 2, 7, none⟩ = some (.int .i64 e6) ∧ W.cell? ⟨w.heap.size + 2, 8, none⟩ = some (.int .i64 e7) ∧ Hid (FB w C R r f xs v k x n s u p T g0 g1 g2 g3 g4 g5 g6 g7 e0 e1 e2 e3 e4 e5 e6 e7 W) := by
  obtain ⟨c0, c1, c2, c3, c4, c5, c6, c7, c8, c9⟩ := h.fw.y.c10
  obtain ⟨x4, x6⟩ := h.fw.crs.prem
  rw [h.ep] at x6
  obtain ⟨d0, d1, d2, d3, d4, d5, d6, d7, d8, -⟩ := h.g.f9
  exact ⟨c0, c1, c2, c3, c4, c5, c6, c7, c8, c9, x4, x6, d0, d1, d2, d3, d4, d5, d6, d7, d8, Lib.hid h⟩

/-- the same, and the first product -/
structure FBN (w : World) (C R : Nat) (r f : Int) (xs : List Int) (v : Value) (k x n s u p : Int) (T : TypeId) (g0 g1 g2 g3 g4 g5 g6 g7 e0 e1 e2 e3 e4 e5 e6 e7 : Int) (N : Nat) (a b : Int) (W : World) : Prop where
  x : FB w C R r f xs v k x n s u p T g0 g1 g2 g3 g4 g5 g6 g7 e0 e1 e2 e3 e4 e5 e6 e7 W
  n : Bx W N [.int .u64 a, .int .u64 b]
  nl : w.heap.size + 3 ≤ N

theorem FBN.on {w : World} {C R : Nat} {r f : Int} {xs : List Int} {v : Value} {k x n s u p : Int} {T : TypeId} {g0 g1 g2 g3 g4 g5 g6 g7 e0 e1 e2 e3 e4 e5 e6 e7 : Int} {N : Nat} {a b : Int} {W W' : World} (h : FBN w C R r f xs v k x n s u p T g0 g1 g2 g3 g4 g5 g6 g7 e0 e1 e2 e3 e4 e5 e6 e7 N a b W) (hb : Below W.heap.size W W') : FBN w C R r f xs v k x n s u p T g0 g1 g2 g3 g4 g5 g6 g7 e0 e1 e2 e3 e4 e5 e6 e7 N a b W' := ⟨h.x.on hb, h.n.on hb, h.nl⟩

theorem FBN.drew {w : World} {C R : Nat} {r f : Int} {xs : List Int} {v : Value} {k x n s u p : Int} {T : TypeId} {g0 g1 g2 g3 g4 g5 g6 g7 e0 e1 e2 e3 e4 e5 e6 e7 : Int} {N : Nat} {a b : Int} {W : World} (h : FBN w C R r f xs v k x n s u p T g0 g1 g2 g3 g4 g5 g6 g7 e0 e1 e2 e3 e4 e5 e6 e7 N a b W) : FBN w C R r f xs v k x n s u p T g0 g1 g2 g3 g4 g5 g6 g7 e0 e1 e2 e3 e4 e5 e6 e7 N a b W.drew := h.on (Below.drew (Below.refl _ _))

theorem FBN.put {w : World} {C R : Nat} {r f : Int} {xs : List Int} {v : Value} {k x n s u p : Int} {T : TypeId} {g0 g1 g2 g3 g4 g5 g6 g7 e0 e1 e2 e3 e4 e5 e6 e7 : Int} {N : Nat} {a b : Int} {W : World} (h : FBN w C R r f xs v k x n s u p T g0 g1 g2 g3 g4 g5 g6 g7 e0 e1 e2 e3 e4 e5 e6 e7 N a b W) (c d : Int) : FBN w C R r f xs v k x n s u p T g0 g1 g2 g3 g4 g5 g6 g7 e0 e1 e2 e3 e4 e5 e6 e7 N a b ((W.setCell ⟨w.heap.size + 1, 0, none⟩ (.int .u64 c)).setCell ⟨w.heap.size + 1, 1, none⟩ (.int .u64 d)) := by
  have hn := h.nl
  exact ⟨h.x.put c d, h.n.same ((Below.heap_setCell _ _ _ _ (by show N ≠ w.heap.size + 1; omega)).trans (Below.heap_setCell _ _ _ _ (by show N ≠ w.heap.size + 1; omega))), hn⟩

theorem fbnS {w : World} {C R : Nat} {r f : Int} {xs : List Int} {v : Value} {k x n s u p : Int} {T : TypeId} {g0 g1 g2 g3 g4 g5 g6 g7 e0 e1 e2 e3 e4 e5 e6 e7 : Int} {N : Nat} {a b : Int} {W : World} (h : FBN w C R r f xs v k x n s u p T g0 g1 g2 g3 g4 g5 g6 g7 e0 e1 e2 e3 e4 e5 e6 e7 N a b W) : W.cell? ⟨N, 0, none⟩ = some (.int .u64 a) ∧ W.cell? ⟨N, 1, none⟩ = some (.int .u64 b) ∧ W.cell? ⟨w.heap.size, 0, none⟩ = some (.pointer (some ⟨C, 0, none⟩)) ∧ W.cell? ⟨w.heap.size, 1, none⟩ = some (.iface T (.agg #[])) ∧ W.cell? ⟨w.heap.size, 2, none⟩ = some (.int .i64 g0) ∧ W.cell? ⟨w.heap.size, 3, none⟩ = some (.int .i64 g1) ∧ W.cell? ⟨w.heap.size, 4, none⟩ = some (.int .i64 g2) ∧ W.cell? ⟨w.heap.size, 5, none⟩ = some (.int .i64 g3) ∧ W.cell? ⟨w.heap.size, 6, none⟩ = some (.int .i64 g4) ∧ W.cell? ⟨w.heap.size, 7, none⟩ = some (.int .i64 g5) ∧ W.cell? ⟨w.heap.size, 8, none⟩ = some (.int .i64 g6) ∧ W.cell? ⟨w.heap.size, 9, none⟩ = some (.int .i64 g7) ∧ W.cell? ⟨C, 4, none⟩ = some (.int .i64 s) ∧ W.cell? ⟨C, 6, none⟩ = some (.int .i64 p) ∧ W.cell? ⟨w.heap.size + 2, 0, none⟩ = some (.iface T (.agg #[])) ∧ W.cell? ⟨w.heap.size + 2, 1, none⟩ = some (.int .i64 e0) ∧ W.cell? ⟨w.heap.size + 2, 2, none⟩ = some (.int .i64 e1) ∧ W.cell? ⟨w.heap.size + 2, 3, none⟩ = some (.int .i64 e2) ∧ W.cell? ⟨w.heap.size + 2, 4, none⟩ = some (.int .i64 e3) ∧ W.cell? ⟨w.heap.size + 2, 5, none⟩ = some (.int .i64 e4) ∧ W.cell? ⟨w.heap.size + 2, 6, none⟩ = some (.int .i64 e5) ∧ W.cell? ⟨w.heap.size + 2, 7, none⟩ = some (.int .i64 e6) ∧ W.cell? ⟨w.heap.size + 2, 8, none⟩ = some (.int .i64 e7) ∧ Hid (FBN w C R r f xs v k x n s u p T g0 g1 g2 g3 g4 g5 g6 g7 e0 e1 e2 e3 e4 e5 e6 e7 N a b W) := by
  obtain ⟨c0, c1, c2, c3, c4, c5, c6, c7, c8, c9⟩ := h.x.fw.y.c10
  obtain ⟨x4, x6⟩ := h.x.fw.crs.prem
  obtain ⟨y0, y1⟩ := h.n.two
  rw [h.x.ep] at x6
  obtain ⟨d0, d1, d2, d3, d4, d5, d6, d7, d8, -⟩ := h.x.g.f9
  exact ⟨y0, y1, c0, c1, c2, c3, c4, c5, c6, c7, c8, c9, x4, x6, d0, d1, d2, d3, d4, d5, d6, d7, d8, Lib.hid h⟩

end Go.Proofs.Ytnclncglmnbelaa

/- Merged: Lvp, Lvq. -/
import Derived.Test.YtdlfofdibooidaaGreatLb13
import Derived.Test.YtdlfofdibooidaaGreatLb30

/- Leaving: the program's leaver. (Written by wip/gen/lvp.py.) -/
namespace Go.Proofs.YtdlfofdibooidaaGreat
open Go.ChangeShapes Go.WideShapes Go.ChangeAt Go.RowKit
open Go.ChangeMaps (setBlock heap_setBlock_same heap_setBlock_other)
set_option linter.unusedVariables false
set_option maxRecDepth 100000

theorem Bx.c13 {w : World} {B : Nat} {y0 y1 y2 y3 y4 y5 y6 y7 y8 y9 y10 y11 y12 : Value} (h : Bx w B [y0, y1, y2, y3, y4, y5, y6, y7, y8, y9, y10, y11, y12]) : w.cell? ⟨B, 0, none⟩ = some y0 ∧ w.cell? ⟨B, 1, none⟩ = some y1 ∧ w.cell? ⟨B, 2, none⟩ = some y2 ∧ w.cell? ⟨B, 3, none⟩ = some y3 ∧ w.cell? ⟨B, 4, none⟩ = some y4 ∧ w.cell? ⟨B, 5, none⟩ = some y5 ∧ w.cell? ⟨B, 6, none⟩ = some y6 ∧ w.cell? ⟨B, 7, none⟩ = some y7 ∧ w.cell? ⟨B, 8, none⟩ = some y8 ∧ w.cell? ⟨B, 9, none⟩ = some y9 ∧ w.cell? ⟨B, 10, none⟩ = some y10 ∧ w.cell? ⟨B, 11, none⟩ = some y11 ∧ w.cell? ⟨B, 12, none⟩ = some y12 := by
  obtain ⟨T, h⟩ := h
  simp [World.cell?, h]

theorem Bx.putI {w : World} {B : Nat} {vs : List Value} (h : Bx w B vs) (i : Nat) (v : Value) : Bx (w.setCell ⟨B, i, none⟩ v) B (vs.set i v) := by
  obtain ⟨T, h⟩ := h
  exact ⟨T, by simp [World.setCell, Array.getElem?_modify, h]⟩

theorem sets13_far (W : World) (B : Nat) (y0 y1 y2 y3 y4 y5 y6 y7 y8 y9 y10 y11 y12 : Value) (j : Nat) (h : j ≠ B) : (((((((((((((W.setCell ⟨B, 0, none⟩ (y0)).setCell ⟨B, 1, none⟩ (y1)).setCell ⟨B, 2, none⟩ (y2)).setCell ⟨B, 3, none⟩ (y3)).setCell ⟨B, 4, none⟩ (y4)).setCell ⟨B, 5, none⟩ (y5)).setCell ⟨B, 6, none⟩ (y6)).setCell ⟨B, 7, none⟩ (y7)).setCell ⟨B, 8, none⟩ (y8)).setCell ⟨B, 9, none⟩ (y9)).setCell ⟨B, 10, none⟩ (y10)).setCell ⟨B, 11, none⟩ (y11)).setCell ⟨B, 12, none⟩ (y12)).heap[j]? = W.heap[j]? := by
  have e : ∀ (X : World) (i : Nat) (z : Value), (X.setCell ⟨B, i, none⟩ z).heap[j]? = X.heap[j]? := fun X i z => Below.heap_setCell _ _ _ _ h
  rw [e, e, e, e, e, e, e, e, e, e, e, e, e]

/-- a member who may leave; no one -/
def lvrV (C : Nat) (r f : Int) (xs : List Int) (k x n j q v : Int) : Value := .agg #[.pointer (some ⟨C, 0, none⟩), .iface (kT k) (.agg #[]), .int .i64 (cD r xs (x + j - f).toNat), .int .i64 (cN r xs (x + j - f).toNat), .int .i64 (cC r xs (x + j - f).toNat), .int .i64 (cM r xs (x + j - f).toNat), .int .i64 (cD r xs (x + j + lfN k n j - f).toNat), .int .i64 (cN r xs (x + j + lfN k n j - f).toNat), .int .i64 (cC r xs (x + j + lfN k n j - f).toNat), .int .i64 (cM r xs (x + j + lfN k n j - f).toNat), .int .i64 j, .int .i64 q, .int .i64 v]

def lvrZ : Value := .agg #[.pointer none, .nilIface, .int .i64 0, .int .i64 0, .int .i64 0, .int .i64 0, .int .i64 0, .int .i64 0, .int .i64 0, .int .i64 0, .int .i64 0, .int .i64 0, .int .i64 0]

theorem build_lz (W : World) : (Instr.build 91 #[]).run Tryz.prog W = .ok (.agg #[.pointer none, .nilIface, .int .i64 0, .int .i64 0, .int .i64 0, .int .i64 0, .int .i64 0, .int .i64 0, .int .i64 0, .int .i64 0, .int .i64 0, .int .i64 0, .int .i64 0]) W := by kernel_rfl

theorem build_lv (C : Nat) (T : TypeId) (z : Value) (g0 g1 g2 g3 g4 g5 g6 g7 j q v : Int) (W : World) : (Instr.build 91 #[(0, .agg #[.pointer (some ⟨C, 0, none⟩), .iface T z, .int .i64 g0, .int .i64 g1, .int .i64 g2, .int .i64 g3, .int .i64 g4, .int .i64 g5, .int .i64 g6, .int .i64 g7]), (1, .int .i64 j), (2, .int .i64 q), (3, .int .i64 v)]).run Tryz.prog W = .ok (.agg #[.pointer (some ⟨C, 0, none⟩), .iface T z, .int .i64 g0, .int .i64 g1, .int .i64 g2, .int .i64 g3, .int .i64 g4, .int .i64 g5, .int .i64 g6, .int .i64 g7, .int .i64 j, .int .i64 q, .int .i64 v]) W := by kernel_rfl

/-- while a leaver is found: the course, the box of the result -/
structure LW (w : World) (C R : Nat) (r f : Int) (xs : List Int) (v : Value) (k x n s u : Int) (W : World) : Prop where
  crs : Crs C R r f xs v k x n s u W
  box : Bx W w.heap.size [.pointer none, .nilIface, .int .i64 0, .int .i64 0, .int .i64 0, .int .i64 0, .int .i64 0, .int .i64 0, .int .i64 0, .int .i64 0, .int .i64 0, .int .i64 0, .int .i64 0]
  low : Below w.heap.size w W
  sz : w.heap.size + 1 ≤ W.heap.size

theorem LW.on {w : World} {C R : Nat} {r f : Int} {xs : List Int} {v : Value} {k x n s u : Int} {W W' : World} (h : LW w C R r f xs v k x n s u W) (hb : Below W.heap.size W W') : LW w C R r f xs v k x n s u W' := ⟨h.crs.on hb, h.box.on hb, h.low.trans (hb.mono h.low.size), Nat.le_trans h.sz hb.size⟩

theorem LW.new {w : World} {C R : Nat} {r f : Int} {xs : List Int} {v : Value} {k x n s u : Int} (h : Crs C R r f xs v k x n s u w) : LW w C R r f xs v k x n s u (w.alloc (.cells #[.pointer none, .nilIface, .int .i64 0, .int .i64 0, .int .i64 0, .int .i64 0, .int .i64 0, .int .i64 0, .int .i64 0, .int .i64 0, .int .i64 0, .int .i64 0, .int .i64 0] 91)) :=
  ⟨h.on (box_b _ _), Bx.new w [.pointer none, .nilIface, .int .i64 0, .int .i64 0, .int .i64 0, .int .i64 0, .int .i64 0, .int .i64 0, .int .i64 0, .int .i64 0, .int .i64 0, .int .i64 0, .int .i64 0] 91, box_b _ _, by simp⟩

/-- no such year, or D is 0 -/
theorem ile_err (C R : Nat) (r f : Int) (xs : List Int) (v : Value) (k x n s u j : Int) (E : Int) (w : World) (h : Crs C R r f xs v k x n s u w) (hE : E ≠ 0) (hin : ∀ W, Crs C R r f xs v k x n s u W → Calls Tryz.prog 94 #[.pointer (some ⟨C, 0, none⟩), .int .i64 j] W (YrPost yrZ E W)) :
    Calls Tryz.prog 59 #[.pointer (some ⟨C, 0, none⟩), .int .i64 j] w (YrPost lvrZ E w) := by
  have HW := Lib.hid (LW.new h)
  have HIN : Hid (∀ W, LW w C R r f xs v k x n s u W → Calls Tryz.prog 94 #[.pointer (some ⟨C, 0, none⟩), .int .i64 j] W (YrPost yrZ E W)) := Lib.hid (fun W hW => hin W hW.crs)
  have hb2 : (E != 0) = true := by simp [hE]
  have hbz := build_lz
  unfold YrPost yrZ at HIN
  unfold YrPost lvrZ
  clear h hin hE
  go_enter Tryz.func59, Tryz.ntmps59
  go_wp2_with fail
  obtain ⟨W0, hW0⟩ : ∃ y_, w.alloc (.cells #[.pointer none, .nilIface, .int .i64 0, .int .i64 0, .int .i64 0, .int .i64 0, .int .i64 0, .int .i64 0, .int .i64 0, .int .i64 0, .int .i64 0, .int .i64 0, .int .i64 0] 91) = y_ := ⟨_, rfl⟩
  rw [hW0] at HW ⊢
  clear hW0
  with_reducible refine (HIN.out _ HW.out).mono ?_
  rintro e w1 ⟨rfl, hb⟩
  have HW := Lib.hid ((HW.out.on hb).on (box_b w1 (.cells #[.pointer none, .nilIface, .int .i64 0, .int .i64 0, .int .i64 0, .int .i64 0, .int .i64 0, .int .i64 0, .int .i64 0, .int .i64 0] 89)))
  clear hb
  obtain ⟨c0, c1, c2, c3, c4, c5, c6, c7, c8, c9, c10, c11, c12⟩ := HW.out.box.c13
  have z0 := HW.out.box.free 0
  have z1 := HW.out.box.free 1
  have z2 := HW.out.box.free 2
  have z3 := HW.out.box.free 3
  have z4 := HW.out.box.free 4
  have z5 := HW.out.box.free 5
  have z6 := HW.out.box.free 6
  have z7 := HW.out.box.free 7
  have z8 := HW.out.box.free 8
  have z9 := HW.out.box.free 9
  have z10 := HW.out.box.free 10
  have z11 := HW.out.box.free 11
  have z12 := HW.out.box.free 12
  go_wp2_with fail
  refine bodyPost_ret (v := .tuple #[.agg #[.pointer none, .nilIface, .int .i64 0, .int .i64 0, .int .i64 0, .int .i64 0, .int .i64 0, .int .i64 0, .int .i64 0, .int .i64 0, .int .i64 0, .int .i64 0, .int .i64 0], .int .i64 E]) ?_ rfl ⟨rfl, ?_⟩
  · simp [results, Tryz.results59, go_sem, c0, c1, c2, c3, c4, c5, c6, c7, c8, c9, c10, c11, c12]
  · exact (((((((((((((HW.out.low.setCell (p := ⟨w.heap.size, 0, none⟩) (Nat.le_refl _) _).setCell (p := ⟨w.heap.size, 1, none⟩) (Nat.le_refl _) _).setCell (p := ⟨w.heap.size, 2, none⟩) (Nat.le_refl _) _).setCell (p := ⟨w.heap.size, 3, none⟩) (Nat.le_refl _) _).setCell (p := ⟨w.heap.size, 4, none⟩) (Nat.le_refl _) _).setCell (p := ⟨w.heap.size, 5, none⟩) (Nat.le_refl _) _).setCell (p := ⟨w.heap.size, 6, none⟩) (Nat.le_refl _) _).setCell (p := ⟨w.heap.size, 7, none⟩) (Nat.le_refl _) _).setCell (p := ⟨w.heap.size, 8, none⟩) (Nat.le_refl _) _).setCell (p := ⟨w.heap.size, 9, none⟩) (Nat.le_refl _) _).setCell (p := ⟨w.heap.size, 10, none⟩) (Nat.le_refl _) _).setCell (p := ⟨w.heap.size, 11, none⟩) (Nat.le_refl _) _).setCell (p := ⟨w.heap.size, 12, none⟩) (Nat.le_refl _) _)

/-- the box of the year, and the box of the result -/
structure LZ (w : World) (B : Nat) (ys : List Value) (W : World) : Prop where
  y : Bx W B ys
  box : ∃ a0 a1 a2 a3 a4 a5 a6 a7 a8 a9 a10 a11 a12 : Value, Bx W w.heap.size [a0, a1, a2, a3, a4, a5, a6, a7, a8, a9, a10, a11, a12]
  low : Below w.heap.size w W
  lt : w.heap.size < B

theorem LZ.on {w : World} {B : Nat} {ys : List Value} {W W' : World} (h : LZ w B ys W) (hb : Below W.heap.size W W') : LZ w B ys W' := by
  obtain ⟨a0, a1, a2, a3, a4, a5, a6, a7, a8, a9, a10, a11, a12, hr⟩ := h.box
  exact ⟨h.y.on hb, ⟨a0, a1, a2, a3, a4, a5, a6, a7, a8, a9, a10, a11, a12, hr.on hb⟩, h.low.trans (hb.mono h.low.size), h.lt⟩

theorem LZ.set {w : World} {K : Nat} {ys : List Value} {W : World} (h : LZ w K ys W) (y0 y1 y2 y3 y4 y5 y6 y7 y8 y9 y10 y11 y12 : Value) : LZ w K ys (((((((((((((W.setCell ⟨w.heap.size, 0, none⟩ (y0)).setCell ⟨w.heap.size, 1, none⟩ (y1)).setCell ⟨w.heap.size, 2, none⟩ (y2)).setCell ⟨w.heap.size, 3, none⟩ (y3)).setCell ⟨w.heap.size, 4, none⟩ (y4)).setCell ⟨w.heap.size, 5, none⟩ (y5)).setCell ⟨w.heap.size, 6, none⟩ (y6)).setCell ⟨w.heap.size, 7, none⟩ (y7)).setCell ⟨w.heap.size, 8, none⟩ (y8)).setCell ⟨w.heap.size, 9, none⟩ (y9)).setCell ⟨w.heap.size, 10, none⟩ (y10)).setCell ⟨w.heap.size, 11, none⟩ (y11)).setCell ⟨w.heap.size, 12, none⟩ (y12)) := by
  obtain ⟨a0, a1, a2, a3, a4, a5, a6, a7, a8, a9, a10, a11, a12, hr⟩ := h.box
  have hl := h.lt
  refine ⟨h.y.same (sets13_far W w.heap.size y0 y1 y2 y3 y4 y5 y6 y7 y8 y9 y10 y11 y12 K (by omega)), ⟨y0, y1, y2, y3, y4, y5, y6, y7, y8, y9, y10, y11, y12, ?_⟩, (((((((((((((h.low.setCell (p := ⟨w.heap.size, 0, none⟩) (Nat.le_refl _) _).setCell (p := ⟨w.heap.size, 1, none⟩) (Nat.le_refl _) _).setCell (p := ⟨w.heap.size, 2, none⟩) (Nat.le_refl _) _).setCell (p := ⟨w.heap.size, 3, none⟩) (Nat.le_refl _) _).setCell (p := ⟨w.heap.size, 4, none⟩) (Nat.le_refl _) _).setCell (p := ⟨w.heap.size, 5, none⟩) (Nat.le_refl _) _).setCell (p := ⟨w.heap.size, 6, none⟩) (Nat.le_refl _) _).setCell (p := ⟨w.heap.size, 7, none⟩) (Nat.le_refl _) _).setCell (p := ⟨w.heap.size, 8, none⟩) (Nat.le_refl _) _).setCell (p := ⟨w.heap.size, 9, none⟩) (Nat.le_refl _) _).setCell (p := ⟨w.heap.size, 10, none⟩) (Nat.le_refl _) _).setCell (p := ⟨w.heap.size, 11, none⟩) (Nat.le_refl _) _).setCell (p := ⟨w.heap.size, 12, none⟩) (Nat.le_refl _) _), hl⟩
  exact (((((((((((((hr.putI 0 y0).putI 1 y1).putI 2 y2).putI 3 y3).putI 4 y4).putI 5 y5).putI 6 y6).putI 7 y7).putI 8 y8).putI 9 y9).putI 10 y10).putI 11 y11).putI 12 y12)

theorem lzS {w : World} {B : Nat} {a0 a1 a2 a3 a4 a5 a6 a7 a8 a9 : Value} {W : World} (h : LZ w B [a0, a1, a2, a3, a4, a5, a6, a7, a8, a9] W) : W.cell? ⟨B, 0, none⟩ = some a0 ∧ W.cell? ⟨B, 1, none⟩ = some a1 ∧ W.cell? ⟨B, 2, none⟩ = some a2 ∧ W.cell? ⟨B, 3, none⟩ = some a3 ∧ W.cell? ⟨B, 4, none⟩ = some a4 ∧ W.cell? ⟨B, 5, none⟩ = some a5 ∧ W.cell? ⟨B, 6, none⟩ = some a6 ∧ W.cell? ⟨B, 7, none⟩ = some a7 ∧ W.cell? ⟨B, 8, none⟩ = some a8 ∧ W.cell? ⟨B, 9, none⟩ = some a9 ∧ Hid (LZ w B [a0, a1, a2, a3, a4, a5, a6, a7, a8, a9] W) := by
  obtain ⟨c0, c1, c2, c3, c4, c5, c6, c7, c8, c9⟩ := h.y.c10
  exact ⟨c0, c1, c2, c3, c4, c5, c6, c7, c8, c9, Lib.hid h⟩

set_option maxHeartbeats 16000000 in
theorem ile_yes (C R : Nat) (r f : Int) (xs : List Int) (v : Value) (k x n s u j : Int) (w : World) (h : Crs C R r f xs v k x n s u w) (hp : poB r f xs k x n s u = true) (hj : 0 ≤ j ∧ j ≤ durN f xs k x n - 1) (hd : dvN r f xs x j ≠ 0) :
    Calls Tryz.prog 59 #[.pointer (some ⟨C, 0, none⟩), .int .i64 j] w (YrPost (lvrV C r f xs k x n j (ktN r f xs k x n s j) (lsvN r f xs k x n s j)) 0 w) := by
  have HW := Lib.hid (LW.new h)
  have hi := (inB_iff j 0 (durN f xs k x n - 1)).2 hj
  have HIN : Hid (∀ W, LW w C R r f xs v k x n s u W → Calls Tryz.prog 94 #[.pointer (some ⟨C, 0, none⟩), .int .i64 j] W (YrPost (yrV C r f xs k x n j) 0 W)) := Lib.hid (fun W hW => iin_yes C R r f xs v k x n s u j W hW.crs hp hi hd)
  have HK : Hid (∀ W, LW w C R r f xs v k x n s u W → Calls Tryz.prog 95 #[.pointer (some ⟨C, 0, none⟩), .int .i64 j] W fun e w' => e = .returned (.tuple #[.int .i64 (ktN r f xs k x n s j), .int .i64 0]) ∧ Below W.heap.size W w') := Lib.hid (fun W hW => ike_yes C R r f xs v k x n s u j W hW.crs hp hj hd)
  obtain ⟨q, v9, e1, e2, e3, q0, q1, v0, v1, v2⟩ := lv_nums hp hj hd
  have PD : Hid (∀ W, Calls Tryz.prog 96 #[.int .i64 q, .int .i64 900, .int .i64 1000] W fun e w' => e = .returned (.int .i64 v9) ∧ Below W.heap.size W w') := Lib.hid (fun W => (partDown_any q 900 1000 W (by omega) (by omega) (by omega) (by omega) (by omega)).mono (fun e w' he => ⟨by rw [he.1, e3], by rw [← he.2]; exact Below.refl _ _⟩))
  rw [e1, e2]
  rw [e1] at HK
  unfold YrPost yrV at HIN
  unfold YrPost lvrV
  clear e1 e2 e3 q0 q1 v0 v1 v2 h hp hi hj hd
  obtain ⟨g0, hg0⟩ : ∃ y_, cD r xs (x + j - f).toNat = y_ := ⟨_, rfl⟩
  obtain ⟨g1, hg1⟩ : ∃ y_, cN r xs (x + j - f).toNat = y_ := ⟨_, rfl⟩
  obtain ⟨g2, hg2⟩ : ∃ y_, cC r xs (x + j - f).toNat = y_ := ⟨_, rfl⟩
  obtain ⟨g3, hg3⟩ : ∃ y_, cM r xs (x + j - f).toNat = y_ := ⟨_, rfl⟩
  rw [hg0, hg1, hg2, hg3] at HIN ⊢
  clear hg0 hg1 hg2 hg3
  obtain ⟨g4, hg0⟩ : ∃ y_, cD r xs (x + j + lfN k n j - f).toNat = y_ := ⟨_, rfl⟩
  obtain ⟨g5, hg1⟩ : ∃ y_, cN r xs (x + j + lfN k n j - f).toNat = y_ := ⟨_, rfl⟩
  obtain ⟨g6, hg2⟩ : ∃ y_, cC r xs (x + j + lfN k n j - f).toNat = y_ := ⟨_, rfl⟩
  obtain ⟨g7, hg3⟩ : ∃ y_, cM r xs (x + j + lfN k n j - f).toNat = y_ := ⟨_, rfl⟩
  rw [hg0, hg1, hg2, hg3] at HIN ⊢
  clear hg0 hg1 hg2 hg3
  obtain ⟨T, hT⟩ : ∃ y_, kT k = y_ := ⟨_, rfl⟩
  rw [hT] at HIN ⊢
  clear hT
  have hbu := build_lv C T (.agg #[]) g0 g1 g2 g3 g4 g5 g6 g7 j q v9
  go_enter Tryz.func59, Tryz.ntmps59
  go_wp2_with fail
  obtain ⟨W0, hW0⟩ : ∃ y_, w.alloc (.cells #[.pointer none, .nilIface, .int .i64 0, .int .i64 0, .int .i64 0, .int .i64 0, .int .i64 0, .int .i64 0, .int .i64 0, .int .i64 0, .int .i64 0, .int .i64 0, .int .i64 0] 91) = y_ := ⟨_, rfl⟩
  rw [hW0] at HW ⊢
  clear hW0
  with_reducible refine (HIN.out _ HW.out).mono ?_
  rintro e w1 ⟨rfl, hb⟩
  have HW1 := Lib.hid (HW.out.on hb)
  have HY := Lib.hid (Bx.new w1 [.pointer (some ⟨C, 0, none⟩), .iface T (.agg #[]), .int .i64 g0, .int .i64 g1, .int .i64 g2, .int .i64 g3, .int .i64 g4, .int .i64 g5, .int .i64 g6, .int .i64 g7] 89)
  have HW := Lib.hid (HW1.out.on (box_b w1 (.cells #[.pointer (some ⟨C, 0, none⟩), .iface T (.agg #[]), .int .i64 g0, .int .i64 g1, .int .i64 g2, .int .i64 g3, .int .i64 g4, .int .i64 g5, .int .i64 g6, .int .i64 g7] 89)))
  have hlt := HW1.out.sz
  clear hb HW1
  go_wp2_with fail
  obtain ⟨W2, hW2⟩ : ∃ y_, w1.alloc (.cells #[.pointer (some ⟨C, 0, none⟩), .iface T (.agg #[]), .int .i64 g0, .int .i64 g1, .int .i64 g2, .int .i64 g3, .int .i64 g4, .int .i64 g5, .int .i64 g6, .int .i64 g7] 89) = y_ := ⟨_, rfl⟩
  obtain ⟨B, hB⟩ : ∃ y_, w1.heap.size = y_ := ⟨_, rfl⟩
  rw [hW2] at HW HY
  rw [hB] at HY hlt
  (try rw [hW2])
  (try rw [hB])
  have hltB : w.heap.size < B := by omega
  have HLT := Lib.hid hltB
  clear hW2 hB hlt hltB
  with_reducible refine (HK.out _ HW.out).mono ?_
  rintro e w3 ⟨rfl, hb⟩
  have HX : Hid (LZ w B [.pointer (some ⟨C, 0, none⟩), .iface T (.agg #[]), .int .i64 g0, .int .i64 g1, .int .i64 g2, .int .i64 g3, .int .i64 g4, .int .i64 g5, .int .i64 g6, .int .i64 g7] w3) := Lib.hid ⟨HY.out.on hb, ⟨_, _, _, _, _, _, _, _, _, _, _, _, _, HW.out.box.on hb⟩, HW.out.low.trans (hb.mono HW.out.low.size), HLT.out⟩
  clear hb HW HY HLT
  obtain ⟨k0, k1, k2, k3, k4, k5, k6, k7, k8, k9, _⟩ := lzS HX.out
  go_wp2_with fail
  go_region_held3 (fun W9 => W9.cell? ⟨B, 0, none⟩ = some (.pointer (some ⟨C, 0, none⟩)) ∧ W9.cell? ⟨B, 1, none⟩ = some (.iface T (.agg #[])) ∧ W9.cell? ⟨B, 2, none⟩ = some (.int .i64 g0) ∧ W9.cell? ⟨B, 3, none⟩ = some (.int .i64 g1) ∧ W9.cell? ⟨B, 4, none⟩ = some (.int .i64 g2) ∧ W9.cell? ⟨B, 5, none⟩ = some (.int .i64 g3) ∧ W9.cell? ⟨B, 6, none⟩ = some (.int .i64 g4) ∧ W9.cell? ⟨B, 7, none⟩ = some (.int .i64 g5) ∧ W9.cell? ⟨B, 8, none⟩ = some (.int .i64 g6) ∧ W9.cell? ⟨B, 9, none⟩ = some (.int .i64 g7) ∧ Hid (LZ w B [.pointer (some ⟨C, 0, none⟩), .iface T (.agg #[]), .int .i64 g0, .int .i64 g1, .int .i64 g2, .int .i64 g3, .int .i64 g4, .int .i64 g5, .int .i64 g6, .int .i64 g7] W9))
    (first
      | (with_reducible exact lzS (LZ.set HSp.out _ _ _ _ _ _ _ _ _ _ _ _ _))
      | (go_split_ands; with_reducible exact lzS (Hid.out (by with_reducible assumption)))
      | (go_split_ands; with_reducible exact lzS (LZ.on (Hid.out (by with_reducible assumption)) hb))
      | (go_split_ands; with_reducible exact lzS (LZ.on (Hid.out (by with_reducible assumption)) (Below.drew (Below.refl _ _))))
      | fail)
    (first
      | (go_split_ands; go_at_call 96; ((with_reducible refine (PD.out _).mono ?_); rintro e w' ⟨rfl, hb⟩; have HSp : Hid (LZ w B [.pointer (some ⟨C, 0, none⟩), .iface T (.agg #[]), .int .i64 g0, .int .i64 g1, .int .i64 g2, .int .i64 g3, .int .i64 g4, .int .i64 g5, .int .i64 g6, .int .i64 g7] w') := Lib.hid (LZ.on (Hid.out (by with_reducible assumption)) hb); have hR := HSp.out.box; obtain ⟨a0, a1, a2, a3, a4, a5, a6, a7, a8, a9, a10, a11, a12, hr⟩ := hR; obtain ⟨r0, r1, r2, r3, r4, r5, r6, r7, r8, r9, r10, r11, r12⟩ := hr.c13; have z0 := hr.free 0; have z1 := hr.free 1; have z2 := hr.free 2; have z3 := hr.free 3; have z4 := hr.free 4; have z5 := hr.free 5; have z6 := hr.free 6; have z7 := hr.free 7; have z8 := hr.free 8; have z9 := hr.free 9; have z10 := hr.free 10; have z11 := hr.free 11; have z12 := hr.free 12))
      | fail)
  all_goals
    go_split_ands
    have HZ := HSp
    go_wp2_with fail
    refine bodyPost_ret (v := .tuple #[.agg #[.pointer (some ⟨C, 0, none⟩), .iface T (.agg #[]), .int .i64 g0, .int .i64 g1, .int .i64 g2, .int .i64 g3, .int .i64 g4, .int .i64 g5, .int .i64 g6, .int .i64 g7, .int .i64 j, .int .i64 q, .int .i64 v9], .int .i64 0]) ?_ rfl ⟨rfl, ?_⟩
    · simp [results, Tryz.results59, go_sem, r0, r1, r2, r3, r4, r5, r6, r7, r8, r9, r10, r11, r12]
    · exact (((((((((((((HZ.out.low.setCell (p := ⟨w.heap.size, 0, none⟩) (Nat.le_refl _) _).setCell (p := ⟨w.heap.size, 1, none⟩) (Nat.le_refl _) _).setCell (p := ⟨w.heap.size, 2, none⟩) (Nat.le_refl _) _).setCell (p := ⟨w.heap.size, 3, none⟩) (Nat.le_refl _) _).setCell (p := ⟨w.heap.size, 4, none⟩) (Nat.le_refl _) _).setCell (p := ⟨w.heap.size, 5, none⟩) (Nat.le_refl _) _).setCell (p := ⟨w.heap.size, 6, none⟩) (Nat.le_refl _) _).setCell (p := ⟨w.heap.size, 7, none⟩) (Nat.le_refl _) _).setCell (p := ⟨w.heap.size, 8, none⟩) (Nat.le_refl _) _).setCell (p := ⟨w.heap.size, 9, none⟩) (Nat.le_refl _) _).setCell (p := ⟨w.heap.size, 10, none⟩) (Nat.le_refl _) _).setCell (p := ⟨w.heap.size, 11, none⟩) (Nat.le_refl _) _).setCell (p := ⟨w.heap.size, 12, none⟩) (Nat.le_refl _) _)

end Go.Proofs.YtdlfofdibooidaaGreat

/- Leaving: what the program's choices come to, and their map. (Written by wip/gen/lvq.py.) -/
namespace Go.Proofs.YtdlfofdibooidaaGreat
open Go.ChangeShapes Go.WideShapes Go.ChangeAt Go.RowKit
open Go.ChangeMaps (setBlock heap_setBlock_same heap_setBlock_other)
set_option linter.unusedVariables false
set_option maxRecDepth 100000

theorem isv_lit (p9 : Option Addr) (T : TypeId) (z : Value) (g0 g1 g2 g3 g4 g5 g6 g7 j q v9 : Int) (w : World) : Calls Tryz.prog 97 #[.agg #[.pointer p9, .iface T z, .int .i64 g0, .int .i64 g1, .int .i64 g2, .int .i64 g3, .int .i64 g4, .int .i64 g5, .int .i64 g6, .int .i64 g7, .int .i64 j, .int .i64 q, .int .i64 v9]] w fun e w' => e = .returned (.int .i64 (v9)) ∧ Below w.heap.size w w' := by
  go_enter Tryz.func97, Tryz.ntmps97
  go_wp2_with fail
  go_ret
  exact ⟨rfl, box_b _ _⟩

theorem ill_lit (p9 : Option Addr) (T : TypeId) (z : Value) (g0 g1 g2 g3 g4 g5 g6 g7 j q v9 : Int) (w : World) (v0 : 0 ≤ v9) (v1 : v9 ≤ 100000000000) : Calls Tryz.prog 100 #[.agg #[.pointer p9, .iface T z, .int .i64 g0, .int .i64 g1, .int .i64 g2, .int .i64 g3, .int .i64 g4, .int .i64 g5, .int .i64 g6, .int .i64 g7, .int .i64 j, .int .i64 q, .int .i64 v9]] w fun e w' => e = .returned (.int .i64 (v9 * 800 / 1000)) ∧ Below w.heap.size w w' := by
  go_enter Tryz.func100, Tryz.ntmps100
  go_wp2_with (go_at_call 96; refine (partDown_any _ _ _ _ (by omega) (by omega) (by omega) (by omega) (by omega)).mono ?_; rintro e w' ⟨rfl, rfl⟩)
  go_ret
  exact ⟨rfl, box_b _ _⟩

theorem ils_lit (p9 : Option Addr) (T : TypeId) (z : Value) (g0 g1 g2 g3 g4 g5 g6 g7 j q v9 : Int) (w : World) (h0 : -100000000000 ≤ q - v9) (h1 : q - v9 ≤ 100000000000) : Calls Tryz.prog 101 #[.agg #[.pointer p9, .iface T z, .int .i64 g0, .int .i64 g1, .int .i64 g2, .int .i64 g3, .int .i64 g4, .int .i64 g5, .int .i64 g6, .int .i64 g7, .int .i64 j, .int .i64 q, .int .i64 v9]] w fun e w' => e = .returned (.int .i64 (q - v9)) ∧ Below w.heap.size w w' := by
  have q1 : IntKind.i64.wrap (q - v9) = q - v9 := IntWalk.i64_in _ (by omega)
  go_enter Tryz.func101, Tryz.ntmps101
  go_wp2_with fail
  go_ret
  exact ⟨rfl, box_b _ _⟩

/-- the leaver's own box, over the course -/
structure LL (w : World) (C R : Nat) (r f : Int) (xs : List Int) (v : Value) (k x n s u : Int) (ys : List Value) (W : World) : Prop where
  crs : Crs C R r f xs v k x n s u W
  l : Bx W w.heap.size ys
  low : Below w.heap.size w W

theorem LL.on {w : World} {C R : Nat} {r f : Int} {xs : List Int} {v : Value} {k x n s u : Int} {ys : List Value} {W W' : World} (h : LL w C R r f xs v k x n s u ys W) (hb : Below W.heap.size W W') : LL w C R r f xs v k x n s u ys W' := ⟨h.crs.on hb, h.l.on hb, h.low.trans (hb.mono h.low.size)⟩

theorem LL.new {w : World} {C R : Nat} {r f : Int} {xs : List Int} {v : Value} {k x n s u : Int} (h : Crs C R r f xs v k x n s u w) (ys : List Value) (T : TypeId) : LL w C R r f xs v k x n s u ys (w.alloc (.cells ys.toArray T)) := ⟨h.on (box_b _ _), Bx.new w ys T, box_b _ _⟩

set_option maxHeartbeats 4000000 in
theorem ipu_l (C R : Nat) (r f : Int) (xs : List Int) (v : Value) (k x n s u j : Int) (w : World) (h : Crs C R r f xs v k x n s u w) (hp : poB r f xs k x n s u = true) (hj : 0 ≤ j ∧ j ≤ durN f xs k x n - 1) (hd : dvN r f xs x j ≠ 0) :
    Calls Tryz.prog 98 #[lvrV C r f xs k x n j (ktN r f xs k x n s j) (lsvN r f xs k x n s j)] w fun e w' => e = .returned (.int .i64 (puN r f xs k x n s j)) ∧ Below w.heap.size w w' := by
  have hz := rv_as hp hj hd
  have CT : Hid (∀ W, Calls Tryz.prog 70 #[cvr (.iface (kT k) (.agg #[])) (cD r xs (x + j - f).toNat) (cN r xs (x + j - f).toNat) (cC r xs (x + j - f).toNat) (cM r xs (x + j - f).toNat) (cD r xs (x + j + lfN k n j - f).toNat) (cN r xs (x + j + lfN k n j - f).toNat) (cC r xs (x + j + lfN k n j - f).toNat) (cM r xs (x + j + lfN k n j - f).toNat)] W fun e w' => e = .returned (.int .i64 (ryT r f xs k x n j)) ∧ Below W.heap.size W w') := Lib.hid (fun W => cvn_any hz W)
  obtain ⟨q, v9, e1, e2, e3, q0, q1, v0, v1, v2⟩ := lv_nums hp hj hd
  obtain ⟨t, b, d, t0, b0, p, f1, f2, f3, f4, f5, f6, ⟨t1, t2⟩, ⟨d0, d1⟩, -, -, -, -, -, -, s0, s1⟩ := rv_nums hp hj hd
  rw [e1, e2]
  unfold lvrV
  unfold cvr at CT
  rw [f1] at CT
  have hD : cD r xs (x + j - f).toNat = d := f3
  by_cases ht : t = 0
  · have HU : Hid (puN r f xs k x n s j = 0) := Lib.hid (by unfold puN; rw [f1, if_pos ht])
    rw [HU.out]
    subst ht
    clear HU e1 e2 e3 q0 q1 v0 v1 v2 f1 f2 f3 f4 f5 f6 t1 t2 d0 d1 hD hz hp hj hd
    obtain ⟨g0, hg0⟩ : ∃ y_, cD r xs (x + j - f).toNat = y_ := ⟨_, rfl⟩
    obtain ⟨g1, hg1⟩ : ∃ y_, cN r xs (x + j - f).toNat = y_ := ⟨_, rfl⟩
    obtain ⟨g2, hg2⟩ : ∃ y_, cC r xs (x + j - f).toNat = y_ := ⟨_, rfl⟩
    obtain ⟨g3, hg3⟩ : ∃ y_, cM r xs (x + j - f).toNat = y_ := ⟨_, rfl⟩
    rw [hg0, hg1, hg2, hg3] at CT ⊢
    clear hg0 hg1 hg2 hg3
    obtain ⟨g4, hg0⟩ : ∃ y_, cD r xs (x + j + lfN k n j - f).toNat = y_ := ⟨_, rfl⟩
    obtain ⟨g5, hg1⟩ : ∃ y_, cN r xs (x + j + lfN k n j - f).toNat = y_ := ⟨_, rfl⟩
    obtain ⟨g6, hg2⟩ : ∃ y_, cC r xs (x + j + lfN k n j - f).toNat = y_ := ⟨_, rfl⟩
    obtain ⟨g7, hg3⟩ : ∃ y_, cM r xs (x + j + lfN k n j - f).toNat = y_ := ⟨_, rfl⟩
    rw [hg0, hg1, hg2, hg3] at CT ⊢
    clear hg0 hg1 hg2 hg3
    obtain ⟨T, hT⟩ : ∃ y_, kT k = y_ := ⟨_, rfl⟩
    rw [hT] at CT ⊢
    clear hT
    have HL := Lib.hid (LL.new h [.pointer (some ⟨C, 0, none⟩), .iface T (.agg #[]), .int .i64 g0, .int .i64 g1, .int .i64 g2, .int .i64 g3, .int .i64 g4, .int .i64 g5, .int .i64 g6, .int .i64 g7, .int .i64 j, .int .i64 q, .int .i64 v9] 91)
    clear h
    go_enter Tryz.func98, Tryz.ntmps98
    go_wp2_with fail
    with_reducible refine (CT.out _).mono ?_
    rintro e w1 ⟨rfl, hb⟩
    have HL := Lib.hid (HL.out.on hb)
    clear hb
    go_wp2_with fail
    go_ret
    exact ⟨rfl, HL.out.low⟩
  · have HU : Hid (puN r f xs k x n s j = v9 * d / t) := Lib.hid (by unfold puN; rw [f1, if_neg ht, e2, f3])
    rw [HU.out]
    have hpu := pu_bd hp hj hd (by rw [f1]; exact ht)
    rw [e2, f3, f1] at hpu
    obtain ⟨p2, p3⟩ := hpu
    have hin : mvIn v9 d t = true := by
      unfold mvIn
      rw [Bool.and_eq_true, Bool.and_eq_true]
      exact ⟨⟨(inB_iff _ _ _).2 ⟨v0, by omega⟩, (inB_iff _ _ _).2 ⟨by omega, by omega⟩⟩, (inB_iff _ _ _).2 ⟨by omega, by omega⟩⟩
    obtain ⟨m1, m2, m3⟩ := md_in hin (by omega)
    have CD := Lib.hid (fun W => md_impl v9 d t W)
    rw [m1, m2, m3] at CD
    obtain ⟨Q, hQ⟩ : ∃ y_, v9 * d / t = y_ := ⟨_, rfl⟩
    obtain ⟨Rr, hR⟩ : ∃ y_, v9 * d % t = y_ := ⟨_, rfl⟩
    rw [hQ, hR] at CD
    rw [hQ] at p2 p3 ⊢
    have htt : (t == 0) = false := by simp [ht]
    rw [hD] at CT ⊢
    clear hQ hR m1 m2 m3 hin HU e1 e2 e3 q0 q1 v0 v1 v2 f1 f2 f3 f4 f5 f6 t1 t2 d0 d1 hD hz hp hj hd ht
    obtain ⟨g1, hg1⟩ : ∃ y_, cN r xs (x + j - f).toNat = y_ := ⟨_, rfl⟩
    obtain ⟨g2, hg2⟩ : ∃ y_, cC r xs (x + j - f).toNat = y_ := ⟨_, rfl⟩
    obtain ⟨g3, hg3⟩ : ∃ y_, cM r xs (x + j - f).toNat = y_ := ⟨_, rfl⟩
    rw [hg1, hg2, hg3] at CT ⊢
    clear hg1 hg2 hg3
    obtain ⟨g4, hg0⟩ : ∃ y_, cD r xs (x + j + lfN k n j - f).toNat = y_ := ⟨_, rfl⟩
    obtain ⟨g5, hg1⟩ : ∃ y_, cN r xs (x + j + lfN k n j - f).toNat = y_ := ⟨_, rfl⟩
    obtain ⟨g6, hg2⟩ : ∃ y_, cC r xs (x + j + lfN k n j - f).toNat = y_ := ⟨_, rfl⟩
    obtain ⟨g7, hg3⟩ : ∃ y_, cM r xs (x + j + lfN k n j - f).toNat = y_ := ⟨_, rfl⟩
    rw [hg0, hg1, hg2, hg3] at CT ⊢
    clear hg0 hg1 hg2 hg3
    obtain ⟨T, hT⟩ : ∃ y_, kT k = y_ := ⟨_, rfl⟩
    rw [hT] at CT ⊢
    clear hT
    have HL := Lib.hid (LL.new h [.pointer (some ⟨C, 0, none⟩), .iface T (.agg #[]), .int .i64 d, .int .i64 g1, .int .i64 g2, .int .i64 g3, .int .i64 g4, .int .i64 g5, .int .i64 g6, .int .i64 g7, .int .i64 j, .int .i64 q, .int .i64 v9] 91)
    clear h
    go_enter Tryz.func98, Tryz.ntmps98
    go_wp2_with fail
    with_reducible refine (CT.out _).mono ?_
    rintro e w1 ⟨rfl, hb⟩
    have HL := Lib.hid (HL.out.on hb)
    clear hb
    obtain ⟨c0, c1, c2, c3, c4, c5, c6, c7, c8, c9, c10, c11, c12⟩ := HL.out.l.c13
    go_wp2_with fail
    with_reducible refine (CD.out _).mono ?_
    rintro e w2 ⟨rfl, hb⟩
    have HL := Lib.hid (HL.out.on hb)
    clear hb c0 c1 c2 c3 c4 c5 c6 c7 c8 c9 c10 c11 c12
    obtain ⟨c0, c1, c2, c3, c4, c5, c6, c7, c8, c9, c10, c11, c12⟩ := HL.out.l.c13
    obtain ⟨-, k4⟩ := HL.out.crs.kind
    go_wp2_with fail
    all_goals
      go_ret
      exact ⟨ret_int (by omega), HL.out.low⟩

theorem und_mc : Tryz.prog.underlying 95 = some (.map 55 94) := by kernel_rfl

theorem und_ch : Tryz.prog.underlying 55 = some (.int .i64) := by kernel_rfl

theorem mc_put (w : World) (b : Nat) (es : Array MapEntry) (clock : Nat) (k : Int) (v : Value) (hw : (Lit.int .i64 k).wf = true) (hb : w.heap[b]? = some (.map es clock)) (hn : Instr.findNow (.int .i64) (.int .i64 k) es.toList 0 = some none) :
    (Instr.mapUpdate 95 (.map (some b)) (.int .i64 k) v).run Tryz.prog w = .ok () (setBlock w b (.map (es.push ⟨.int .i64 k, v, clock⟩) (clock + 1))) := by
  have hck := (Go.Maps.int_keyed und_ch).check w false (Go.Maps.keyOf_int_mk und_ch hw)
  simp [Instr.mapUpdate, run_underlying und_mc, MapKept.run_getObj_map hb, hck, Instr.findKey, run_underlying und_ch, hn, MapKept.run_setObj_map _ hb, Result.andThen, setBlock]

theorem mc_get (w : World) (b : Nat) (es : Array MapEntry) (clock : Nat) (k : Int) (v : Value) (i : Nat) (hw : (Lit.int .i64 k).wf = true) (hb : w.heap[b]? = some (.map es clock)) (hn : Instr.findNow (.int .i64) (.int .i64 k) es.toList 0 = some (some (i, v))) :
    (Instr.lookup 95 (.map (some b)) (.int .i64 k) false).run Tryz.prog w = .ok v w := by
  have hck := (Go.Maps.int_keyed und_ch).check w (es.isEmpty) (Go.Maps.keyOf_int_mk und_ch hw)
  simp [Instr.lookup, run_underlying und_mc, MapKept.run_getObj_map hb, hck, Instr.findKey, run_underlying und_ch, hn, Result.andThen]

/-- the table of the choices -/
def mcE : Array MapEntry := #[⟨.int .i64 0, .func (.func 97) #[] #[], 0⟩, ⟨.int .i64 1, .func (.func 98) #[] #[], 1⟩, ⟨.int .i64 2, .func (.func 99) #[] #[], 2⟩, ⟨.int .i64 3, .func (.func 100) #[] #[], 3⟩, ⟨.int .i64 4, .func (.func 101) #[] #[], 4⟩]

def mcF (what : Int) : FuncId := if what = 0 then 97 else if what = 1 then 98 else if what = 2 then 99 else if what = 3 then 100 else 101

theorem ch_get (what : Int) (h : 0 ≤ what ∧ what ≤ 4) (B : Nat) (w : World) (hb : w.heap[B]? = some (.map mcE 5)) :
    (Instr.lookup 95 (.map (some B)) (.int .i64 what) false).run Tryz.prog w = .ok (.func (.func (mcF what)) #[] #[]) w := by
  rcases (show what = 0 ∨ what = 1 ∨ what = 2 ∨ what = 3 ∨ what = 4 by omega) with rfl | rfl | rfl | rfl | rfl
  · exact mc_get w B mcE 5 0 _ 0 (by decide) hb rfl
  · exact mc_get w B mcE 5 1 _ 1 (by decide) hb rfl
  · exact mc_get w B mcE 5 2 _ 2 (by decide) hb rfl
  · exact mc_get w B mcE 5 3 _ 3 (by decide) hb rfl
  · exact mc_get w B mcE 5 4 _ 4 (by decide) hb rfl

theorem ch_enter (what : Int) (h : 0 ≤ what ∧ what ≤ 4) (args : Array Value) (w : World) : (callFunc (mcF what) args).run Tryz.prog w = .ok (.enter (mcF what) args) w := by
  rcases (show what = 0 ∨ what = 1 ∨ what = 2 ∨ what = 3 ∨ what = 4 by omega) with rfl | rfl | rfl | rfl | rfl
  · exact enters_of Tryz.func97 (by kernel_rfl) rfl args w
  · exact enters_of Tryz.func98 (by kernel_rfl) rfl args w
  · exact enters_of Tryz.func99 (by kernel_rfl) rfl args w
  · exact enters_of Tryz.func100 (by kernel_rfl) rfl args w
  · exact enters_of Tryz.func101 (by kernel_rfl) rfl args w

theorem map_size {w : World} {b : Nat} {es : Array MapEntry} {c : Nat} (h : w.heap[b]? = some (.map es c)) : b < w.heap.size := by
  by_cases hb : b < w.heap.size
  · exact hb
  · have : w.heap[b]? = none := by simp; omega
    rw [this] at h; cases h

theorem put_low {B : Nat} {w0 w : World} {b : Nat} {es : Array MapEntry} {c : Nat} (h : Below B w0 w) (hb : w.heap[b]? = some (.map es c)) (hB : B ≤ b) (o : Obj) : Below B w0 (setBlock w b o) :=
  h.trans ⟨rfl, rfl, rfl, by simp [setBlock], fun k hk => heap_setBlock_other hb o (by omega)⟩

/-- one more entry: the world behind it, under a name -/
theorem mc_step {w0 w : World} {b : Nat} {es : Array MapEntry} {c : Nat} (k : Int) (v : Value) (hw : (Lit.int .i64 k).wf = true) (hb : w.heap[b]? = some (.map es c)) (hn : Instr.findNow (.int .i64) (.int .i64 k) es.toList 0 = some none) (hl : Below w0.heap.size w0 w) (hB : w0.heap.size ≤ b) :
    ∃ W, (Instr.mapUpdate 95 (.map (some b)) (.int .i64 k) v).run Tryz.prog w = .ok () W ∧ W.heap[b]? = some (.map (es.push ⟨.int .i64 k, v, c⟩) (c + 1)) ∧ Below w0.heap.size w0 W :=
  ⟨_, mc_put w b es c k v hw hb hn, heap_setBlock_same hb _, put_low hl hb hB _⟩

theorem cho_any (w : World) : Calls Tryz.prog 60 #[] w fun e w' => ∃ B, e = .returned (.map (some B)) ∧ w'.heap[B]? = some (.map mcE 5) ∧ Below w.heap.size w w' := by
  have hm0 : (w.alloc (.map #[] 0)).heap[w.heap.size]? = some (.map #[] 0) := heap_alloc_new _ _
  have hl0 : Below w.heap.size w (w.alloc (.map #[] 0)) := Below.alloc (Below.refl _ _) (Nat.le_refl _) _
  have hmm : (Instr.makeMap 95 none).run Tryz.prog w = .ok (.map (some w.heap.size)) (w.alloc (.map #[] 0)) := run_makeMap _ _
  obtain ⟨W0, hW0⟩ : ∃ y_, w.alloc (.map #[] 0) = y_ := ⟨_, rfl⟩
  rw [hW0] at hm0 hl0 hmm
  obtain ⟨B, hB⟩ : ∃ y_, w.heap.size = y_ := ⟨_, rfl⟩
  have hBl : w.heap.size ≤ B := by omega
  rw [hB] at hm0 hmm
  clear hW0 hB
  obtain ⟨W1, p0, hm1, hl1⟩ := mc_step 0 (.func (.func 97) #[] #[]) (by decide) hm0 rfl hl0 hBl
  obtain ⟨W2, p1, hm2, hl2⟩ := mc_step 1 (.func (.func 98) #[] #[]) (by decide) hm1 rfl hl1 hBl
  obtain ⟨W3, p2, hm3, hl3⟩ := mc_step 2 (.func (.func 99) #[] #[]) (by decide) hm2 rfl hl2 hBl
  obtain ⟨W4, p3, hm4, hl4⟩ := mc_step 3 (.func (.func 100) #[] #[]) (by decide) hm3 rfl hl3 hBl
  obtain ⟨W5, p4, hm5, hl5⟩ := mc_step 4 (.func (.func 101) #[] #[]) (by decide) hm4 rfl hl4 hBl
  have HM : Hid (W5.heap[B]? = some (.map mcE 5)) := Lib.hid hm5
  have HL := Lib.hid hl5
  clear hm0 hm1 hm2 hm3 hm4 hm5 hl0 hl1 hl2 hl3 hl4 hl5 hBl
  go_enter Tryz.func60, Tryz.ntmps60
  go_wp2_with fail
  go_ret
  exact ⟨B, rfl, HM.out, HL.out⟩

end Go.Proofs.YtdlfofdibooidaaGreat

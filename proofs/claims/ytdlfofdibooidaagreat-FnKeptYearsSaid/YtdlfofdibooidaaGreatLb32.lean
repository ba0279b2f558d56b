/- Merged: Lvr. -/
import Derived.Test.YtdlfofdibooidaaGreatLb31

/- Leaving: the program's kept years. (Written by wip/gen/lvr.py.) -/
namespace Go.Proofs.YtdlfofdibooidaaGreat
open Go.ChangeShapes Go.WideShapes Go.ChangeAt Go.RowKit
open Go.ChangeMaps (setBlock heap_setBlock_same heap_setBlock_other)
set_option linter.unusedVariables false
set_option maxRecDepth 100000

/-- while kept years are sought: the course, the leaver's box, the policy's box -/
structure KW (w : World) (C R : Nat) (r f : Int) (xs : List Int) (v : Value) (k x n s u : Int) (ys : List Value) (W : World) : Prop where
  crs : Crs C R r f xs v k x n s u W
  l : Bx W w.heap.size ys
  p : Bx W (w.heap.size + 1) [.int .i64 k, .int .i64 x, .int .i64 n, .int .i64 s, .int .i64 u]
  low : Below w.heap.size w W
  sz : w.heap.size + 2 ≤ W.heap.size
  cl : C < w.heap.size
  rl : R < w.heap.size

theorem KW.on {w : World} {C R : Nat} {r f : Int} {xs : List Int} {v : Value} {k x n s u : Int} {ys : List Value} {W W' : World} (h : KW w C R r f xs v k x n s u ys W) (hb : Below W.heap.size W W') : KW w C R r f xs v k x n s u ys W' := ⟨h.crs.on hb, h.l.on hb, h.p.on hb, h.low.trans (hb.mono h.low.size), Nat.le_trans h.sz hb.size, h.cl, h.rl⟩

theorem KW.drew {w : World} {C R : Nat} {r f : Int} {xs : List Int} {v : Value} {k x n s u : Int} {ys : List Value} {W : World} (h : KW w C R r f xs v k x n s u ys W) : KW w C R r f xs v k x n s u ys W.drew := h.on (Below.drew (Below.refl _ _))

theorem KW.new {w : World} {C R : Nat} {r f : Int} {xs : List Int} {v : Value} {k x n s u : Int} (h : Crs C R r f xs v k x n s u w) (ys : List Value) (T U : TypeId) : KW w C R r f xs v k x n s u ys ((w.alloc (.cells ys.toArray T)).alloc (.cells #[.int .i64 k, .int .i64 x, .int .i64 n, .int .i64 s, .int .i64 u] U)) := by
  have b1 := box_b w (.cells ys.toArray T)
  have b2 := box_b (w.alloc (.cells ys.toArray T)) (.cells #[.int .i64 k, .int .i64 x, .int .i64 n, .int .i64 s, .int .i64 u] U)
  have p := Bx.new (w.alloc (.cells ys.toArray T)) [.int .i64 k, .int .i64 x, .int .i64 n, .int .i64 s, .int .i64 u] U
  rw [World.size_alloc] at p
  exact ⟨(h.on b1).on b2, (Bx.new w ys T).on b2, p, b1.trans (b2.mono (by simp)), by simp, h.b.lt, h.cols.lt⟩

theorem KW.set9 {w : World} {C R : Nat} {r f : Int} {xs : List Int} {v : Value} {k x n s u : Int} {ys : List Value} {W : World} {N : Nat} {V : Value} {y0 y1 y2 y3 y4 y5 y6 y7 : Int} (h : KW w C R r f xs v k x n s u ys W) (hN : w.heap.size + 2 ≤ N) : KW w C R r f xs v k x n s u ys (((((((((W.setCell ⟨N, 0, none⟩ (V)).setCell ⟨N, 1, none⟩ (.int .i64 y0)).setCell ⟨N, 2, none⟩ (.int .i64 y1)).setCell ⟨N, 3, none⟩ (.int .i64 y2)).setCell ⟨N, 4, none⟩ (.int .i64 y3)).setCell ⟨N, 5, none⟩ (.int .i64 y4)).setCell ⟨N, 6, none⟩ (.int .i64 y5)).setCell ⟨N, 7, none⟩ (.int .i64 y6)).setCell ⟨N, 8, none⟩ (.int .i64 y7)) := by
  have far := sets9_far W N V y0 y1 y2 y3 y4 y5 y6 y7
  have hl : Below w.heap.size w (((((((((W.setCell ⟨N, 0, none⟩ (V)).setCell ⟨N, 1, none⟩ (.int .i64 y0)).setCell ⟨N, 2, none⟩ (.int .i64 y1)).setCell ⟨N, 3, none⟩ (.int .i64 y2)).setCell ⟨N, 4, none⟩ (.int .i64 y3)).setCell ⟨N, 5, none⟩ (.int .i64 y4)).setCell ⟨N, 6, none⟩ (.int .i64 y5)).setCell ⟨N, 7, none⟩ (.int .i64 y6)).setCell ⟨N, 8, none⟩ (.int .i64 y7)) := (((((((((h.low.setCell (p := ⟨N, 0, none⟩) (by show w.heap.size ≤ N; omega) _).setCell (p := ⟨N, 1, none⟩) (by show w.heap.size ≤ N; omega) _).setCell (p := ⟨N, 2, none⟩) (by show w.heap.size ≤ N; omega) _).setCell (p := ⟨N, 3, none⟩) (by show w.heap.size ≤ N; omega) _).setCell (p := ⟨N, 4, none⟩) (by show w.heap.size ≤ N; omega) _).setCell (p := ⟨N, 5, none⟩) (by show w.heap.size ≤ N; omega) _).setCell (p := ⟨N, 6, none⟩) (by show w.heap.size ≤ N; omega) _).setCell (p := ⟨N, 7, none⟩) (by show w.heap.size ≤ N; omega) _).setCell (p := ⟨N, 8, none⟩) (by show w.heap.size ≤ N; omega) _)
  have hc := h.cl
  have hr := h.rl
  exact ⟨⟨h.crs.b.same (far C (by omega)), h.crs.cols.same (far R (by omega))⟩, h.l.same (far _ (by omega)), h.p.same (far _ (by omega)), hl, by have := h.sz; simpa [World.setCell] using this, hc, hr⟩

theorem kwS {w : World} {C R : Nat} {r f : Int} {xs : List Int} {v : Value} {k x n s u : Int} {a0 a1 a2 a3 a4 a5 a6 a7 a8 a9 a10 a11 a12 : Value} {W : World} (h : KW w C R r f xs v k x n s u [a0, a1, a2, a3, a4, a5, a6, a7, a8, a9, a10, a11, a12] W) :
    W.cell? ⟨w.heap.size, 0, none⟩ = some a0 ∧ W.cell? ⟨w.heap.size, 10, none⟩ = some a10 ∧ W.cell? ⟨w.heap.size + 1, 1, none⟩ = some (.int .i64 x) ∧ W.cell? ⟨C, 0, none⟩ = some (.pointer (some ⟨R, 0, none⟩)) ∧ Hid (KW w C R r f xs v k x n s u [a0, a1, a2, a3, a4, a5, a6, a7, a8, a9, a10, a11, a12] W) := by
  obtain ⟨c0, c1, c2, c3, c4, c5, c6, c7, c8, c9, c10, c11, c12⟩ := h.l.c13
  obtain ⟨-, p1, -⟩ := h.p.five0
  have hb := h.crs.b
  unfold crV at hb
  obtain ⟨k0, -⟩ := hb.c17
  exact ⟨c0, c10, p1, k0, Lib.hid h⟩

/-- the same, and the assurance for some years -/
structure KN (w : World) (C R : Nat) (r f : Int) (xs : List Int) (v : Value) (k x n s u : Int) (ys : List Value) (N : Nat) (g0 g1 g2 g3 g4 g5 g6 g7 : Int) (W : World) : Prop where
  k : KW w C R r f xs v k x n s u ys W
  q : Q9 W N (.iface 137 (.agg #[])) g0 g1 g2 g3 g4 g5 g6 g7

theorem KN.on {w : World} {C R : Nat} {r f : Int} {xs : List Int} {v : Value} {k x n s u : Int} {ys : List Value} {N : Nat} {g0 g1 g2 g3 g4 g5 g6 g7 : Int} {W W' : World} (h : KN w C R r f xs v k x n s u ys N g0 g1 g2 g3 g4 g5 g6 g7 W) (hb : Below W.heap.size W W') : KN w C R r f xs v k x n s u ys N g0 g1 g2 g3 g4 g5 g6 g7 W' := ⟨h.k.on hb, h.q.on hb⟩

theorem knS {w : World} {C R : Nat} {r f : Int} {xs : List Int} {v : Value} {k x n s u : Int} {a0 a1 a2 a3 a4 a5 a6 a7 a8 a9 a10 a11 a12 : Value} {N : Nat} {g0 g1 g2 g3 g4 g5 g6 g7 : Int} {W : World} (h : KN w C R r f xs v k x n s u [a0, a1, a2, a3, a4, a5, a6, a7, a8, a9, a10, a11, a12] N g0 g1 g2 g3 g4 g5 g6 g7 W) :
    W.cell? ⟨N, 0, none⟩ = some (.iface 137 (.agg #[])) ∧ W.cell? ⟨N, 1, none⟩ = some (.int .i64 g0) ∧ W.cell? ⟨N, 2, none⟩ = some (.int .i64 g1) ∧ W.cell? ⟨N, 3, none⟩ = some (.int .i64 g2) ∧ W.cell? ⟨N, 4, none⟩ = some (.int .i64 g3) ∧ W.cell? ⟨N, 5, none⟩ = some (.int .i64 g4) ∧ W.cell? ⟨N, 6, none⟩ = some (.int .i64 g5) ∧ W.cell? ⟨N, 7, none⟩ = some (.int .i64 g6) ∧ W.cell? ⟨N, 8, none⟩ = some (.int .i64 g7) ∧ W.cell? ⟨w.heap.size + 1, 3, none⟩ = some (.int .i64 s) ∧ W.cell? ⟨w.heap.size, 12, none⟩ = some a12 ∧ Hid (KN w C R r f xs v k x n s u [a0, a1, a2, a3, a4, a5, a6, a7, a8, a9, a10, a11, a12] N g0 g1 g2 g3 g4 g5 g6 g7 W) := by
  obtain ⟨c0, c1, c2, c3, c4, c5, c6, c7, c8, c9, c10, c11, c12⟩ := h.k.l.c13
  obtain ⟨-, -, -, p3, -⟩ := h.k.p.five0
  obtain ⟨n0, n1, n2, n3, n4, n5, n6, n7, n8, -⟩ := h.q.f9
  exact ⟨n0, n1, n2, n3, n4, n5, n6, n7, n8, p3, c12, Lib.hid h⟩

theorem build_ta (W : World) : (Instr.build 137 #[]).run Tryz.prog W = .ok (.agg #[]) W := by kernel_rfl

theorem kT_one : kT 1 = 137 := by
  unfold kT; simp

set_option maxHeartbeats 16000000 in
theorem iky_l (C R : Nat) (r f : Int) (xs : List Int) (v : Value) (k x n s u j : Int) (w : World) (h : Crs C R r f xs v k x n s u w) (hp : poB r f xs k x n s u = true) (hj : 0 ≤ j ∧ j ≤ durN f xs k x n - 1) (hd : dvN r f xs x j ≠ 0) :
    Calls Tryz.prog 99 #[lvrV C r f xs k x n j (ktN r f xs k x n s j) (lsvN r f xs k x n s j)] w fun e w' => e = .returned (.int .i64 (kyN r f xs k x n s j)) ∧ Below w.heap.size w w' := by
  have hdp := dur_pos hp
  obtain ⟨ht, ⟨r0, r1⟩, ⟨hk, hkl⟩, ⟨l0, l1⟩, ⟨y0, y1, y2⟩, ⟨x0, x1⟩, ⟨n0, n1⟩, f0, f1⟩ := rv_in hp hj
  obtain ⟨q, v9, e1, e2, e3, q0, q1, v0, v1, v2⟩ := lv_nums hp hj hd
  obtain ⟨M, hM⟩ : ∃ m : Nat, (durN f xs k x n - j).toNat = m := ⟨_, rfl⟩
  have hMj : (M : Int) = durN f xs k x n - j := by omega
  have HT : Hid (∀ i : Nat, 1 ≤ i → i ≤ M → ∃ a0 a1 a2 a3 a4 a5 a6 a7 p : Int, kyF r f xs x s j i = p ∧ 0 ≤ p ∧ p ≤ 100000001 ∧ Hid (∀ W, Cols W R r f xs v → Calls Tryz.prog 68 #[.pointer (some ⟨R, 0, none⟩), .iface 137 (.agg #[]), .int .i64 (x + j), .int .i64 (i : Int)] W (CvPost (.iface 137 (.agg #[])) a0 a1 a2 a3 a4 a5 a6 a7 0 W)) ∧ Hid (∀ W, Calls Tryz.prog 42 #[cvr (.iface 137 (.agg #[])) a0 a1 a2 a3 a4 a5 a6 a7, .int .i64 s] W fun e w' => e = .returned (.int .i64 p) ∧ Below W.heap.size W w')) := Lib.hid (fun i h1 h2 => by
    obtain ⟨t, d, e1, e2, t0, t1, d0, d1, s0, s1, e3, p0, p1, hq⟩ := ky_bd hp hj hd i h1 (by omega)
    have hz := ky_as hp hj hd i h1 (by omega)
    obtain ⟨-, -, -, -, -, ⟨n0, n1⟩, xn, -⟩ := as_in hz
    refine ⟨_, _, _, _, _, _, _, _, kyF r f xs x s j i, rfl, by rw [e3]; exact p0, by rw [e3]; exact p1, Lib.hid (fun W hW => cva_any 137 (.agg #[]) r f xs v R (x + j) i W hW f0 y0 n0 xn hd), Lib.hid (fun W => ?_)⟩
    have hc := cvp_any hz W
    rw [kT_one] at hc
    exact hc)
  have HU : Hid (kyN r f xs k x n s j = (kyI (kyF r f xs x s j) (lsvN r f xs k x n s j) M : Nat)) := Lib.hid (by unfold kyN; rw [hM])
  have q1_ : IntKind.i64.wrap (x + j) = x + j := IntWalk.i64_in _ (by omega)
  have q2_ : IntKind.i64.wrap (durN f xs k x n - j) = M := by rw [IntWalk.i64_in _ (by omega)]; omega
  have hM9 : M ≤ 120 := by omega
  have hC := (h.on (box_b w (.cells #[.pointer none] 91))).b
  rw [e1, e2]
  rw [e2] at HU
  unfold lvrV
  obtain ⟨E, hE⟩ : ∃ y_, durN f xs k x n = y_ := ⟨_, rfl⟩
  obtain ⟨F, hF⟩ : ∃ y_, kyF r f xs x s j = y_ := ⟨_, rfl⟩
  obtain ⟨Y, hY⟩ : ∃ y_, kyN r f xs k x n s j = y_ := ⟨_, rfl⟩
  have HDUR : Hid (∀ W, Crs C R r f xs v k x n s u W → W.cell? ⟨C, 16, none⟩ = some (.int .i64 E)) := Lib.hid (fun W hW => by rw [← hE]; exact hW.dur)
  have HPOL : Hid (∀ W, Crs C R r f xs v k x n s u W → W.cell? ⟨C, 1, none⟩ = some (.int .i64 k) ∧ W.cell? ⟨C, 2, none⟩ = some (.int .i64 x) ∧ W.cell? ⟨C, 3, none⟩ = some (.int .i64 n) ∧ W.cell? ⟨C, 4, none⟩ = some (.int .i64 s) ∧ W.cell? ⟨C, 5, none⟩ = some (.int .i64 u)) := Lib.hid (fun W hW => by
    have hb := hW.b
    unfold crV at hb
    obtain ⟨-, b1, b2, b3, b4, b5, -⟩ := hb.c17
    exact ⟨b1, b2, b3, b4, b5⟩)
  rw [hE] at q2_
  rw [hF] at HT HU
  rw [hY] at HU ⊢
  clear hE hF hY hM hMj hC e1 e2 e3 q0 q1 v0 v1 v2 hp hj hd hdp ht r0 r1 hk hkl l0 l1 y0 y1 y2 x0 x1 n0 n1 f0 f1
  obtain ⟨g0, hg0⟩ : ∃ y_, cD r xs (x + j - f).toNat = y_ := ⟨_, rfl⟩
  obtain ⟨g1, hg1⟩ : ∃ y_, cN r xs (x + j - f).toNat = y_ := ⟨_, rfl⟩
  obtain ⟨g2, hg2⟩ : ∃ y_, cC r xs (x + j - f).toNat = y_ := ⟨_, rfl⟩
  obtain ⟨g3, hg3⟩ : ∃ y_, cM r xs (x + j - f).toNat = y_ := ⟨_, rfl⟩
  rw [hg0, hg1, hg2, hg3] at ⊢
  clear hg0 hg1 hg2 hg3
  obtain ⟨g4, hg0⟩ : ∃ y_, cD r xs (x + j + lfN k n j - f).toNat = y_ := ⟨_, rfl⟩
  obtain ⟨g5, hg1⟩ : ∃ y_, cN r xs (x + j + lfN k n j - f).toNat = y_ := ⟨_, rfl⟩
  obtain ⟨g6, hg2⟩ : ∃ y_, cC r xs (x + j + lfN k n j - f).toNat = y_ := ⟨_, rfl⟩
  obtain ⟨g7, hg3⟩ : ∃ y_, cM r xs (x + j + lfN k n j - f).toNat = y_ := ⟨_, rfl⟩
  rw [hg0, hg1, hg2, hg3] at ⊢
  clear hg0 hg1 hg2 hg3
  obtain ⟨T, hT⟩ : ∃ y_, kT k = y_ := ⟨_, rfl⟩
  rw [hT] at ⊢
  clear hT
  have HW := Lib.hid (KW.new h [.pointer (some ⟨C, 0, none⟩), .iface T (.agg #[]), .int .i64 g0, .int .i64 g1, .int .i64 g2, .int .i64 g3, .int .i64 g4, .int .i64 g5, .int .i64 g6, .int .i64 g7, .int .i64 j, .int .i64 q, .int .i64 v9] 91 30)
  obtain ⟨b1, b2, b3, b4, b5⟩ := HPOL.out _ (h.on (box_b w (.cells #[.pointer (some ⟨C, 0, none⟩), .iface T (.agg #[]), .int .i64 g0, .int .i64 g1, .int .i64 g2, .int .i64 g3, .int .i64 g4, .int .i64 g5, .int .i64 g6, .int .i64 g7, .int .i64 j, .int .i64 q, .int .i64 v9] 91)))
  have hbt := build_ta
  clear h
  go_enter Tryz.func99, Tryz.ntmps99
  go_wp2_with fail
  obtain ⟨W0, hW0⟩ : ∃ y_, (w.alloc (.cells #[.pointer (some ⟨C, 0, none⟩), .iface T (.agg #[]), .int .i64 g0, .int .i64 g1, .int .i64 g2, .int .i64 g3, .int .i64 g4, .int .i64 g5, .int .i64 g6, .int .i64 g7, .int .i64 j, .int .i64 q, .int .i64 v9] 91)).alloc (.cells #[.int .i64 k, .int .i64 x, .int .i64 n, .int .i64 s, .int .i64 u] 30) = y_ := ⟨_, rfl⟩
  rw [hW0] at HW ⊢
  clear hW0 b1 b2 b3 b4 b5
  obtain ⟨k0, k1, k2, k3, _⟩ := kwS HW.out
  have b16 := HDUR.out _ HW.out.crs
  go_region
  have HW := Lib.hid HW.out.drew
  clear k0 k1 k2 k3 b16
  obtain ⟨W1, hW1⟩ : ∃ y_, W0.drew = y_ := ⟨_, rfl⟩
  rw [hW1] at HW ⊢
  clear hW1
  go_wp2_with fail
  go_loopw [4] (fun i wr => ∃ m : Nat, m ≤ M ∧ i = .int .i64 (m : Int) ∧ Hid (KW w C R r f xs v k x n s u [.pointer (some ⟨C, 0, none⟩), .iface T (.agg #[]), .int .i64 g0, .int .i64 g1, .int .i64 g2, .int .i64 g3, .int .i64 g4, .int .i64 g5, .int .i64 g6, .int .i64 g7, .int .i64 j, .int .i64 q, .int .i64 v9] wr) ∧ Hid (kyI F v9 M = kyI F v9 m)) (fun i _ => (intOf i).toNat)
  case atStart => exact ⟨M, Nat.le_refl _, rfl, HW, Lib.hid rfl⟩
  case round =>
    clear HW
    obtain ⟨m, hm, rfl, HW, HK⟩ := hrel
    by_cases h0 : m = 0
    · subst h0
      go_wp2_with fail
      go_ret
      exact ⟨ret_int (by rw [HU.out, HK.out]; rfl), HW.out.low⟩
    · obtain ⟨i, rfl⟩ : ∃ i, m = i + 1 := ⟨m - 1, by omega⟩
      obtain ⟨a0, a1, a2, a3, a4, a5, a6, a7, p, e1, p00, p11, CV, CP⟩ := HT.out (i + 1) (by omega) (by omega)
      have HY := Lib.hid (kyI_yes (F := F) (V := v9) (m := i))
      have HNO := Lib.hid (kyI_no (F := F) (V := v9) (m := i))
      rw [e1] at HY HNO
      have hcast : ((i + 1 : Nat) : Int) = (i : Int) + 1 := by omega
      rw [hcast] at CV
      have CC : Hid (∀ W, Hid (KW w C R r f xs v k x n s u [.pointer (some ⟨C, 0, none⟩), .iface T (.agg #[]), .int .i64 g0, .int .i64 g1, .int .i64 g2, .int .i64 g3, .int .i64 g4, .int .i64 g5, .int .i64 g6, .int .i64 g7, .int .i64 j, .int .i64 q, .int .i64 v9] W) → Calls Tryz.prog 68 #[.pointer (some ⟨R, 0, none⟩), .iface 137 (.agg #[]), .int .i64 (x + j), .int .i64 ((i : Int) + 1)] W (CvPost (.iface 137 (.agg #[])) a0 a1 a2 a3 a4 a5 a6 a7 0 W)) := Lib.hid (fun W hW => CV.out W hW.out.crs.cols)
      unfold CvPost cvr at CC
      unfold cvr at CP
      clear e1 hcast CV
      by_cases hle : p ≤ v9
      · go_upto_region 5 with fail
        go_cut [5, 6] from 26 to 43 (fun p_ q_ wx => ∃ N, p_ = .pointer (some ⟨N, 0, none⟩) ∧ q_ = .int .i64 0 ∧ Hid (KN w C R r f xs v k x n s u [.pointer (some ⟨C, 0, none⟩), .iface T (.agg #[]), .int .i64 g0, .int .i64 g1, .int .i64 g2, .int .i64 g3, .int .i64 g4, .int .i64 g5, .int .i64 g6, .int .i64 g7, .int .i64 j, .int .i64 q, .int .i64 v9] N a0 a1 a2 a3 a4 a5 a6 a7 wx ∧ w.heap.size + 2 ≤ N))
        case first =>
          obtain ⟨k0, k1, k2, k3, _⟩ := kwS HW.out
          have hszD : w.heap.size + 2 ≤ wr.heap.size := HW.out.sz
          have hsz : w.heap.size + 2 ≤ wr.drew.heap.size := hszD
          have hq := True.intro
          have hsT := True.intro
          go_region_held3 (fun W9 => W9.cell? ⟨w.heap.size, 0, none⟩ = some (.pointer (some ⟨C, 0, none⟩)) ∧ W9.cell? ⟨w.heap.size, 10, none⟩ = some (.int .i64 j) ∧ W9.cell? ⟨w.heap.size + 1, 1, none⟩ = some (.int .i64 x) ∧ W9.cell? ⟨C, 0, none⟩ = some (.pointer (some ⟨R, 0, none⟩)) ∧ Hid (KW w C R r f xs v k x n s u [.pointer (some ⟨C, 0, none⟩), .iface T (.agg #[]), .int .i64 g0, .int .i64 g1, .int .i64 g2, .int .i64 g3, .int .i64 g4, .int .i64 g5, .int .i64 g6, .int .i64 g7, .int .i64 j, .int .i64 q, .int .i64 v9] W9))
            (first
              | (with_reducible exact kwS (KW.set9 HSp.out hsT))
              | (go_split_ands; with_reducible exact kwS (Hid.out (by with_reducible assumption)))
              | (go_split_ands; with_reducible exact kwS (KW.on (Hid.out (by with_reducible assumption)) hb))
              | (go_split_ands; with_reducible exact kwS (KW.on (Hid.out (by with_reducible assumption)) (Below.drew (Below.refl _ _))))
              | (go_split_ands; with_reducible exact kwS (KW.on (Hid.out (by with_reducible assumption)) (box_b _ _)))
              | (go_split_ands; with_reducible exact kwS (KW.on HSp.out (box_b _ _)))
              | fail)
            (first
              | (go_split_ands; go_at_call 68; ((with_reducible refine (CC.out _ (by with_reducible assumption)).mono ?_); rintro e w' ⟨rfl, hb⟩; have HSp : Hid (KW w C R r f xs v k x n s u [.pointer (some ⟨C, 0, none⟩), .iface T (.agg #[]), .int .i64 g0, .int .i64 g1, .int .i64 g2, .int .i64 g3, .int .i64 g4, .int .i64 g5, .int .i64 g6, .int .i64 g7, .int .i64 j, .int .i64 q, .int .i64 v9] w') := Lib.hid (KW.on (Hid.out (by with_reducible assumption)) hb); (first | ((with_reducible have hr := cq_newD hb hszD); obtain ⟨hq, hsT, hsz⟩ := hr; obtain ⟨n0, n1, n2, n3, n4, n5, n6, n7, n8, m0, m1, m2, m3, m4, m5, m6, m7, m8⟩ := hq.f9) | ((with_reducible have hr := cq_new hb hsz); obtain ⟨hq, hsT, hsz⟩ := hr; obtain ⟨n0, n1, n2, n3, n4, n5, n6, n7, n8, m0, m1, m2, m3, m4, m5, m6, m7, m8⟩ := hq.f9) | ((with_reducible have hr := cq_old hq hb hsz); obtain ⟨hq, hsz⟩ := hr; clear n0 n1 n2 n3 n4 n5 n6 n7 n8 m0 m1 m2 m3 m4 m5 m6 m7 m8; obtain ⟨n0, n1, n2, n3, n4, n5, n6, n7, n8, m0, m1, m2, m3, m4, m5, m6, m7, m8⟩ := hq.f9) | (have hsz := Nat.le_trans hsz hb.size))))
              | fail)
          all_goals
            go_split_ands
            go_wp2_with fail
            go_meet
            case rel =>
              first
                | (with_reducible exact ⟨_, rfl, rfl, Lib.hid ⟨⟨Hid.out (by with_reducible assumption), hq.set9 _ _ _ _ _ _ _ _ _⟩, hsT⟩⟩)
                | (with_reducible exact ⟨_, rfl, rfl, Lib.hid ⟨⟨Hid.out (by with_reducible assumption), q9_new _ _ _ _ _ _ _ _ _ _⟩, hsz⟩⟩)
                | fail
        case rest =>
          obtain ⟨N, rfl, rfl, HQ⟩ := hcut
          have HN := Lib.hid HQ.out.1
          clear HQ
          obtain ⟨k0, k1, k2, k3, k4, k5, k6, k7, k8, k9, k10, _⟩ := knS HN.out
          go_wp2_with fail
          go_region_held3 (fun W9 => W9.cell? ⟨N, 0, none⟩ = some (.iface 137 (.agg #[])) ∧ W9.cell? ⟨N, 1, none⟩ = some (.int .i64 a0) ∧ W9.cell? ⟨N, 2, none⟩ = some (.int .i64 a1) ∧ W9.cell? ⟨N, 3, none⟩ = some (.int .i64 a2) ∧ W9.cell? ⟨N, 4, none⟩ = some (.int .i64 a3) ∧ W9.cell? ⟨N, 5, none⟩ = some (.int .i64 a4) ∧ W9.cell? ⟨N, 6, none⟩ = some (.int .i64 a5) ∧ W9.cell? ⟨N, 7, none⟩ = some (.int .i64 a6) ∧ W9.cell? ⟨N, 8, none⟩ = some (.int .i64 a7) ∧ W9.cell? ⟨w.heap.size + 1, 3, none⟩ = some (.int .i64 s) ∧ W9.cell? ⟨w.heap.size, 12, none⟩ = some (.int .i64 v9) ∧ Hid (KN w C R r f xs v k x n s u [.pointer (some ⟨C, 0, none⟩), .iface T (.agg #[]), .int .i64 g0, .int .i64 g1, .int .i64 g2, .int .i64 g3, .int .i64 g4, .int .i64 g5, .int .i64 g6, .int .i64 g7, .int .i64 j, .int .i64 q, .int .i64 v9] N a0 a1 a2 a3 a4 a5 a6 a7 W9))
            (first
              | (go_split_ands; with_reducible exact knS (Hid.out (by with_reducible assumption)))
              | (go_split_ands; with_reducible exact knS (KN.on (Hid.out (by with_reducible assumption)) hb))
              | (go_split_ands; with_reducible exact knS (KN.on (Hid.out (by with_reducible assumption)) (Below.drew (Below.refl _ _))))
              | fail)
            (first
              | (go_split_ands; go_at_call 42; ((with_reducible refine (CP.out _).mono ?_); rintro e w' ⟨rfl, hb⟩))
              | fail)
          all_goals
            go_split_ands
            have HZ : Hid (KN w C R r f xs v k x n s u [.pointer (some ⟨C, 0, none⟩), .iface T (.agg #[]), .int .i64 g0, .int .i64 g1, .int .i64 g2, .int .i64 g3, .int .i64 g4, .int .i64 g5, .int .i64 g6, .int .i64 g7, .int .i64 j, .int .i64 q, .int .i64 v9] N a0 a1 a2 a3 a4 a5 a6 a7 w') := by with_reducible assumption
            go_wp2_with fail
            go_ret
            exact ⟨ret_int (by rw [HU.out, HK.out, HY.out (by omega)]; (try omega)), HZ.out.k.low⟩
      · go_upto_region 5 with fail
        go_cut [5, 6] from 26 to 43 (fun p_ q_ wx => ∃ N, p_ = .pointer (some ⟨N, 0, none⟩) ∧ q_ = .int .i64 0 ∧ Hid (KN w C R r f xs v k x n s u [.pointer (some ⟨C, 0, none⟩), .iface T (.agg #[]), .int .i64 g0, .int .i64 g1, .int .i64 g2, .int .i64 g3, .int .i64 g4, .int .i64 g5, .int .i64 g6, .int .i64 g7, .int .i64 j, .int .i64 q, .int .i64 v9] N a0 a1 a2 a3 a4 a5 a6 a7 wx ∧ w.heap.size + 2 ≤ N))
        case first =>
          obtain ⟨k0, k1, k2, k3, _⟩ := kwS HW.out
          have hszD : w.heap.size + 2 ≤ wr.heap.size := HW.out.sz
          have hsz : w.heap.size + 2 ≤ wr.drew.heap.size := hszD
          have hq := True.intro
          have hsT := True.intro
          go_region_held3 (fun W9 => W9.cell? ⟨w.heap.size, 0, none⟩ = some (.pointer (some ⟨C, 0, none⟩)) ∧ W9.cell? ⟨w.heap.size, 10, none⟩ = some (.int .i64 j) ∧ W9.cell? ⟨w.heap.size + 1, 1, none⟩ = some (.int .i64 x) ∧ W9.cell? ⟨C, 0, none⟩ = some (.pointer (some ⟨R, 0, none⟩)) ∧ Hid (KW w C R r f xs v k x n s u [.pointer (some ⟨C, 0, none⟩), .iface T (.agg #[]), .int .i64 g0, .int .i64 g1, .int .i64 g2, .int .i64 g3, .int .i64 g4, .int .i64 g5, .int .i64 g6, .int .i64 g7, .int .i64 j, .int .i64 q, .int .i64 v9] W9))
            (first
              | (with_reducible exact kwS (KW.set9 HSp.out hsT))
              | (go_split_ands; with_reducible exact kwS (Hid.out (by with_reducible assumption)))
              | (go_split_ands; with_reducible exact kwS (KW.on (Hid.out (by with_reducible assumption)) hb))
              | (go_split_ands; with_reducible exact kwS (KW.on (Hid.out (by with_reducible assumption)) (Below.drew (Below.refl _ _))))
              | (go_split_ands; with_reducible exact kwS (KW.on (Hid.out (by with_reducible assumption)) (box_b _ _)))
              | (go_split_ands; with_reducible exact kwS (KW.on HSp.out (box_b _ _)))
              | fail)
            (first
              | (go_split_ands; go_at_call 68; ((with_reducible refine (CC.out _ (by with_reducible assumption)).mono ?_); rintro e w' ⟨rfl, hb⟩; have HSp : Hid (KW w C R r f xs v k x n s u [.pointer (some ⟨C, 0, none⟩), .iface T (.agg #[]), .int .i64 g0, .int .i64 g1, .int .i64 g2, .int .i64 g3, .int .i64 g4, .int .i64 g5, .int .i64 g6, .int .i64 g7, .int .i64 j, .int .i64 q, .int .i64 v9] w') := Lib.hid (KW.on (Hid.out (by with_reducible assumption)) hb); (first | ((with_reducible have hr := cq_newD hb hszD); obtain ⟨hq, hsT, hsz⟩ := hr; obtain ⟨n0, n1, n2, n3, n4, n5, n6, n7, n8, m0, m1, m2, m3, m4, m5, m6, m7, m8⟩ := hq.f9) | ((with_reducible have hr := cq_new hb hsz); obtain ⟨hq, hsT, hsz⟩ := hr; obtain ⟨n0, n1, n2, n3, n4, n5, n6, n7, n8, m0, m1, m2, m3, m4, m5, m6, m7, m8⟩ := hq.f9) | ((with_reducible have hr := cq_old hq hb hsz); obtain ⟨hq, hsz⟩ := hr; clear n0 n1 n2 n3 n4 n5 n6 n7 n8 m0 m1 m2 m3 m4 m5 m6 m7 m8; obtain ⟨n0, n1, n2, n3, n4, n5, n6, n7, n8, m0, m1, m2, m3, m4, m5, m6, m7, m8⟩ := hq.f9) | (have hsz := Nat.le_trans hsz hb.size))))
              | fail)
          all_goals
            go_split_ands
            go_wp2_with fail
            go_meet
            case rel =>
              first
                | (with_reducible exact ⟨_, rfl, rfl, Lib.hid ⟨⟨Hid.out (by with_reducible assumption), hq.set9 _ _ _ _ _ _ _ _ _⟩, hsT⟩⟩)
                | (with_reducible exact ⟨_, rfl, rfl, Lib.hid ⟨⟨Hid.out (by with_reducible assumption), q9_new _ _ _ _ _ _ _ _ _ _⟩, hsz⟩⟩)
                | fail
        case rest =>
          obtain ⟨N, rfl, rfl, HQ⟩ := hcut
          have HN := Lib.hid HQ.out.1
          clear HQ
          obtain ⟨k0, k1, k2, k3, k4, k5, k6, k7, k8, k9, k10, _⟩ := knS HN.out
          go_wp2_with fail
          go_region_held3 (fun W9 => W9.cell? ⟨N, 0, none⟩ = some (.iface 137 (.agg #[])) ∧ W9.cell? ⟨N, 1, none⟩ = some (.int .i64 a0) ∧ W9.cell? ⟨N, 2, none⟩ = some (.int .i64 a1) ∧ W9.cell? ⟨N, 3, none⟩ = some (.int .i64 a2) ∧ W9.cell? ⟨N, 4, none⟩ = some (.int .i64 a3) ∧ W9.cell? ⟨N, 5, none⟩ = some (.int .i64 a4) ∧ W9.cell? ⟨N, 6, none⟩ = some (.int .i64 a5) ∧ W9.cell? ⟨N, 7, none⟩ = some (.int .i64 a6) ∧ W9.cell? ⟨N, 8, none⟩ = some (.int .i64 a7) ∧ W9.cell? ⟨w.heap.size + 1, 3, none⟩ = some (.int .i64 s) ∧ W9.cell? ⟨w.heap.size, 12, none⟩ = some (.int .i64 v9) ∧ Hid (KN w C R r f xs v k x n s u [.pointer (some ⟨C, 0, none⟩), .iface T (.agg #[]), .int .i64 g0, .int .i64 g1, .int .i64 g2, .int .i64 g3, .int .i64 g4, .int .i64 g5, .int .i64 g6, .int .i64 g7, .int .i64 j, .int .i64 q, .int .i64 v9] N a0 a1 a2 a3 a4 a5 a6 a7 W9))
            (first
              | (go_split_ands; with_reducible exact knS (Hid.out (by with_reducible assumption)))
              | (go_split_ands; with_reducible exact knS (KN.on (Hid.out (by with_reducible assumption)) hb))
              | (go_split_ands; with_reducible exact knS (KN.on (Hid.out (by with_reducible assumption)) (Below.drew (Below.refl _ _))))
              | fail)
            (first
              | (go_split_ands; go_at_call 42; ((with_reducible refine (CP.out _).mono ?_); rintro e w' ⟨rfl, hb⟩))
              | fail)
          all_goals
            go_split_ands
            have HZ : Hid (KN w C R r f xs v k x n s u [.pointer (some ⟨C, 0, none⟩), .iface T (.agg #[]), .int .i64 g0, .int .i64 g1, .int .i64 g2, .int .i64 g3, .int .i64 g4, .int .i64 g5, .int .i64 g6, .int .i64 g7, .int .i64 j, .int .i64 q, .int .i64 v9] N a0 a1 a2 a3 a4 a5 a6 a7 w') := by with_reducible assumption
            go_wp2_with fail
            go_roundw
            case rel => exact ⟨i, by omega, by go_num, Lib.hid HZ.out.k, Lib.hid (by rw [HK.out, HNO.out (by omega)])⟩
            case measure => simp [intOf] <;> omega

end Go.Proofs.YtdlfofdibooidaaGreat

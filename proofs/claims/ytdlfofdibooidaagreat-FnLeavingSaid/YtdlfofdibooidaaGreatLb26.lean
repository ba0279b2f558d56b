/- Merged: Poc, Poi, Poj. -/
import Derived.Test.YtdlfofdibooidaaGreatLb24
import Derived.Test.YtdlfofdibooidaaGreatLb25
import Derived.Deep.Cut
import Derived.Deep.CutRange
import Derived.Deep.CutBlock

/- Policies: what a tariff of the program holds, the cover of a policy. (Written by wip/gen/poc.py.) -/
namespace Go.Proofs.YtdlfofdibooidaaGreat
open Go.ChangeShapes Go.WideShapes Go.ChangeAt Go.RowKit
open Go.ChangeMaps (setBlock heap_setBlock_same heap_setBlock_other)
set_option linter.unusedVariables false
set_option maxRecDepth 100000

/-- a tariff in block D: its columns in block R, its map in block M -/
structure TF (R M D : Nat) (r f : Int) (xs : List Int) (v : Value) (k x n u : Int) (W : World) : Prop where
  t0 : W.cell? ⟨D, 0, none⟩ = some (.pointer (some ⟨R, 0, none⟩))
  t1 : W.cell? ⟨D, 1, none⟩ = some (.map (some M))
  cols : Cols W R r f xs v
  map : ∃ es c, W.heap[M]? = some (.map es c) ∧ PmOk (netN r f xs k x n) k x n u es

theorem mapB_lt {w : World} {B : Nat} {es : Array MapEntry} {c : Nat} (h : w.heap[B]? = some (.map es c)) : B < w.heap.size := by
  by_cases hb : B < w.heap.size
  · exact hb
  · have : w.heap[B]? = none := by simp; omega
    rw [this] at h; cases h

theorem TF.on {R M D : Nat} {r f : Int} {xs : List Int} {v : Value} {k x n u : Int} {W W' : World} (h : TF R M D r f xs v k x n u W) (hb : Below W.heap.size W W') : TF R M D r f xs v k x n u W' := by
  obtain ⟨es, c, hm, hk⟩ := h.map
  exact ⟨keep2 hb h.t0, keep2 hb h.t1, h.cols.on hb, es, c, (hb.block M (mapB_lt hm)).trans hm, hk⟩

theorem TF.drew {R M D : Nat} {r f : Int} {xs : List Int} {v : Value} {k x n u : Int} {W : World} (h : TF R M D r f xs v k x n u W) : TF R M D r f xs v k x n u W.drew := h.on (Below.drew (Below.refl _ _))

/-- the cells of a block lie in no map -/
theorem cell_map {w : World} {p : Addr} {y : Value} {M : Nat} {es : Array MapEntry} {c : Nat} (h : w.cell? p = some y) (hm : w.heap[M]? = some (.map es c)) : p.block ≠ M := by
  rintro rfl
  unfold World.cell? at h
  rw [hm] at h
  simp at h

theorem But.keepM {M : Nat} {w w' : World} (h : But M w w') {es : Array MapEntry} {c : Nat} (hm : w.heap[M]? = some (.map es c)) {p : Addr} {y : Value} (hc : w.cell? p = some y) : w'.cell? p = some y :=
  (h.cell (block_lt hc) (cell_map hc hm)).trans hc

/-- while the cover of a policy is found -/
structure CW (w : World) (R D : Nat) (r f : Int) (xs : List Int) (v : Value) (k x n : Int) (W : World) : Prop where
  t0 : W.cell? ⟨D, 0, none⟩ = some (.pointer (some ⟨R, 0, none⟩))
  p0 : W.cell? ⟨w.heap.size, 0, none⟩ = some (.int .i64 k)
  p1 : W.cell? ⟨w.heap.size, 1, none⟩ = some (.int .i64 x)
  p2 : W.cell? ⟨w.heap.size, 2, none⟩ = some (.int .i64 n)
  cols : Cols W R r f xs v
  res : Q9 W (w.heap.size + 1) .nilIface 0 0 0 0 0 0 0 0
  low : Below w.heap.size w W
  sz : w.heap.size + 2 ≤ W.heap.size
  dl : D < w.heap.size
  rl : R < w.heap.size

theorem CW.on {w : World} {R D : Nat} {r f : Int} {xs : List Int} {v : Value} {k x n : Int} {W W' : World} (h : CW w R D r f xs v k x n W) (hb : Below W.heap.size W W') : CW w R D r f xs v k x n W' :=
  ⟨keep2 hb h.t0, keep2 hb h.p0, keep2 hb h.p1, keep2 hb h.p2, h.cols.on hb, h.res.on hb, h.low.trans (hb.mono h.low.size), Nat.le_trans h.sz hb.size, h.dl, h.rl⟩

theorem CW.drew {w : World} {R D : Nat} {r f : Int} {xs : List Int} {v : Value} {k x n : Int} {W : World} (h : CW w R D r f xs v k x n W) : CW w R D r f xs v k x n W.drew := h.on (Below.drew (Below.refl _ _))

theorem sets9_far (W : World) (N : Nat) (V : Value) (y0 y1 y2 y3 y4 y5 y6 y7 : Int) (j : Nat) (h : j ≠ N) : (((((((((W.setCell ⟨N, 0, none⟩ (V)).setCell ⟨N, 1, none⟩ (.int .i64 y0)).setCell ⟨N, 2, none⟩ (.int .i64 y1)).setCell ⟨N, 3, none⟩ (.int .i64 y2)).setCell ⟨N, 4, none⟩ (.int .i64 y3)).setCell ⟨N, 5, none⟩ (.int .i64 y4)).setCell ⟨N, 6, none⟩ (.int .i64 y5)).setCell ⟨N, 7, none⟩ (.int .i64 y6)).setCell ⟨N, 8, none⟩ (.int .i64 y7)).heap[j]? = W.heap[j]? := by
  have e : ∀ (X : World) (i : Nat) (z : Value), (X.setCell ⟨N, i, none⟩ z).heap[j]? = X.heap[j]? := fun X i z => Below.heap_setCell _ _ _ _ h
  rw [e, e, e, e, e, e, e, e, e]

theorem CW.set9 {w : World} {R D : Nat} {r f : Int} {xs : List Int} {v : Value} {k x n : Int} {W : World} {N : Nat} {V : Value} {y0 y1 y2 y3 y4 y5 y6 y7 : Int} (h : CW w R D r f xs v k x n W) (hN : w.heap.size + 2 ≤ N) : CW w R D r f xs v k x n (((((((((W.setCell ⟨N, 0, none⟩ (V)).setCell ⟨N, 1, none⟩ (.int .i64 y0)).setCell ⟨N, 2, none⟩ (.int .i64 y1)).setCell ⟨N, 3, none⟩ (.int .i64 y2)).setCell ⟨N, 4, none⟩ (.int .i64 y3)).setCell ⟨N, 5, none⟩ (.int .i64 y4)).setCell ⟨N, 6, none⟩ (.int .i64 y5)).setCell ⟨N, 7, none⟩ (.int .i64 y6)).setCell ⟨N, 8, none⟩ (.int .i64 y7)) := by
  have far := sets9_far W N V y0 y1 y2 y3 y4 y5 y6 y7
  have hl : Below w.heap.size w (((((((((W.setCell ⟨N, 0, none⟩ (V)).setCell ⟨N, 1, none⟩ (.int .i64 y0)).setCell ⟨N, 2, none⟩ (.int .i64 y1)).setCell ⟨N, 3, none⟩ (.int .i64 y2)).setCell ⟨N, 4, none⟩ (.int .i64 y3)).setCell ⟨N, 5, none⟩ (.int .i64 y4)).setCell ⟨N, 6, none⟩ (.int .i64 y5)).setCell ⟨N, 7, none⟩ (.int .i64 y6)).setCell ⟨N, 8, none⟩ (.int .i64 y7)) := (((((((((h.low.setCell (p := ⟨N, 0, none⟩) (by show w.heap.size ≤ N; omega) _).setCell (p := ⟨N, 1, none⟩) (by show w.heap.size ≤ N; omega) _).setCell (p := ⟨N, 2, none⟩) (by show w.heap.size ≤ N; omega) _).setCell (p := ⟨N, 3, none⟩) (by show w.heap.size ≤ N; omega) _).setCell (p := ⟨N, 4, none⟩) (by show w.heap.size ≤ N; omega) _).setCell (p := ⟨N, 5, none⟩) (by show w.heap.size ≤ N; omega) _).setCell (p := ⟨N, 6, none⟩) (by show w.heap.size ≤ N; omega) _).setCell (p := ⟨N, 7, none⟩) (by show w.heap.size ≤ N; omega) _).setCell (p := ⟨N, 8, none⟩) (by show w.heap.size ≤ N; omega) _)
  have hd := h.dl
  have hr := h.rl
  exact ⟨(World.cell?_of_block (w := W) (a := ⟨D, 0, none⟩) (far D (by omega))).trans h.t0, (World.cell?_of_block (w := W) (a := ⟨w.heap.size, 0, none⟩) (far w.heap.size (by omega))).trans h.p0, (World.cell?_of_block (w := W) (a := ⟨w.heap.size, 1, none⟩) (far w.heap.size (by omega))).trans h.p1, (World.cell?_of_block (w := W) (a := ⟨w.heap.size, 2, none⟩) (far w.heap.size (by omega))).trans h.p2, h.cols.same (far R (by omega)), h.res.same (far _ (by omega)), hl, by have := h.sz; simpa [World.setCell] using this, hd, hr⟩

theorem cwS {w : World} {R D : Nat} {r f : Int} {xs : List Int} {v : Value} {k x n : Int} {W : World} (h : CW w R D r f xs v k x n W) :
    W.cell? ⟨D, 0, none⟩ = some (.pointer (some ⟨R, 0, none⟩)) ∧ W.cell? ⟨w.heap.size, 0, none⟩ = some (.int .i64 k) ∧ W.cell? ⟨w.heap.size, 1, none⟩ = some (.int .i64 x) ∧ W.cell? ⟨w.heap.size, 2, none⟩ = some (.int .i64 n) ∧ Hid (CW w R D r f xs v k x n W) := ⟨h.t0, h.p0, h.p1, h.p2, Lib.hid h⟩

theorem cq_new {W w' : World} {n : Nat} (hb : Below (W.alloc (.cells #[.nilIface, .int .i64 0, .int .i64 0, .int .i64 0, .int .i64 0, .int .i64 0, .int .i64 0, .int .i64 0, .int .i64 0] 64)).heap.size (W.alloc (.cells #[.nilIface, .int .i64 0, .int .i64 0, .int .i64 0, .int .i64 0, .int .i64 0, .int .i64 0, .int .i64 0, .int .i64 0] 64)) w') (hs : n ≤ W.heap.size) : Q9 w' W.heap.size .nilIface 0 0 0 0 0 0 0 0 ∧ n ≤ W.heap.size ∧ n ≤ w'.heap.size :=
  ⟨(q9_new W .nilIface 0 0 0 0 0 0 0 0).on hb, hs, Nat.le_trans (Nat.le_trans hs (by simp)) hb.size⟩

theorem cq_newD {W w' : World} {n : Nat} (hb : Below (W.alloc (.cells #[.nilIface, .int .i64 0, .int .i64 0, .int .i64 0, .int .i64 0, .int .i64 0, .int .i64 0, .int .i64 0, .int .i64 0] 64)).drew.heap.size (W.alloc (.cells #[.nilIface, .int .i64 0, .int .i64 0, .int .i64 0, .int .i64 0, .int .i64 0, .int .i64 0, .int .i64 0, .int .i64 0] 64)).drew w') (hs : n ≤ W.heap.size) : Q9 w' W.heap.size .nilIface 0 0 0 0 0 0 0 0 ∧ n ≤ W.heap.size ∧ n ≤ w'.heap.size :=
  cq_new (w' := w') ⟨hb.os, hb.tape, hb.output, hb.size, hb.block⟩ hs

theorem cq_old {W w' : World} {N n : Nat} (hq : Q9 W N .nilIface 0 0 0 0 0 0 0 0) (hb : Below W.heap.size W w') (hs : n ≤ W.heap.size) : Q9 w' N .nilIface 0 0 0 0 0 0 0 0 ∧ n ≤ w'.heap.size := ⟨hq.on hb, Nat.le_trans hs hb.size⟩

theorem CW.new (w : World) (R M D : Nat) (r f : Int) (xs : List Int) (v : Value) (k x n s u : Int) (h : TF R M D r f xs v k x n u w) : CW w R D r f xs v k x n ((w.alloc (.cells #[.int .i64 k, .int .i64 x, .int .i64 n, .int .i64 s, .int .i64 u] 30)).alloc (.cells #[.nilIface, .int .i64 0, .int .i64 0, .int .i64 0, .int .i64 0, .int .i64 0, .int .i64 0, .int .i64 0, .int .i64 0] 64)) := by
  have h1 := Bx.new w [.int .i64 k, .int .i64 x, .int .i64 n, .int .i64 s, .int .i64 u] 30
  have hb1 := box_b w (.cells #[.int .i64 k, .int .i64 x, .int .i64 n, .int .i64 s, .int .i64 u] 30)
  have hb2 := box_b (w.alloc (.cells #[.int .i64 k, .int .i64 x, .int .i64 n, .int .i64 s, .int .i64 u] 30)) (.cells #[.nilIface, .int .i64 0, .int .i64 0, .int .i64 0, .int .i64 0, .int .i64 0, .int .i64 0, .int .i64 0, .int .i64 0] 64)
  have h2 := q9_new (w.alloc (.cells #[.int .i64 k, .int .i64 x, .int .i64 n, .int .i64 s, .int .i64 u] 30)) .nilIface 0 0 0 0 0 0 0 0
  rw [World.size_alloc] at h2
  obtain ⟨c0, c1, c2, -, -⟩ := (h1.on hb2).five0
  have hT := (h.on hb1).on hb2
  exact ⟨hT.t0, c0, c1, c2, hT.cols, h2, hb1.trans (hb2.mono (by simp)), by simp, block_lt h.t0, h.cols.lt⟩

set_option maxHeartbeats 8000000 in
theorem icov_any (R M D : Nat) (r f : Int) (xs : List Int) (v : Value) (k x n s u : Int) (w : World) (h : TF R M D r f xs v k x n u w) (hp : poB r f xs k x n s u = true) :
    Calls Tryz.prog 80 #[.pointer (some ⟨D, 0, none⟩), .agg #[.int .i64 k, .int .i64 x, .int .i64 n, .int .i64 s, .int .i64 u]] w fun e w' => e = .returned (cvr (.iface (kT k) (.agg #[])) (cD r xs (x - f).toNat) (cN r xs (x - f).toNat) (cC r xs (x - f).toNat) (cM r xs (x - f).toNat) (cD r xs (x + n - f).toNat) (cN r xs (x + n - f).toNat) (cC r xs (x + n - f).toNat) (cM r xs (x + n - f).toNat)) ∧ Below w.heap.size w w' := by
  have hz := (poB_iff.1 hp).1
  unfold asE at hz
  obtain ⟨-, ⟨hk, -⟩, ht, -, ⟨x0, -⟩, ⟨n0, -⟩, xn, hd⟩ := as_in hz
  obtain ⟨f0, f1⟩ := ht.1
  have CA : Hid (∀ W, Calls Tryz.prog 65 #[.int .i64 k] W fun e w' => e = .returned (.iface (kT k) (.agg #[])) ∧ Below W.heap.size W w') :=
    Lib.hid (fun W => (aof_any k W).mono (fun e w' he => ⟨by rw [he.1, kV_in hk], by rw [← he.2]; exact Below.refl _ _⟩))
  have CV : Hid (∀ W, Hid (CW w R D r f xs v k x n W) → Calls Tryz.prog 68 #[.pointer (some ⟨R, 0, none⟩), .iface (kT k) (.agg #[]), .int .i64 x, .int .i64 n] W (CvPost (.iface (kT k) (.agg #[])) (cD r xs (x - f).toNat) (cN r xs (x - f).toNat) (cC r xs (x - f).toNat) (cM r xs (x - f).toNat) (cD r xs (x + n - f).toNat) (cN r xs (x + n - f).toNat) (cC r xs (x + n - f).toNat) (cM r xs (x + n - f).toNat) 0 W)) :=
    Lib.hid (fun W hW => cva_any (kT k) (.agg #[]) r f xs v R x n W hW.out.cols f0 x0 n0 xn hd)
  have HC := Lib.hid (CW.new w R M D r f xs v k x n s u h)
  obtain ⟨g0, hg0⟩ : ∃ y_, cD r xs (x - f).toNat = y_ := ⟨_, rfl⟩
  obtain ⟨g1, hg1⟩ : ∃ y_, cN r xs (x - f).toNat = y_ := ⟨_, rfl⟩
  obtain ⟨g2, hg2⟩ : ∃ y_, cC r xs (x - f).toNat = y_ := ⟨_, rfl⟩
  obtain ⟨g3, hg3⟩ : ∃ y_, cM r xs (x - f).toNat = y_ := ⟨_, rfl⟩
  rw [hg0, hg1, hg2, hg3] at CV ⊢
  clear hg0 hg1 hg2 hg3
  obtain ⟨g4, hg4⟩ : ∃ y_, cD r xs (x + n - f).toNat = y_ := ⟨_, rfl⟩
  obtain ⟨g5, hg5⟩ : ∃ y_, cN r xs (x + n - f).toNat = y_ := ⟨_, rfl⟩
  obtain ⟨g6, hg6⟩ : ∃ y_, cC r xs (x + n - f).toNat = y_ := ⟨_, rfl⟩
  obtain ⟨g7, hg7⟩ : ∃ y_, cM r xs (x + n - f).toNat = y_ := ⟨_, rfl⟩
  rw [hg4, hg5, hg6, hg7] at CV ⊢
  clear hg4 hg5 hg6 hg7
  obtain ⟨T, hT⟩ : ∃ y_, kT k = y_ := ⟨_, rfl⟩
  rw [hT] at CA CV ⊢
  unfold CvPost cvr at CV
  unfold cvr
  clear hT hz hk ht x0 n0 xn hd f0 f1 hp h
  go_enter Tryz.func80, Tryz.ntmps80
  go_upto_region 1 with fail
  obtain ⟨W0, hW0⟩ : ∃ y_, (w.alloc (.cells #[.int .i64 k, .int .i64 x, .int .i64 n, .int .i64 s, .int .i64 u] 30)).alloc (.cells #[.nilIface, .int .i64 0, .int .i64 0, .int .i64 0, .int .i64 0, .int .i64 0, .int .i64 0, .int .i64 0, .int .i64 0] 64) = y_ := ⟨_, rfl⟩
  rw [hW0] at HC ⊢
  clear hW0
  go_cut [5] from 8 to 21 (fun p wx => ∃ N, p = .pointer (some ⟨N, 0, none⟩) ∧ Hid (CW w R D r f xs v k x n wx ∧ Q9 wx N (.iface T (.agg #[])) g0 g1 g2 g3 g4 g5 g6 g7))
  case first =>
    obtain ⟨k0, k1, k2, k3, _⟩ := cwS HC.out
    have hszD : w.heap.size + 2 ≤ W0.heap.size := HC.out.sz
    have hsz : w.heap.size + 2 ≤ W0.drew.heap.size := hszD
    have hq := True.intro
    have hsT := True.intro
    go_region_held3 (fun W9 => W9.cell? ⟨D, 0, none⟩ = some (.pointer (some ⟨R, 0, none⟩)) ∧ W9.cell? ⟨w.heap.size, 0, none⟩ = some (.int .i64 k) ∧ W9.cell? ⟨w.heap.size, 1, none⟩ = some (.int .i64 x) ∧ W9.cell? ⟨w.heap.size, 2, none⟩ = some (.int .i64 n) ∧ Hid (CW w R D r f xs v k x n W9))
      (first
        | (with_reducible exact cwS (CW.set9 HSp.out hsT))
        | (go_split_ands; with_reducible exact cwS (Hid.out (by with_reducible assumption)))
        | (go_split_ands; with_reducible exact cwS (CW.on (Hid.out (by with_reducible assumption)) hb))
        | (go_split_ands; with_reducible exact cwS (CW.on (Hid.out (by with_reducible assumption)) (Below.drew (Below.refl _ _))))
        | (go_split_ands; with_reducible exact cwS (CW.on (Hid.out (by with_reducible assumption)) (box_b _ _)))
        | (go_split_ands; with_reducible exact cwS (CW.on HSp.out (box_b _ _)))
        | fail)
      (first
        | (go_split_ands; go_at_call 65; ((with_reducible refine (CA.out _).mono ?_); rintro e w' ⟨rfl, hb⟩; (first | ((with_reducible have hr := cq_newD hb hszD); obtain ⟨hq, hsT, hsz⟩ := hr; obtain ⟨n0, n1, n2, n3, n4, n5, n6, n7, n8, m0, m1, m2, m3, m4, m5, m6, m7, m8⟩ := hq.f9) | ((with_reducible have hr := cq_new hb hsz); obtain ⟨hq, hsT, hsz⟩ := hr; obtain ⟨n0, n1, n2, n3, n4, n5, n6, n7, n8, m0, m1, m2, m3, m4, m5, m6, m7, m8⟩ := hq.f9) | ((with_reducible have hr := cq_old hq hb hsz); obtain ⟨hq, hsz⟩ := hr; clear n0 n1 n2 n3 n4 n5 n6 n7 n8 m0 m1 m2 m3 m4 m5 m6 m7 m8; obtain ⟨n0, n1, n2, n3, n4, n5, n6, n7, n8, m0, m1, m2, m3, m4, m5, m6, m7, m8⟩ := hq.f9) | (have hsz := Nat.le_trans hsz hb.size))))
        | (go_split_ands; go_at_call 68; ((with_reducible refine (CV.out _ (by with_reducible assumption)).mono ?_); rintro e w' ⟨rfl, hb⟩; have HSp : Hid (CW w R D r f xs v k x n w') := Lib.hid (CW.on (Hid.out (by with_reducible assumption)) hb); (first | ((with_reducible have hr := cq_newD hb hszD); obtain ⟨hq, hsT, hsz⟩ := hr; obtain ⟨n0, n1, n2, n3, n4, n5, n6, n7, n8, m0, m1, m2, m3, m4, m5, m6, m7, m8⟩ := hq.f9) | ((with_reducible have hr := cq_new hb hsz); obtain ⟨hq, hsT, hsz⟩ := hr; obtain ⟨n0, n1, n2, n3, n4, n5, n6, n7, n8, m0, m1, m2, m3, m4, m5, m6, m7, m8⟩ := hq.f9) | ((with_reducible have hr := cq_old hq hb hsz); obtain ⟨hq, hsz⟩ := hr; clear n0 n1 n2 n3 n4 n5 n6 n7 n8 m0 m1 m2 m3 m4 m5 m6 m7 m8; obtain ⟨n0, n1, n2, n3, n4, n5, n6, n7, n8, m0, m1, m2, m3, m4, m5, m6, m7, m8⟩ := hq.f9) | (have hsz := Nat.le_trans hsz hb.size))))
        | fail)
    all_goals
      go_split_ands
      go_wp2_with fail
      go_meet
      case rel =>
        first
          | (with_reducible exact ⟨_, rfl, Lib.hid ⟨Hid.out (by with_reducible assumption), hq.set9 _ _ _ _ _ _ _ _ _⟩⟩)
          | (with_reducible exact ⟨_, rfl, Lib.hid ⟨Hid.out (by with_reducible assumption), q9_new _ _ _ _ _ _ _ _ _ _⟩⟩)
          | fail
  case rest =>
    obtain ⟨N, rfl, HQ⟩ := hcut
    obtain ⟨n0, n1, n2, n3, n4, n5, n6, n7, n8, m0, m1, m2, m3, m4, m5, m6, m7, m8⟩ := HQ.out.2.f9
    obtain ⟨c0, c1, c2, c3, c4, c5, c6, c7, c8, z0, z1, z2, z3, z4, z5, z6, z7, z8⟩ := HQ.out.1.res.f9
    go_wp2_with fail
    refine bodyPost_ret (v := .agg #[.iface T (.agg #[]), .int .i64 g0, .int .i64 g1, .int .i64 g2, .int .i64 g3, .int .i64 g4, .int .i64 g5, .int .i64 g6, .int .i64 g7]) ?_ rfl ⟨rfl, ?_⟩
    · simp [results, Tryz.results80, go_sem, c0, c1, c2, c3, c4, c5, c6, c7, c8]
    · exact (((((((((HQ.out.1.low.setCell (p := ⟨w.heap.size + 1, 0, none⟩) (by simp) _).setCell (p := ⟨w.heap.size + 1, 1, none⟩) (by simp) _).setCell (p := ⟨w.heap.size + 1, 2, none⟩) (by simp) _).setCell (p := ⟨w.heap.size + 1, 3, none⟩) (by simp) _).setCell (p := ⟨w.heap.size + 1, 4, none⟩) (by simp) _).setCell (p := ⟨w.heap.size + 1, 5, none⟩) (by simp) _).setCell (p := ⟨w.heap.size + 1, 6, none⟩) (by simp) _).setCell (p := ⟨w.heap.size + 1, 7, none⟩) (by simp) _).setCell (p := ⟨w.heap.size + 1, 8, none⟩) (by simp) _)

end Go.Proofs.YtdlfofdibooidaaGreat

/- Policies: the program's net premium, found once. (Written by wip/gen/poi.py.) -/
namespace Go.Proofs.YtdlfofdibooidaaGreat
open Go.ChangeShapes Go.WideShapes Go.ChangeAt Go.RowKit
open Go.ChangeMaps (setBlock heap_setBlock_same heap_setBlock_other)
set_option linter.unusedVariables false
set_option maxRecDepth 100000

theorem butM_of {B : Nat} {w w' : World} (h : Below w.heap.size w w') : But B w w' := ⟨h.os, h.tape, h.output, h.size, fun k hk _ => h.block k hk⟩

theorem setM_but {w : World} {M : Nat} {es : Array MapEntry} {c : Nat} (hm : w.heap[M]? = some (.map es c)) (o : Obj) : But M w (setBlock w M o) :=
  ⟨rfl, rfl, rfl, by simp [setBlock], fun k _ hk => heap_setBlock_other hm o hk⟩

theorem Cols.notM {w : World} {R : Nat} {r f : Int} {xs : List Int} {v : Value} {M : Nat} {es : Array MapEntry} {c : Nat} (h : Cols w R r f xs v) (hm : w.heap[M]? = some (.map es c)) : R ≠ M := by
  rintro rfl
  obtain ⟨G, hG, -⟩ := h
  unfold CBX at hG
  rw [hG] at hm
  cases hm

theorem TF.put {R M D : Nat} {r f : Int} {xs : List Int} {v : Value} {k x n u : Int} {s : Int} {W : World} {es : Array MapEntry} {c : Nat} (h : TF R M D r f xs v k x n u W) (hm : W.heap[M]? = some (.map es c)) (hk : PmOk (netN r f xs k x n) k x n u es) (s0 : 1 ≤ s) (s1 : s ≤ 100000000) :
    TF R M D r f xs v k x n u (setBlock W M (.map (es.push ⟨.agg #[.int .i64 k, .int .i64 x, .int .i64 n, .int .i64 s, .int .i64 u], .int .i64 (netN r f xs k x n s), c⟩) (c + 1))) := by
  have hb := setM_but hm (.map (es.push ⟨.agg #[.int .i64 k, .int .i64 x, .int .i64 n, .int .i64 s, .int .i64 u], .int .i64 (netN r f xs k x n s), c⟩) (c + 1))
  exact ⟨hb.keepM hm h.t0, hb.keepM hm h.t1, h.cols.same (hb.block R h.cols.lt (h.cols.notM hm)), _, _, heap_setBlock_same hm _, hk.push s0 s1 c⟩

theorem po_wf {r f : Int} {xs : List Int} {k x n s u : Int} (hp : poB r f xs k x n s u = true) : Wf4 k x n u ∧ 1 ≤ s ∧ s ≤ 100000000 := by
  obtain ⟨hz, ⟨u0, u1⟩, -⟩ := poB_iff.1 hp
  unfold asE at hz
  obtain ⟨hB, ⟨⟨k0, k1⟩, -⟩, ht, -, ⟨x0, x1⟩, ⟨n0, n1⟩, -, -⟩ := as_in hz
  obtain ⟨f0, f1⟩ := ht.1
  obtain ⟨s0, s1⟩ := (inB_iff _ _ _).1 hB
  exact ⟨⟨wf_small (by omega) (by omega), wf_small (by omega) (by omega), wf_small (by omega) (by omega), wf_small (by omega) (by omega)⟩, s0, s1⟩

/-- what a method of the tariff keeps: the box of the policy -/
structure NT (w : World) (R M D : Nat) (r f : Int) (xs : List Int) (v : Value) (k x n s u : Int) (W : World) : Prop where
  tf : TF R M D r f xs v k x n u W
  box : Bx W w.heap.size [.int .i64 k, .int .i64 x, .int .i64 n, .int .i64 s, .int .i64 u]
  low : Below w.heap.size w W
  sz : w.heap.size + 1 ≤ W.heap.size

theorem NT.on {w : World} {R M D : Nat} {r f : Int} {xs : List Int} {v : Value} {k x n s u : Int} {W W' : World} (h : NT w R M D r f xs v k x n s u W) (hb : Below W.heap.size W W') : NT w R M D r f xs v k x n s u W' :=
  ⟨h.tf.on hb, h.box.on hb, h.low.trans (hb.mono h.low.size), Nat.le_trans h.sz hb.size⟩

theorem NT.drew {w : World} {R M D : Nat} {r f : Int} {xs : List Int} {v : Value} {k x n s u : Int} {W : World} (h : NT w R M D r f xs v k x n s u W) : NT w R M D r f xs v k x n s u W.drew := h.on (Below.drew (Below.refl _ _))

theorem NT.new (R M D : Nat) (r f : Int) (xs : List Int) (v : Value) (k x n s u : Int) (w : World) (h : TF R M D r f xs v k x n u w) : NT w R M D r f xs v k x n s u (w.alloc (.cells #[.int .i64 k, .int .i64 x, .int .i64 n, .int .i64 s, .int .i64 u] 30)) :=
  ⟨h.on (box_b _ _), Bx.new w [.int .i64 k, .int .i64 x, .int .i64 n, .int .i64 s, .int .i64 u] 30, box_b _ _, by simp⟩

theorem ntS {w : World} {R M D : Nat} {r f : Int} {xs : List Int} {v : Value} {k x n s u : Int} {W : World} (h : NT w R M D r f xs v k x n s u W) :
    W.cell? ⟨w.heap.size, 0, none⟩ = some (.int .i64 k) ∧ W.cell? ⟨w.heap.size, 1, none⟩ = some (.int .i64 x) ∧ W.cell? ⟨w.heap.size, 2, none⟩ = some (.int .i64 n) ∧ W.cell? ⟨w.heap.size, 3, none⟩ = some (.int .i64 s) ∧ W.cell? ⟨w.heap.size, 4, none⟩ = some (.int .i64 u) ∧ Hid (NT w R M D r f xs v k x n s u W) := by
  obtain ⟨c0, c1, c2, c3, c4⟩ := h.box.five0
  exact ⟨c0, c1, c2, c3, c4, Lib.hid h⟩

/-- the post of a method that may put a premium into the map -/
def TPost (z : Int) (R M D : Nat) (r f : Int) (xs : List Int) (v : Value) (k x n u : Int) (w : World) (e : Ending) (w' : World) : Prop := e = .returned (.int .i64 z) ∧ TF R M D r f xs v k x n u w' ∧ But M w w'

set_option maxHeartbeats 4000000 in
theorem inet_any (R M D : Nat) (r f : Int) (xs : List Int) (v : Value) (k x n s u : Int) (w : World) (h : TF R M D r f xs v k x n u w) (hp : poB r f xs k x n s u = true) :
    Calls Tryz.prog 79 #[.pointer (some ⟨D, 0, none⟩), .agg #[.int .i64 k, .int .i64 x, .int .i64 n, .int .i64 s, .int .i64 u]] w (TPost (netN r f xs k x n s) R M D r f xs v k x n u w) := by
  obtain ⟨hwf, s0, s1⟩ := po_wf hp
  obtain ⟨es, c, hm, hok⟩ := h.map
  have HN := Lib.hid (NT.new R M D r f xs v k x n s u w h)
  unfold TPost
  have hm1 : (w.alloc (.cells #[.int .i64 k, .int .i64 x, .int .i64 n, .int .i64 s, .int .i64 u] 30)).heap[M]? = some (.map es c) := ((box_b w (.cells #[.int .i64 k, .int .i64 x, .int .i64 n, .int .i64 s, .int .i64 u] 30)).block M (mapB_lt hm)).trans hm
  have HM : Hid (∀ W, NT w R M D r f xs v k x n s u W → W.heap[M]? = some (.map es c)) := Lib.hid (fun W hW => (hW.low.block M (mapB_lt hm)).trans hm)
  by_cases hin : PmIn k x n u s es
  · have hl1 := hok.hit hwf s0 s1 hin _ hm1
    have hl2 := hok.hit hwf s0 s1 hin (w.alloc (.cells #[.int .i64 k, .int .i64 x, .int .i64 n, .int .i64 s, .int .i64 u] 30)).drew hm1
    obtain ⟨t0, t1, -, -⟩ := HN.out.tf
    obtain ⟨c0, c1, c2, c3, c4, -⟩ := ntS HN.out
    obtain ⟨Z, hZ⟩ : ∃ y_, netN r f xs k x n s = y_ := ⟨_, rfl⟩
    rw [hZ] at hl1 hl2 ⊢
    have ht1 : (w.alloc (.cells #[.int .i64 k, .int .i64 x, .int .i64 n, .int .i64 s, .int .i64 u] 30)).drew.cell? ⟨D, 1, none⟩ = some (.map (some M)) := t1
    clear hZ h hp hwf s0 s1 hm hok hm1 hin HM
    go_enter Tryz.func79, Tryz.ntmps79
    go_wp2_with fail
    obtain ⟨W0, hW0⟩ : ∃ y_, w.alloc (.cells #[.int .i64 k, .int .i64 x, .int .i64 n, .int .i64 s, .int .i64 u] 30) = y_ := ⟨_, rfl⟩
    rw [hW0] at HN hl1 hl2 t0 t1 c0 c1 c2 c3 c4 ht1 ⊢
    clear hW0
    go_region
    go_wp2_with fail
    go_ret
    exact ⟨rfl, HN.out.drew.tf, butM_of HN.out.drew.low⟩
  · have hl1 := hok.miss hwf s0 s1 hin _ hm1
    have hl2 := hok.miss hwf s0 s1 hin (w.alloc (.cells #[.int .i64 k, .int .i64 x, .int .i64 n, .int .i64 s, .int .i64 u] 30)).drew hm1
    have HPUT : Hid (∀ W, NT w R M D r f xs v k x n s u W → ∀ y, (Instr.mapUpdate 113 (.map (some M)) (.agg #[.int .i64 k, .int .i64 x, .int .i64 n, .int .i64 s, .int .i64 u]) y).run Tryz.prog W = .ok () (setBlock W M (.map (es.push ⟨.agg #[.int .i64 k, .int .i64 x, .int .i64 n, .int .i64 s, .int .i64 u], y, c⟩) (c + 1)))) :=
      Lib.hid (fun W hW y => hok.put hwf s0 s1 hin W (HM.out W hW) y)
    have HEND : Hid (∀ W, NT w R M D r f xs v k x n s u W → TF R M D r f xs v k x n u (setBlock W M (.map (es.push ⟨.agg #[.int .i64 k, .int .i64 x, .int .i64 n, .int .i64 s, .int .i64 u], .int .i64 (netN r f xs k x n s), c⟩) (c + 1))) ∧ But M w (setBlock W M (.map (es.push ⟨.agg #[.int .i64 k, .int .i64 x, .int .i64 n, .int .i64 s, .int .i64 u], .int .i64 (netN r f xs k x n s), c⟩) (c + 1)))) :=
      Lib.hid (fun W hW => ⟨hW.tf.put (HM.out W hW) hok s0 s1, (butM_of hW.low).trans (setM_but (HM.out W hW) _)⟩)
    have CC : Hid (∀ W, Hid (NT w R M D r f xs v k x n s u W) → Calls Tryz.prog 80 #[.pointer (some ⟨D, 0, none⟩), .agg #[.int .i64 k, .int .i64 x, .int .i64 n, .int .i64 s, .int .i64 u]] W fun e w' => e = .returned (cvr (.iface (kT k) (.agg #[])) (cD r xs (x - f).toNat) (cN r xs (x - f).toNat) (cC r xs (x - f).toNat) (cM r xs (x - f).toNat) (cD r xs (x + n - f).toNat) (cN r xs (x + n - f).toNat) (cC r xs (x + n - f).toNat) (cM r xs (x + n - f).toNat)) ∧ Below W.heap.size W w') :=
      Lib.hid (fun W hW => icov_any R M D r f xs v k x n s u W hW.out.tf hp)
    have hz := (poB_iff.1 hp).1
    unfold asE at hz
    have CP : Hid (∀ W, Calls Tryz.prog 114 #[cvr (.iface (kT k) (.agg #[])) (cD r xs (x - f).toNat) (cN r xs (x - f).toNat) (cC r xs (x - f).toNat) (cM r xs (x - f).toNat) (cD r xs (x + n - f).toNat) (cN r xs (x + n - f).toNat) (cC r xs (x + n - f).toNat) (cM r xs (x + n - f).toNat), .int .i64 s] W fun e w' => e = .returned (.int .i64 (netN r f xs k x n s)) ∧ Below W.heap.size W w') :=
      Lib.hid (fun W => cvm_any hz W)
    obtain ⟨t0, t1, -, -⟩ := HN.out.tf
    obtain ⟨c0, c1, c2, c3, c4, -⟩ := ntS HN.out
    obtain ⟨Z, hZ⟩ : ∃ y_, netN r f xs k x n s = y_ := ⟨_, rfl⟩
    rw [hZ] at HEND CP ⊢
    obtain ⟨g0, hg0⟩ : ∃ y_, cD r xs (x - f).toNat = y_ := ⟨_, rfl⟩
    obtain ⟨g1, hg1⟩ : ∃ y_, cN r xs (x - f).toNat = y_ := ⟨_, rfl⟩
    obtain ⟨g2, hg2⟩ : ∃ y_, cC r xs (x - f).toNat = y_ := ⟨_, rfl⟩
    obtain ⟨g3, hg3⟩ : ∃ y_, cM r xs (x - f).toNat = y_ := ⟨_, rfl⟩
    rw [hg0, hg1, hg2, hg3] at CC CP
    clear hg0 hg1 hg2 hg3
    obtain ⟨g4, hg4⟩ : ∃ y_, cD r xs (x + n - f).toNat = y_ := ⟨_, rfl⟩
    obtain ⟨g5, hg5⟩ : ∃ y_, cN r xs (x + n - f).toNat = y_ := ⟨_, rfl⟩
    obtain ⟨g6, hg6⟩ : ∃ y_, cC r xs (x + n - f).toNat = y_ := ⟨_, rfl⟩
    obtain ⟨g7, hg7⟩ : ∃ y_, cM r xs (x + n - f).toNat = y_ := ⟨_, rfl⟩
    rw [hg4, hg5, hg6, hg7] at CC CP
    clear hg4 hg5 hg6 hg7
    obtain ⟨T, hT⟩ : ∃ y_, kT k = y_ := ⟨_, rfl⟩
    rw [hT] at CC CP
    unfold cvr at CC CP
    have ht1 : (w.alloc (.cells #[.int .i64 k, .int .i64 x, .int .i64 n, .int .i64 s, .int .i64 u] 30)).drew.cell? ⟨D, 1, none⟩ = some (.map (some M)) := t1
    clear hT hZ h hp hwf s0 s1 hm hok hm1 hin HM hz
    go_enter Tryz.func79, Tryz.ntmps79
    go_wp2_with fail
    obtain ⟨W0, hW0⟩ : ∃ y_, w.alloc (.cells #[.int .i64 k, .int .i64 x, .int .i64 n, .int .i64 s, .int .i64 u] 30) = y_ := ⟨_, rfl⟩
    rw [hW0] at HN hl1 hl2 t0 t1 c0 c1 c2 c3 c4 ht1 ⊢
    clear hW0
    go_region
    go_wp2_with fail
    have HN1 := Lib.hid HN.out.drew
    obtain ⟨d0, d1, d2, d3, d4, -⟩ := ntS HN1.out
    obtain ⟨W1, hW1⟩ : ∃ y_, W0.drew = y_ := ⟨_, rfl⟩
    rw [hW1] at HN1 d0 d1 d2 d3 d4 ⊢
    clear hW1 hl1 hl2 t0 t1 c0 c1 c2 c3 c4 ht1 HN
    go_region_held3 (fun W9 => W9.cell? ⟨w.heap.size, 0, none⟩ = some (.int .i64 k) ∧ W9.cell? ⟨w.heap.size, 1, none⟩ = some (.int .i64 x) ∧ W9.cell? ⟨w.heap.size, 2, none⟩ = some (.int .i64 n) ∧ W9.cell? ⟨w.heap.size, 3, none⟩ = some (.int .i64 s) ∧ W9.cell? ⟨w.heap.size, 4, none⟩ = some (.int .i64 u) ∧ Hid (NT w R M D r f xs v k x n s u W9))
      (first
        | (go_split_ands; with_reducible exact ntS (Hid.out (by with_reducible assumption)))
        | (go_split_ands; with_reducible exact ntS (NT.on (Hid.out (by with_reducible assumption)) hb))
        | (go_split_ands; with_reducible exact ntS (NT.drew (Hid.out (by with_reducible assumption))))
        | fail)
      (first
        | (go_split_ands; go_at_call 80; ((with_reducible refine (CC.out _ (by with_reducible assumption)).mono ?_); rintro e w' ⟨rfl, hb⟩))
        | (go_split_ands; go_at_call 114; ((with_reducible refine (CP.out _).mono ?_); rintro e w' ⟨rfl, hb⟩))
        | fail)
    all_goals
      go_split_ands
      have HN4 : Hid (NT w R M D r f xs v k x n s u w') := by with_reducible assumption
      obtain ⟨t0, t1, -, -⟩ := HN4.out.tf
      obtain ⟨c0, c1, c2, c3, c4, -⟩ := ntS HN4.out
      have ht1 : w'.drew.cell? ⟨D, 1, none⟩ = some (.map (some M)) := t1
      have hp1 := HPUT.out w' HN4.out (.int .i64 Z)
      have hp2 := HPUT.out w'.drew HN4.out.drew (.int .i64 Z)
      go_wp2_with fail
      go_region
      go_wp2_with fail
      go_ret
      exact ⟨rfl, HEND.out _ HN4.out.drew⟩

end Go.Proofs.YtdlfofdibooidaaGreat

/- Policies: the program's duration and gain. (Written by wip/gen/poj.py.) -/
namespace Go.Proofs.YtdlfofdibooidaaGreat
open Go.ChangeShapes Go.WideShapes Go.ChangeAt Go.RowKit
open Go.ChangeMaps (setBlock heap_setBlock_same heap_setBlock_other)
set_option linter.unusedVariables false
set_option maxRecDepth 100000

theorem Cols.head {w : World} {R : Nat} {r f : Int} {xs : List Int} {v : Value} (h : Cols w R r f xs v) : w.cell? ⟨R, 0, none⟩ = some (.int .i64 f) ∧ w.cell? ⟨R, 1, none⟩ = some v := by
  obtain ⟨G, hG, -⟩ := h
  unfold CBX ccells at hG
  simp [World.cell?, hG]

set_option maxHeartbeats 1000000 in
theorem idur_any (R M D : Nat) (r f : Int) (xs : List Int) (a : Option Addr) (l c : Nat) (k x n s u : Int) (w : World) (h : TF R M D r f xs (.slice a l c) k x n u w) (hp : poB r f xs k x n s u = true) (hl : xs.length = l) :
    Calls Tryz.prog 81 #[.pointer (some ⟨D, 0, none⟩), .agg #[.int .i64 k, .int .i64 x, .int .i64 n, .int .i64 s, .int .i64 u]] w fun e w' => e = .returned (.int .i64 (durN f xs k x n)) ∧ Below w.heap.size w w' := by
  have hz := (poB_iff.1 hp).1
  unfold asE at hz
  obtain ⟨-, -, ht, -, ⟨x0, x1⟩, -⟩ := as_in hz
  obtain ⟨f0, f1⟩ := ht.1
  have hs := ht.2.1
  have CE : Hid (∀ W, Calls Tryz.prog 115 #[.agg #[.int .i64 f, .slice a l c]] W fun e w' => e = .returned (.int .i64 (f + l - 1)) ∧ Below W.heap.size W w') :=
    Lib.hid (fun W => end_any f xs a l c W (by omega) f0 (by omega))
  by_cases hk : k = 0
  · have HV : Hid (durN f xs k x n = f + l - 1 - x) := Lib.hid (by unfold durN; rw [if_pos hk, hl])
    obtain ⟨E, hE⟩ : ∃ y_, f + l - 1 = y_ := ⟨_, rfl⟩
    rw [hE] at HV CE
    have q1 : IntKind.i64.wrap (E - x) = E - x := IntWalk.i64_in _ (by omega)
    rw [HV.out]
    have HN := Lib.hid (NT.new R M D r f xs (.slice a l c) k x n s u w h)
    have hbx := Bx.new w [.int .i64 k, .int .i64 x, .int .i64 n, .int .i64 s, .int .i64 u] 30
    have hb0 := box_b w (.cells #[.int .i64 k, .int .i64 x, .int .i64 n, .int .i64 s, .int .i64 u] 30)
    have HT : Hid (∀ W, Below w.heap.size w W → W.cell? ⟨D, 0, none⟩ = some (.pointer (some ⟨R, 0, none⟩)) ∧ W.cell? ⟨R, 0, none⟩ = some (.int .i64 f) ∧ W.cell? ⟨R, 1, none⟩ = some (.slice a l c)) :=
      Lib.hid (fun W hW => ⟨(h.on hW).t0, (h.on hW).cols.head.1, (h.on hW).cols.head.2⟩)
    obtain ⟨t0, t1, t2⟩ := HT.out _ hb0
    obtain ⟨-, c1, -, -, -⟩ := hbx.five0
    clear hE HV HN hbx hp hz ht h
    subst hk
    have HB := Lib.hid hb0
    clear hb0
    go_enter Tryz.func81, Tryz.ntmps81
    go_wp2_with fail
    obtain ⟨W0, hW0⟩ : ∃ y_, w.alloc (.cells #[.int .i64 0, .int .i64 x, .int .i64 n, .int .i64 s, .int .i64 u] 30) = y_ := ⟨_, rfl⟩
    rw [hW0] at HB t0 t1 t2 c1 ⊢
    clear hW0
    go_region_held3 (fun W9 => W9.cell? ⟨D, 0, none⟩ = some (.pointer (some ⟨R, 0, none⟩)) ∧ W9.cell? ⟨R, 0, none⟩ = some (.int .i64 f) ∧ W9.cell? ⟨R, 1, none⟩ = some (.slice a l c) ∧ W9.cell? ⟨w.heap.size, 1, none⟩ = some (.int .i64 x) ∧ Hid (Below w.heap.size w W9))
      (first
        | (go_split_ands; with_reducible exact ⟨by with_reducible assumption, by with_reducible assumption, by with_reducible assumption, by with_reducible assumption, by with_reducible assumption⟩)
        | (go_split_ands; with_reducible exact ⟨cell_drew t0, cell_drew t1, cell_drew t2, cell_drew c1, Lib.hid (Below.drew HB.out)⟩)
        | (go_split_ands; with_reducible exact ⟨keep2 hb (by with_reducible assumption), keep2 hb (by with_reducible assumption), keep2 hb (by with_reducible assumption), keep2 hb (by with_reducible assumption), Lib.hid (Below.trans (Hid.out (by with_reducible assumption)) (Below.mono hb (Below.size (Hid.out (by with_reducible assumption)))))⟩)
        | fail)
      (first
        | (go_split_ands; go_at_call 115; ((with_reducible refine (CE.out _).mono ?_); rintro e w' ⟨rfl, hb⟩))
        | fail)
    all_goals
      go_split_ands
      go_wp2_with fail
      go_ret
      exact ⟨rfl, Hid.out (by with_reducible assumption)⟩
  · have HV : Hid (durN f xs k x n = n) := Lib.hid (by unfold durN; rw [if_neg hk])
    have hk2 : (k == 0) = false := by simp [hk]
    rw [HV.out]
    clear hk HV h hp hz ht CE
    go_enter Tryz.func81, Tryz.ntmps81
    go_wp2_with fail
    go_ret
    exact ⟨rfl, box_b _ _⟩

/-- while a gain is found -/
structure GT (w : World) (R M D : Nat) (r f : Int) (xs : List Int) (v : Value) (k x n s u : Int) (N : Nat) (T : TypeId) (g0 g1 g2 g3 g4 g5 g6 g7 : Int) (W : World) : Prop where
  tf : TF R M D r f xs v k x n u W
  box : Bx W w.heap.size [.int .i64 k, .int .i64 x, .int .i64 n, .int .i64 s, .int .i64 u]
  cov : Q9 W N (.iface T (.agg #[])) g0 g1 g2 g3 g4 g5 g6 g7
  but : But M w W

theorem GT.on {w : World} {R M D : Nat} {r f : Int} {xs : List Int} {v : Value} {k x n s u : Int} {N : Nat} {T : TypeId} {g0 g1 g2 g3 g4 g5 g6 g7 : Int} {W W' : World} (h : GT w R M D r f xs v k x n s u N T g0 g1 g2 g3 g4 g5 g6 g7 W) (hb : Below W.heap.size W W') : GT w R M D r f xs v k x n s u N T g0 g1 g2 g3 g4 g5 g6 g7 W' :=
  ⟨h.tf.on hb, h.box.on hb, h.cov.on hb, h.but.trans (butM_of hb)⟩

theorem GT.drew {w : World} {R M D : Nat} {r f : Int} {xs : List Int} {v : Value} {k x n s u : Int} {N : Nat} {T : TypeId} {g0 g1 g2 g3 g4 g5 g6 g7 : Int} {W : World} (h : GT w R M D r f xs v k x n s u N T g0 g1 g2 g3 g4 g5 g6 g7 W) : GT w R M D r f xs v k x n s u N T g0 g1 g2 g3 g4 g5 g6 g7 W.drew := h.on (Below.drew (Below.refl _ _))

theorem GT.onM {w : World} {R M D : Nat} {r f : Int} {xs : List Int} {v : Value} {k x n s u : Int} {N : Nat} {T : TypeId} {g0 g1 g2 g3 g4 g5 g6 g7 : Int} {W W' : World} (h : GT w R M D r f xs v k x n s u N T g0 g1 g2 g3 g4 g5 g6 g7 W) (ht : TF R M D r f xs v k x n u W') (hb : But M W W') : GT w R M D r f xs v k x n s u N T g0 g1 g2 g3 g4 g5 g6 g7 W' := by
  obtain ⟨es, c, hm, -⟩ := h.tf.map
  refine ⟨ht, h.box.same (hb.block _ h.box.lt (fun e => ?_)), h.cov.same (hb.block _ h.cov.lt (fun e => ?_)), h.but.trans hb⟩
  · obtain ⟨T', hB⟩ := h.box
    rw [e, hm] at hB; cases hB
  · have hC := h.cov
    unfold Q9 at hC
    rw [e, hm] at hC; cases hC

theorem gtS {w : World} {R M D : Nat} {r f : Int} {xs : List Int} {v : Value} {k x n s u : Int} {N : Nat} {T : TypeId} {g0 g1 g2 g3 g4 g5 g6 g7 : Int} {W : World} (h : GT w R M D r f xs v k x n s u N T g0 g1 g2 g3 g4 g5 g6 g7 W) :
    W.cell? ⟨w.heap.size, 0, none⟩ = some (.int .i64 k) ∧ W.cell? ⟨w.heap.size, 1, none⟩ = some (.int .i64 x) ∧ W.cell? ⟨w.heap.size, 2, none⟩ = some (.int .i64 n) ∧ W.cell? ⟨w.heap.size, 3, none⟩ = some (.int .i64 s) ∧ W.cell? ⟨w.heap.size, 4, none⟩ = some (.int .i64 u) ∧ W.cell? ⟨N, 0, none⟩ = some (.iface T (.agg #[])) ∧ W.cell? ⟨N, 1, none⟩ = some (.int .i64 g0) ∧ W.cell? ⟨N, 2, none⟩ = some (.int .i64 g1) ∧ W.cell? ⟨N, 3, none⟩ = some (.int .i64 g2) ∧ W.cell? ⟨N, 4, none⟩ = some (.int .i64 g3) ∧ W.cell? ⟨N, 5, none⟩ = some (.int .i64 g4) ∧ W.cell? ⟨N, 6, none⟩ = some (.int .i64 g5) ∧ W.cell? ⟨N, 7, none⟩ = some (.int .i64 g6) ∧ W.cell? ⟨N, 8, none⟩ = some (.int .i64 g7) ∧ Hid (GT w R M D r f xs v k x n s u N T g0 g1 g2 g3 g4 g5 g6 g7 W) := by
  obtain ⟨c0, c1, c2, c3, c4⟩ := h.box.five0
  obtain ⟨d0, d1, d2, d3, d4, d5, d6, d7, d8, -⟩ := h.cov.f9
  exact ⟨c0, c1, c2, c3, c4, d0, d1, d2, d3, d4, d5, d6, d7, d8, Lib.hid h⟩

theorem wrap_diff (a b : Int) (h0 : -9223372036854775808 ≤ a - b) (h1 : a - b ≤ 9223372036854775807) : IntKind.i64.wrap (IntKind.i64.wrap a - IntKind.i64.wrap b) = a - b := by
  rw [IntKind.wrap_i64, IntKind.wrap_i64, IntKind.wrap_i64]
  omega

def GPost (z d : Int) (R M D : Nat) (r f : Int) (xs : List Int) (v : Value) (k x n u : Int) (w : World) (e : Ending) (w' : World) : Prop := e = .returned (.tuple #[.int .i64 z, .int .i64 d]) ∧ TF R M D r f xs v k x n u w' ∧ But M w w'

end Go.Proofs.YtdlfofdibooidaaGreat

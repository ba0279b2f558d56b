/- Policies: what a tariff of the program holds, the cover of a policy. (Written by wip/gen/poc.py.) -/
import Derived.Test.YtnclncglmnbelaaGreatPok
import Derived.Test.YtnclncglmnbelaaGreatAsi
import Derived.Deep.Cut
import Derived.Deep.CutRange
import Derived.Deep.CutBlock
namespace Go.Proofs.YtnclncglmnbelaaGreat
open Go.ChangeShapes Go.WideShapes Go.ChangeAt Go.RowKit
open Go.ChangeMaps (setBlock heap_setBlock_same heap_setBlock_other)
set_option linter.unusedVariables false
set_option maxRecDepth 100000

/-- a tariff in block D: its columns in block R, its map in block M -/
structure TF (R M D : Nat) (r f : Int) (xs : List Int) (v : Value) (k x n u : Int) (W : World) : Prop where
  t0 : W.cell? ⟨D, 0, none⟩ = some (.pointer (some ⟨R, 0, none⟩))
  t1 : W.cell? ⟨D, 1, none⟩ = some (.map (some M))
  cols : Cols W R r f xs v
  map : ∃ es c, W.heap[M]? = some (.map es c) ∧ PmOk (netN r f xs k x n) k x n u es

theorem mapB_lt {w : World} {B : Nat} {es : Array MapEntry} {c : Nat} (h : w.heap[B]? = some (.map es c)) : B < w.heap.size := by
  by_cases hb : B < w.heap.size
  · exact hb
  · have : w.heap[B]? = none := by simp; omega
    rw [this] at h; cases h

theorem TF.on {R M D : Nat} {r f : Int} {xs : List Int} {v : Value} {k x n u : Int} {W W' : World} (h : TF R M D r f xs v k x n u W) (hb : Below W.heap.size W W') : TF R M D r f xs v k x n u W' := by
  obtain ⟨es, c, hm, hk⟩ := h.map
  exact ⟨keep2 hb h.t0, keep2 hb h.t1, h.cols.on hb, es, c, (hb.block M (mapB_lt hm)).trans hm, hk⟩

theorem TF.drew {R M D : Nat} {r f : Int} {xs : List Int} {v : Value} {k x n u : Int} {W : World} (h : TF R M D r f xs v k x n u W) : TF R M D r f xs v k x n u W.drew := h.on (Below.drew (Below.refl _ _))

/-- the cells of a block lie in no map -/
theorem cell_map {w : World} {p : Addr} {y : Value} {M : Nat} {es : Array MapEntry} {c : Nat} (h : w.cell? p = some y) (hm : w.heap[M]? = some (.map es c)) : p.block ≠ M := by
  rintro rfl
  unfold World.cell? at h
  rw [hm] at h
  simp at h

theorem But.keepM {M : Nat} {w w' : World} (h : But M w w') {es : Array MapEntry} {c : Nat} (hm : w.heap[M]? = some (.map es c)) {p : Addr} {y : Value} (hc : w.cell? p = some y) : w'.cell? p = some y :=
  (h.cell (block_lt hc) (cell_map hc hm)).trans hc

/-- while the cover of a policy is found -/
structure CW (w : World) (R D : Nat) (r f : Int) (xs : List Int) (v : Value) (k x n : Int) (W : World) : Prop where
  t0 : W.cell? ⟨D, 0, none⟩ = some (.pointer (some ⟨R, 0, none⟩))
  p0 : W.cell? ⟨w.heap.size, 0, none⟩ = some (.int .i64 k)
  p1 : W.cell? ⟨w.heap.size, 1, none⟩ = some (.int .i64 x)
  p2 : W.cell? ⟨w.heap.size, 2, none⟩ = some (.int .i64 n)
  cols : Cols W R r f xs v
  res : Q9 W (w.heap.size + 1) .nilIface 0 0 0 0 0 0 0 0
  low : Below w.heap.size w W
  sz : w.heap.size + 2 ≤ W.heap.size
  dl : D < w.heap.size
  rl : R < w.heap.size

theorem CW.on {w : World} {R D : Nat} {r f : Int} {xs : List Int} {v : Value} {k x n : Int} {W W' : World} (h : CW w R D r f xs v k x n W) (hb : Below W.heap.size W W') : CW w R D r f xs v k x n W' :=
  ⟨keep2 hb h.t0, keep2 hb h.p0, keep2 hb h.p1, keep2 hb h.p2, h.cols.on hb, h.res.on hb, h.low.trans (hb.mono h.low.size), Nat.le_trans h.sz hb.size, h.dl, h.rl⟩

theorem CW.drew {w : World} {R D : Nat} {r f : Int} {xs : List Int} {v : Value} {k x n : Int} {W : World} (h : CW w R D r f xs v k x n W) : CW w R D r f xs v k x n W.drew := h.on (Below.drew (Below.refl _ _))

theorem sets9_far (W : World) (N : Nat) (V : Value) (y0 y1 y2 y3 y4 y5 y6 y7 : Int) (j : Nat) (h : j ≠ N) : (((((((((W.setCell ⟨N, 0, none⟩ (V)).setCell ⟨N, 1, none⟩ (.int .i64 y0)).setCell ⟨N, 2, none⟩ (.int .i64 y1)).setCell ⟨N, 3, none⟩ (.int .i64 y2)).setCell ⟨N, 4, none⟩ (.int .i64 y3)).setCell ⟨N, 5, none⟩ (.int .i64 y4)).setCell ⟨N, 6, none⟩ (.int .i64 y5)).setCell ⟨N, 7, none⟩ (.int .i64 y6)).setCell ⟨N, 8, none⟩ (.int .i64 y7)).heap[j]? = W.heap[j]? := by
  have e : ∀ (X : World) (i : Nat) (z : Value), (X.setCell ⟨N, i, none⟩ z).heap[j]? = X.heap[j]? := fun X i z => Below.heap_setCell _ _ _ _ h
  rw [e, e, e, e, e, e, e, e, e]

theorem CW.set9 {w : World} {R D : Nat} {r f : Int} {xs : List Int} {v : Value} {k x n : Int} {W : World} {N : Nat} {V : Value} {y0 y1 y2 y3 y4 y5 y6 y7 : Int} (h : CW w R D r f xs v k x n W) (hN : w.heap.size + 2 ≤ N) : CW w R D r f xs v k x n (((((((((W.setCell ⟨N, 0, none⟩ (V)).setCell ⟨N, 1, none⟩ (.int .i64 y0)).setCell ⟨N, 2, none⟩ (.int .i64 y1)).setCell ⟨N, 3, none⟩ (.int .i64 y2)).setCell ⟨N, 4, none⟩ (.int .i64 y3)).setCell ⟨N, 5, none⟩ (.int .i64 y4)).setCell ⟨N, 6, none⟩ (.int .i64 y5)).setCell ⟨N, 7, none⟩ (.int .i64 y6)).setCell ⟨N, 8, none⟩ (.int .i64 y7)) := by
  have far := sets9_far W N V y0 y1 y2 y3 y4 y5 y6 y7
  have hl : Below w.heap.size w (((((((((W.setCell ⟨N, 0, none⟩ (V)).setCell ⟨N, 1, none⟩ (.int .i64 y0)).setCell ⟨N, 2, none⟩ (.int .i64 y1)).setCell ⟨N, 3, none⟩ (.int .i64 y2)).setCell ⟨N, 4, none⟩ (.int .i64 y3)).setCell ⟨N, 5, none⟩ (.int .i64 y4)).setCell ⟨N, 6, none⟩ (.int .i64 y5)).setCell ⟨N, 7, none⟩ (.int .i64 y6)).setCell ⟨N, 8, none⟩ (.int .i64 y7)) := (((((((((h.low.setCell (p := ⟨N, 0, none⟩) (by show w.heap.size ≤ N; omega) _).setCell (p := ⟨N, 1, none⟩) (by show w.heap.size ≤ N; omega) _).setCell (p := ⟨N, 2, none⟩) (by show w.heap.size ≤ N; omega) _).setCell (p := ⟨N, 3, none⟩) (by show w.heap.size ≤ N; omega) _).setCell (p := ⟨N, 4, none⟩) (by show w.heap.size ≤ N; omega) _).setCell (p := ⟨N, 5, none⟩) (by show w.heap.size ≤ N; omega) _).setCell (p := ⟨N, 6, none⟩) (by show w.heap.size ≤ N; omega) _).setCell (p := ⟨N, 7, none⟩) (by show w.heap.size ≤ N; omega) _).setCell (p := ⟨N, 8, none⟩) (by show w.heap.size ≤ N; omega) _)
  have hd := h.dl
  have hr := h.rl
  exact ⟨(World.cell?_of_block (w := W) (a := ⟨D, 0, none⟩) (far D (by omega))).trans h.t0, (World.cell?_of_block (w := W) (a := ⟨w.heap.size, 0, none⟩) (far w.heap.size (by omega))).trans h.p0, (World.cell?_of_block (w := W) (a := ⟨w.heap.size, 1, none⟩) (far w.heap.size (by omega))).trans h.p1, (World.cell?_of_block (w := W) (a := ⟨w.heap.size, 2, none⟩) (far w.heap.size (by omega))).trans h.p2, h.cols.same (far R (by omega)), h.res.same (far _ (by omega)), hl, by have := h.sz; simpa [World.setCell] using this, hd, hr⟩

theorem cwS {w : World} {R D : Nat} {r f : Int} {xs : List Int} {v : Value} {k x n : Int} {W : World} (h : CW w R D r f xs v k x n W) :
    W.cell? ⟨D, 0, none⟩ = some (.pointer (some ⟨R, 0, none⟩)) ∧ W.cell? ⟨w.heap.size, 0, none⟩ = some (.int .i64 k) ∧ W.cell? ⟨w.heap.size, 1, none⟩ = some (.int .i64 x) ∧ W.cell? ⟨w.heap.size, 2, none⟩ = some (.int .i64 n) ∧ Hid (CW w R D r f xs v k x n W) := ⟨h.t0, h.p0, h.p1, h.p2, Lib.hid h⟩

theorem cq_new {W w' : World} {n : Nat} (hb : Below (W.alloc (.cells #[.nilIface, .int .i64 0, .int .i64 0, .int .i64 0, .int .i64 0, .int .i64 0, .int .i64 0, .int .i64 0, .int .i64 0] 72)).heap.size (W.alloc (.cells #[.nilIface, .int .i64 0, .int .i64 0, .int .i64 0, .int .i64 0, .int .i64 0, .int .i64 0, .int .i64 0, .int .i64 0] 72)) w') (hs : n ≤ W.heap.size) : Q9 w' W.heap.size .nilIface 0 0 0 0 0 0 0 0 ∧ n ≤ W.heap.size ∧ n ≤ w'.heap.size :=
  ⟨(q9_new W .nilIface 0 0 0 0 0 0 0 0).on hb, hs, Nat.le_trans (Nat.le_trans hs (by simp)) hb.size⟩

theorem cq_newD {W w' : World} {n : Nat} (hb : Below (W.alloc (.cells #[.nilIface, .int .i64 0, .int .i64 0, .int .i64 0, .int .i64 0, .int .i64 0, .int .i64 0, .int .i64 0, .int .i64 0] 72)).drew.heap.size (W.alloc (.cells #[.nilIface, .int .i64 0, .int .i64 0, .int .i64 0, .int .i64 0, .int .i64 0, .int .i64 0, .int .i64 0, .int .i64 0] 72)).drew w') (hs : n ≤ W.heap.size) : Q9 w' W.heap.size .nilIface 0 0 0 0 0 0 0 0 ∧ n ≤ W.heap.size ∧ n ≤ w'.heap.size :=
  cq_new (w' := w') ⟨hb.os, hb.tape, hb.output, hb.size, hb.block⟩ hs

theorem cq_old {W w' : World} {N n : Nat} (hq : Q9 W N .nilIface 0 0 0 0 0 0 0 0) (hb : Below W.heap.size W w') (hs : n ≤ W.heap.size) : Q9 w' N .nilIface 0 0 0 0 0 0 0 0 ∧ n ≤ w'.heap.size := ⟨hq.on hb, Nat.le_trans hs hb.size⟩

theorem CW.new (w : World) (R M D : Nat) (r f : Int) (xs : List Int) (v : Value) (k x n s u : Int) (h : TF R M D r f xs v k x n u w) : CW w R D r f xs v k x n ((w.alloc (.cells #[.int .i64 k, .int .i64 x, .int .i64 n, .int .i64 s, .int .i64 u] 30)).alloc (.cells #[.nilIface, .int .i64 0, .int .i64 0, .int .i64 0, .int .i64 0, .int .i64 0, .int .i64 0, .int .i64 0, .int .i64 0] 72)) := by
  have h1 := Bx.new w [.int .i64 k, .int .i64 x, .int .i64 n, .int .i64 s, .int .i64 u] 30
  have hb1 := box_b w (.cells #[.int .i64 k, .int .i64 x, .int .i64 n, .int .i64 s, .int .i64 u] 30)
  have hb2 := box_b (w.alloc (.cells #[.int .i64 k, .int .i64 x, .int .i64 n, .int .i64 s, .int .i64 u] 30)) (.cells #[.nilIface, .int .i64 0, .int .i64 0, .int .i64 0, .int .i64 0, .int .i64 0, .int .i64 0, .int .i64 0, .int .i64 0] 72)
  have h2 := q9_new (w.alloc (.cells #[.int .i64 k, .int .i64 x, .int .i64 n, .int .i64 s, .int .i64 u] 30)) .nilIface 0 0 0 0 0 0 0 0
  rw [World.size_alloc] at h2
  obtain ⟨c0, c1, c2, -, -⟩ := (h1.on hb2).five0
  have hT := (h.on hb1).on hb2
  exact ⟨hT.t0, c0, c1, c2, hT.cols, h2, hb1.trans (hb2.mono (by simp)), by simp, block_lt h.t0, h.cols.lt⟩

set_option maxHeartbeats 8000000 in
theorem icov_any (R M D : Nat) (r f : Int) (xs : List Int) (v : Value) (k x n s u : Int) (w : World) (h : TF R M D r f xs v k x n u w) (hp : poB r f xs k x n s u = true) :
    Calls Tryz.prog 69 #[.pointer (some ⟨D, 0, none⟩), .agg #[.int .i64 k, .int .i64 x, .int .i64 n, .int .i64 s, .int .i64 u]] w fun e w' => e = .returned (cvr (.iface (kT k) (.agg #[])) (cD r xs (x - f).toNat) (cN r xs (x - f).toNat) (cC r xs (x - f).toNat) (cM r xs (x - f).toNat) (cD r xs (x + n - f).toNat) (cN r xs (x + n - f).toNat) (cC r xs (x + n - f).toNat) (cM r xs (x + n - f).toNat)) ∧ Below w.heap.size w w' := by
  have hz := (poB_iff.1 hp).1
  unfold asE at hz
  obtain ⟨-, ⟨hk, -⟩, ht, -, ⟨x0, -⟩, ⟨n0, -⟩, xn, hd⟩ := as_in hz
  obtain ⟨f0, f1⟩ := ht.1
  have CA : Hid (∀ W, Calls Tryz.prog 96 #[.int .i64 k] W fun e w' => e = .returned (.iface (kT k) (.agg #[])) ∧ Below W.heap.size W w') :=
    Lib.hid (fun W => (aof_any k W).mono (fun e w' he => ⟨by rw [he.1, kV_in hk], by rw [← he.2]; exact Below.refl _ _⟩))
  have CV : Hid (∀ W, Hid (CW w R D r f xs v k x n W) → Calls Tryz.prog 102 #[.pointer (some ⟨R, 0, none⟩), .iface (kT k) (.agg #[]), .int .i64 x, .int .i64 n] W (CvPost (.iface (kT k) (.agg #[])) (cD r xs (x - f).toNat) (cN r xs (x - f).toNat) (cC r xs (x - f).toNat) (cM r xs (x - f).toNat) (cD r xs (x + n - f).toNat) (cN r xs (x + n - f).toNat) (cC r xs (x + n - f).toNat) (cM r xs (x + n - f).toNat) 0 W)) :=
    Lib.hid (fun W hW => cva_any (kT k) (.agg #[]) r f xs v R x n W hW.out.cols f0 x0 n0 xn hd)
  have HC := Lib.hid (CW.new w R M D r f xs v k x n s u h)
  obtain ⟨g0, hg0⟩ : ∃ y_, cD r xs (x - f).toNat = y_ := ⟨_, rfl⟩
  obtain ⟨g1, hg1⟩ : ∃ y_, cN r xs (x - f).toNat = y_ := ⟨_, rfl⟩
  obtain ⟨g2, hg2⟩ : ∃ y_, cC r xs (x - f).toNat = y_ := ⟨_, rfl⟩
  obtain ⟨g3, hg3⟩ : ∃ y_, cM r xs (x - f).toNat = y_ := ⟨_, rfl⟩
  rw [hg0, hg1, hg2, hg3] at CV ⊢
  clear hg0 hg1 hg2 hg3
  obtain ⟨g4, hg4⟩ : ∃ y_, cD r xs (x + n - f).toNat = y_ := ⟨_, rfl⟩
  obtain ⟨g5, hg5⟩ : ∃ y_, cN r xs (x + n - f).toNat = y_ := ⟨_, rfl⟩
  obtain ⟨g6, hg6⟩ : ∃ y_, cC r xs (x + n - f).toNat = y_ := ⟨_, rfl⟩
  obtain ⟨g7, hg7⟩ : ∃ y_, cM r xs (x + n - f).toNat = y_ := ⟨_, rfl⟩
  rw [hg4, hg5, hg6, hg7] at CV ⊢
  clear hg4 hg5 hg6 hg7
  obtain ⟨T, hT⟩ : ∃ y_, kT k = y_ := ⟨_, rfl⟩
  rw [hT] at CA CV ⊢
  unfold CvPost cvr at CV
  unfold cvr
  clear hT hz hk ht x0 n0 xn hd f0 f1 hp h
  go_enter Tryz.func69, Tryz.ntmps69
  go_upto_region 1 with fail
  obtain ⟨W0, hW0⟩ : ∃ y_, (w.alloc (.cells #[.int .i64 k, .int .i64 x, .int .i64 n, .int .i64 s, .int .i64 u] 30)).alloc (.cells #[.nilIface, .int .i64 0, .int .i64 0, .int .i64 0, .int .i64 0, .int .i64 0, .int .i64 0, .int .i64 0, .int .i64 0] 72) = y_ := ⟨_, rfl⟩
  rw [hW0] at HC ⊢
  clear hW0
  go_cut [5] from 8 to 21 (fun p wx => ∃ N, p = .pointer (some ⟨N, 0, none⟩) ∧ Hid (CW w R D r f xs v k x n wx ∧ Q9 wx N (.iface T (.agg #[])) g0 g1 g2 g3 g4 g5 g6 g7))
  case first =>
    obtain ⟨k0, k1, k2, k3, _⟩ := cwS HC.out
    have hszD : w.heap.size + 2 ≤ W0.heap.size := HC.out.sz
    have hsz : w.heap.size + 2 ≤ W0.drew.heap.size := hszD
    have hq := True.intro
    have hsT := True.intro
    go_region_held3 (fun W9 => W9.cell? ⟨D, 0, none⟩ = some (.pointer (some ⟨R, 0, none⟩)) ∧ W9.cell? ⟨w.heap.size, 0, none⟩ = some (.int .i64 k) ∧ W9.cell? ⟨w.heap.size, 1, none⟩ = some (.int .i64 x) ∧ W9.cell? ⟨w.heap.size, 2, none⟩ = some (.int .i64 n) ∧ Hid (CW w R D r f xs v k x n W9))
      (first
        | (with_reducible exact cwS (CW.set9 HSp.out hsT))
        | (go_split_ands; with_reducible exact cwS (Hid.out (by with_reducible assumption)))
        | (go_split_ands; with_reducible exact cwS (CW.on (Hid.out (by with_reducible assumption)) hb))
        | (go_split_ands; with_reducible exact cwS (CW.on (Hid.out (by with_reducible assumption)) (Below.drew (Below.refl _ _))))
        | (go_split_ands; with_reducible exact cwS (CW.on (Hid.out (by with_reducible assumption)) (box_b _ _)))
        | (go_split_ands; with_reducible exact cwS (CW.on HSp.out (box_b _ _)))
        | fail)
      (first
        | (go_split_ands; go_at_call 96; ((with_reducible refine (CA.out _).mono ?_); rintro e w' ⟨rfl, hb⟩; (first | ((with_reducible have hr := cq_newD hb hszD); obtain ⟨hq, hsT, hsz⟩ := hr; obtain ⟨n0, n1, n2, n3, n4, n5, n6, n7, n8, m0, m1, m2, m3, m4, m5, m6, m7, m8⟩ := hq.f9) | ((with_reducible have hr := cq_new hb hsz); obtain ⟨hq, hsT, hsz⟩ := hr; obtain ⟨n0, n1, n2, n3, n4, n5, n6, n7, n8, m0, m1, m2, m3, m4, m5, m6, m7, m8⟩ := hq.f9) | ((with_reducible have hr := cq_old hq hb hsz); obtain ⟨hq, hsz⟩ := hr; clear n0 n1 n2 n3 n4 n5 n6 n7 n8 m0 m1 m2 m3 m4 m5 m6 m7 m8; obtain ⟨n0, n1, n2, n3, n4, n5, n6, n7, n8, m0, m1, m2, m3, m4, m5, m6, m7, m8⟩ := hq.f9) | (have hsz := Nat.le_trans hsz hb.size))))
        | (go_split_ands; go_at_call 102; ((with_reducible refine (CV.out _ (by with_reducible assumption)).mono ?_); rintro e w' ⟨rfl, hb⟩; have HSp : Hid (CW w R D r f xs v k x n w') := Lib.hid (CW.on (Hid.out (by with_reducible assumption)) hb); (first | ((with_reducible have hr := cq_newD hb hszD); obtain ⟨hq, hsT, hsz⟩ := hr; obtain ⟨n0, n1, n2, n3, n4, n5, n6, n7, n8, m0, m1, m2, m3, m4, m5, m6, m7, m8⟩ := hq.f9) | ((with_reducible have hr := cq_new hb hsz); obtain ⟨hq, hsT, hsz⟩ := hr; obtain ⟨n0, n1, n2, n3, n4, n5, n6, n7, n8, m0, m1, m2, m3, m4, m5, m6, m7, m8⟩ := hq.f9) | ((with_reducible have hr := cq_old hq hb hsz); obtain ⟨hq, hsz⟩ := hr; clear n0 n1 n2 n3 n4 n5 n6 n7 n8 m0 m1 m2 m3 m4 m5 m6 m7 m8; obtain ⟨n0, n1, n2, n3, n4, n5, n6, n7, n8, m0, m1, m2, m3, m4, m5, m6, m7, m8⟩ := hq.f9) | (have hsz := Nat.le_trans hsz hb.size))))
        | fail)
    all_goals
      go_split_ands
      go_wp2_with fail
      go_meet
      case rel =>
        first
          | (with_reducible exact ⟨_, rfl, Lib.hid ⟨Hid.out (by with_reducible assumption), hq.set9 _ _ _ _ _ _ _ _ _⟩⟩)
          | (with_reducible exact ⟨_, rfl, Lib.hid ⟨Hid.out (by with_reducible assumption), q9_new _ _ _ _ _ _ _ _ _ _⟩⟩)
          | fail
  case rest =>
    obtain ⟨N, rfl, HQ⟩ := hcut
    obtain ⟨n0, n1, n2, n3, n4, n5, n6, n7, n8, m0, m1, m2, m3, m4, m5, m6, m7, m8⟩ := HQ.out.2.f9
    obtain ⟨c0, c1, c2, c3, c4, c5, c6, c7, c8, z0, z1, z2, z3, z4, z5, z6, z7, z8⟩ := HQ.out.1.res.f9
    go_wp2_with fail
    refine bodyPost_ret (v := .agg #[.iface T (.agg #[]), .int .i64 g0, .int .i64 g1, .int .i64 g2, .int .i64 g3, .int .i64 g4, .int .i64 g5, .int .i64 g6, .int .i64 g7]) ?_ rfl ⟨rfl, ?_⟩
    · simp [results, Tryz.results69, go_sem, c0, c1, c2, c3, c4, c5, c6, c7, c8]
    · exact (((((((((HQ.out.1.low.setCell (p := ⟨w.heap.size + 1, 0, none⟩) (by simp) _).setCell (p := ⟨w.heap.size + 1, 1, none⟩) (by simp) _).setCell (p := ⟨w.heap.size + 1, 2, none⟩) (by simp) _).setCell (p := ⟨w.heap.size + 1, 3, none⟩) (by simp) _).setCell (p := ⟨w.heap.size + 1, 4, none⟩) (by simp) _).setCell (p := ⟨w.heap.size + 1, 5, none⟩) (by simp) _).setCell (p := ⟨w.heap.size + 1, 6, none⟩) (by simp) _).setCell (p := ⟨w.heap.size + 1, 7, none⟩) (by simp) _).setCell (p := ⟨w.heap.size + 1, 8, none⟩) (by simp) _)

end Go.Proofs.YtnclncglmnbelaaGreat

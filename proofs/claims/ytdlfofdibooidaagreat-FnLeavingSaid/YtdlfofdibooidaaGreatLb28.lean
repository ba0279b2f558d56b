/- Merged: Rvd, Poe. -/
import Derived.Test.YtdlfofdibooidaaGreatLb12
import Derived.Test.YtdlfofdibooidaaGreatLb27

/- Reserves: the program's years of a course. (Written by wip/gen/rvd.py.) -/
namespace Go.Proofs.YtdlfofdibooidaaGreat
open Go.ChangeShapes Go.WideShapes Go.ChangeAt Go.RowKit
open Go.ChangeMaps (setBlock heap_setBlock_same heap_setBlock_other)
set_option linter.unusedVariables false
set_option maxRecDepth 100000

/-- a year of the course in block C; no year -/
def yrV (C : Nat) (r f : Int) (xs : List Int) (k x n j : Int) : Value := .agg #[.pointer (some ⟨C, 0, none⟩), .iface (kT k) (.agg #[]), .int .i64 (cD r xs (x + j - f).toNat), .int .i64 (cN r xs (x + j - f).toNat), .int .i64 (cC r xs (x + j - f).toNat), .int .i64 (cM r xs (x + j - f).toNat), .int .i64 (cD r xs (x + j + lfN k n j - f).toNat), .int .i64 (cN r xs (x + j + lfN k n j - f).toNat), .int .i64 (cC r xs (x + j + lfN k n j - f).toNat), .int .i64 (cM r xs (x + j + lfN k n j - f).toNat)]

def yrZ : Value := .agg #[.pointer none, .nilIface, .int .i64 0, .int .i64 0, .int .i64 0, .int .i64 0, .int .i64 0, .int .i64 0, .int .i64 0, .int .i64 0]

def YrPost (y : Value) (E : Int) (w : World) (e : Ending) (w' : World) : Prop := e = .returned (.tuple #[y, .int .i64 E]) ∧ Below w.heap.size w w'

/-- while a year is found: the course, the box of the result -/
structure IW (w : World) (C R : Nat) (r f : Int) (xs : List Int) (v : Value) (k x n s u : Int) (W : World) : Prop where
  crs : Crs C R r f xs v k x n s u W
  box : Bx W w.heap.size [.pointer none, .nilIface, .int .i64 0, .int .i64 0, .int .i64 0, .int .i64 0, .int .i64 0, .int .i64 0, .int .i64 0, .int .i64 0]
  low : Below w.heap.size w W
  sz : w.heap.size + 1 ≤ W.heap.size
  cl : C < w.heap.size
  rl : R < w.heap.size

theorem IW.on {w : World} {C R : Nat} {r f : Int} {xs : List Int} {v : Value} {k x n s u : Int} {W W' : World} (h : IW w C R r f xs v k x n s u W) (hb : Below W.heap.size W W') : IW w C R r f xs v k x n s u W' := ⟨h.crs.on hb, h.box.on hb, h.low.trans (hb.mono h.low.size), Nat.le_trans h.sz hb.size, h.cl, h.rl⟩

theorem IW.drew {w : World} {C R : Nat} {r f : Int} {xs : List Int} {v : Value} {k x n s u : Int} {W : World} (h : IW w C R r f xs v k x n s u W) : IW w C R r f xs v k x n s u W.drew := h.on (Below.drew (Below.refl _ _))

theorem IW.new {w : World} {C R : Nat} {r f : Int} {xs : List Int} {v : Value} {k x n s u : Int} (h : Crs C R r f xs v k x n s u w) : IW w C R r f xs v k x n s u (w.alloc (.cells #[.pointer none, .nilIface, .int .i64 0, .int .i64 0, .int .i64 0, .int .i64 0, .int .i64 0, .int .i64 0, .int .i64 0, .int .i64 0] 89)) :=
  ⟨h.on (box_b _ _), Bx.new w [.pointer none, .nilIface, .int .i64 0, .int .i64 0, .int .i64 0, .int .i64 0, .int .i64 0, .int .i64 0, .int .i64 0, .int .i64 0] 89, box_b _ _, by simp, h.b.lt, h.cols.lt⟩

theorem IW.set9 {w : World} {C R : Nat} {r f : Int} {xs : List Int} {v : Value} {k x n s u : Int} {W : World} {N : Nat} {V : Value} {y0 y1 y2 y3 y4 y5 y6 y7 : Int} (h : IW w C R r f xs v k x n s u W) (hN : w.heap.size + 1 ≤ N) : IW w C R r f xs v k x n s u (((((((((W.setCell ⟨N, 0, none⟩ (V)).setCell ⟨N, 1, none⟩ (.int .i64 y0)).setCell ⟨N, 2, none⟩ (.int .i64 y1)).setCell ⟨N, 3, none⟩ (.int .i64 y2)).setCell ⟨N, 4, none⟩ (.int .i64 y3)).setCell ⟨N, 5, none⟩ (.int .i64 y4)).setCell ⟨N, 6, none⟩ (.int .i64 y5)).setCell ⟨N, 7, none⟩ (.int .i64 y6)).setCell ⟨N, 8, none⟩ (.int .i64 y7)) := by
  have far := sets9_far W N V y0 y1 y2 y3 y4 y5 y6 y7
  have hl : Below w.heap.size w (((((((((W.setCell ⟨N, 0, none⟩ (V)).setCell ⟨N, 1, none⟩ (.int .i64 y0)).setCell ⟨N, 2, none⟩ (.int .i64 y1)).setCell ⟨N, 3, none⟩ (.int .i64 y2)).setCell ⟨N, 4, none⟩ (.int .i64 y3)).setCell ⟨N, 5, none⟩ (.int .i64 y4)).setCell ⟨N, 6, none⟩ (.int .i64 y5)).setCell ⟨N, 7, none⟩ (.int .i64 y6)).setCell ⟨N, 8, none⟩ (.int .i64 y7)) := (((((((((h.low.setCell (p := ⟨N, 0, none⟩) (by show w.heap.size ≤ N; omega) _).setCell (p := ⟨N, 1, none⟩) (by show w.heap.size ≤ N; omega) _).setCell (p := ⟨N, 2, none⟩) (by show w.heap.size ≤ N; omega) _).setCell (p := ⟨N, 3, none⟩) (by show w.heap.size ≤ N; omega) _).setCell (p := ⟨N, 4, none⟩) (by show w.heap.size ≤ N; omega) _).setCell (p := ⟨N, 5, none⟩) (by show w.heap.size ≤ N; omega) _).setCell (p := ⟨N, 6, none⟩) (by show w.heap.size ≤ N; omega) _).setCell (p := ⟨N, 7, none⟩) (by show w.heap.size ≤ N; omega) _).setCell (p := ⟨N, 8, none⟩) (by show w.heap.size ≤ N; omega) _)
  have hc := h.cl
  have hr := h.rl
  exact ⟨⟨h.crs.b.same (far C (by omega)), h.crs.cols.same (far R (by omega))⟩, h.box.same (far _ (by omega)), hl, by have := h.sz; simpa [World.setCell] using this, hc, hr⟩

theorem iwS {w : World} {C R : Nat} {r f : Int} {xs : List Int} {v : Value} {k x n s u : Int} {W : World} (h : IW w C R r f xs v k x n s u W) : W.cell? ⟨C, 0, none⟩ = some (.pointer (some ⟨R, 0, none⟩)) ∧ W.cell? ⟨C, 2, none⟩ = some (.int .i64 x) ∧ W.cell? ⟨C, 7, none⟩ = some (.iface (kT k) (.agg #[])) ∧ Hid (IW w C R r f xs v k x n s u W) := by
  have hb := h.crs.b
  unfold crV at hb
  obtain ⟨c0, -, c2, -, -, -, -, c7, -⟩ := hb.c17
  exact ⟨c0, c2, c7, Lib.hid h⟩

theorem Crs.dur {C R : Nat} {r f : Int} {xs : List Int} {k x n s u : Int} {v : Value} {W : World} (h : Crs C R r f xs v k x n s u W) : W.cell? ⟨C, 16, none⟩ = some (.int .i64 (durN f xs k x n)) := by
  have hb := h.b
  unfold crV at hb
  obtain ⟨-, -, -, -, -, -, -, -, -, -, -, -, -, -, -, -, c⟩ := hb.c17
  exact c

theorem Crs.years {C R : Nat} {r f : Int} {xs : List Int} {k x n s u : Int} {v : Value} {W : World} (h : Crs C R r f xs v k x n s u W) : W.cell? ⟨C, 3, none⟩ = some (.int .i64 n) := by
  have hb := h.b
  unfold crV at hb
  obtain ⟨-, -, -, c, -⟩ := hb.c17
  exact c

theorem build_yz (W : World) : (Instr.build 89 #[]).run Tryz.prog W = .ok (.agg #[.pointer none, .nilIface, .int .i64 0, .int .i64 0, .int .i64 0, .int .i64 0, .int .i64 0, .int .i64 0, .int .i64 0, .int .i64 0]) W := by kernel_rfl

theorem build_yr (C : Nat) (T : TypeId) (z : Value) (g0 g1 g2 g3 g4 g5 g6 g7 : Int) (W : World) : (Instr.build 89 #[(0, .pointer (some ⟨C, 0, none⟩)), (1, .agg #[.iface T z, .int .i64 g0, .int .i64 g1, .int .i64 g2, .int .i64 g3, .int .i64 g4, .int .i64 g5, .int .i64 g6, .int .i64 g7])]).run Tryz.prog W = .ok (.agg #[.pointer (some ⟨C, 0, none⟩), .iface T z, .int .i64 g0, .int .i64 g1, .int .i64 g2, .int .i64 g3, .int .i64 g4, .int .i64 g5, .int .i64 g6, .int .i64 g7]) W := by kernel_rfl

set_option maxHeartbeats 1000000 in
/-- no such year -/
theorem iin_out (C R : Nat) (r f : Int) (xs : List Int) (v : Value) (k x n s u j : Int) (w : World) (h : Crs C R r f xs v k x n s u w) (hp : poB r f xs k x n s u = true) (hi : inB j 0 (durN f xs k x n - 1) = false) :
    Calls Tryz.prog 94 #[.pointer (some ⟨C, 0, none⟩), .int .i64 j] w (YrPost yrZ 2 w) := by
  have hd := dur_pos hp
  have q1 : IntKind.i64.wrap (durN f xs k x n - 1) = durN f xs k x n - 1 := IntWalk.i64_in _ (by omega)
  have c16 := (IW.new h).crs.dur
  unfold YrPost yrZ
  obtain ⟨E, hE⟩ : ∃ y_, durN f xs k x n = y_ := ⟨_, rfl⟩
  rw [hE] at q1 hi c16
  have hbz := build_yz
  clear hE hd hp h
  go_enter Tryz.func94, Tryz.ntmps94
  go_wp2_with (go_at_call 87; refine (within_any _ _ _ _).mono ?_; rintro e w' ⟨rfl, rfl⟩)
  refine bodyPost_ret (v := .tuple #[.agg #[.pointer none, .nilIface, .int .i64 0, .int .i64 0, .int .i64 0, .int .i64 0, .int .i64 0, .int .i64 0, .int .i64 0, .int .i64 0], .int .i64 2]) ?_ rfl ⟨rfl, box_b _ _⟩
  simp [results, Tryz.results94, go_sem]

set_option maxHeartbeats 16000000 in
theorem iin_yes (C R : Nat) (r f : Int) (xs : List Int) (v : Value) (k x n s u j : Int) (w : World) (h : Crs C R r f xs v k x n s u w) (hp : poB r f xs k x n s u = true) (hi : inB j 0 (durN f xs k x n - 1) = true) (hd : dvN r f xs x j ≠ 0) :
    Calls Tryz.prog 94 #[.pointer (some ⟨C, 0, none⟩), .int .i64 j] w (YrPost (yrV C r f xs k x n j) 0 w) := by
  have hdp := dur_pos hp
  have q1 : IntKind.i64.wrap (durN f xs k x n - 1) = durN f xs k x n - 1 := IntWalk.i64_in _ (by omega)
  have hj := (inB_iff _ _ _).1 hi
  obtain ⟨ht, ⟨r0, r1⟩, ⟨hk, hkl⟩, ⟨l0, l1⟩, ⟨y0, y1, y2⟩, ⟨x0, x1⟩, ⟨n0, n1⟩, f0, f1⟩ := rv_in hp hj
  have q2 : IntKind.i64.wrap (x + j) = x + j := IntWalk.i64_in _ (by omega)
  have HC := Lib.hid (IW.new h)
  have CV : Hid (∀ W, Hid (IW w C R r f xs v k x n s u W) → Calls Tryz.prog 68 #[.pointer (some ⟨R, 0, none⟩), .iface (kT k) (.agg #[]), .int .i64 (x + j), .int .i64 (lfN k n j)] W (CvPost (.iface (kT k) (.agg #[])) (cD r xs (x + j - f).toNat) (cN r xs (x + j - f).toNat) (cC r xs (x + j - f).toNat) (cM r xs (x + j - f).toNat) (cD r xs (x + j + lfN k n j - f).toNat) (cN r xs (x + j + lfN k n j - f).toNat) (cC r xs (x + j + lfN k n j - f).toNat) (cM r xs (x + j + lfN k n j - f).toNat) 0 W)) :=
    Lib.hid (fun W hW => cva_any (kT k) (.agg #[]) r f xs v R (x + j) (lfN k n j) W hW.out.crs.cols f0 y0 l0 y1 hd)
  have c16 := HC.out.crs.dur
  have c3 := HC.out.crs.years
  have hU : (n - j < 0 ∧ lfN k n j = 0) ∨ (n - j = 0 ∧ lfN k n j = 0) ∨ (0 < n - j ∧ lfN k n j = n - j) := by
    have hkn : k = 0 ↔ n = 0 := by
      have hz := (poB_iff.1 hp).1
      unfold asE at hz
      exact (as_in hz).2.1.2
    unfold lfN at l0 hkl ⊢
    by_cases h0 : k = 0
    · rw [if_pos h0]; have := hkn.1 h0; omega
    · rw [if_neg h0] at hkl l0 ⊢
      have : ¬ n - j = 0 := fun e => h0 (hkl.2 e)
      omega
  have hmx : max (wrap64 (n - j)) 0 = lfN k n j := by
    rw [IntWalk.wrap64_in _ (by omega)]
    omega
  obtain ⟨L, hL⟩ : ∃ y_, lfN k n j = y_ := ⟨_, rfl⟩
  rw [hL] at hmx
  obtain ⟨E, hE⟩ : ∃ y_, durN f xs k x n = y_ := ⟨_, rfl⟩
  rw [hE] at q1 hi c16
  unfold YrPost yrV
  rw [hL] at CV ⊢
  obtain ⟨g0, hg0⟩ : ∃ y_, cD r xs (x + j - f).toNat = y_ := ⟨_, rfl⟩
  obtain ⟨g1, hg1⟩ : ∃ y_, cN r xs (x + j - f).toNat = y_ := ⟨_, rfl⟩
  obtain ⟨g2, hg2⟩ : ∃ y_, cC r xs (x + j - f).toNat = y_ := ⟨_, rfl⟩
  obtain ⟨g3, hg3⟩ : ∃ y_, cM r xs (x + j - f).toNat = y_ := ⟨_, rfl⟩
  rw [hg0, hg1, hg2, hg3] at CV ⊢
  clear hg0 hg1 hg2 hg3
  obtain ⟨g4, hg4⟩ : ∃ y_, cD r xs (x + j + L - f).toNat = y_ := ⟨_, rfl⟩
  obtain ⟨g5, hg5⟩ : ∃ y_, cN r xs (x + j + L - f).toNat = y_ := ⟨_, rfl⟩
  obtain ⟨g6, hg6⟩ : ∃ y_, cC r xs (x + j + L - f).toNat = y_ := ⟨_, rfl⟩
  obtain ⟨g7, hg7⟩ : ∃ y_, cM r xs (x + j + L - f).toNat = y_ := ⟨_, rfl⟩
  rw [hg4, hg5, hg6, hg7] at CV ⊢
  clear hg4 hg5 hg6 hg7
  have HIS : Hid (∀ W, IW w C R r f xs v k x n s u W → W.cell? ⟨C, 0, none⟩ = some (.pointer (some ⟨R, 0, none⟩)) ∧ W.cell? ⟨C, 2, none⟩ = some (.int .i64 x) ∧ W.cell? ⟨C, 7, none⟩ = some (.iface (kT k) (.agg #[])) ∧ Hid (IW w C R r f xs v k x n s u W)) := Lib.hid (fun W hW => iwS hW)
  obtain ⟨T, hT⟩ : ∃ y_, kT k = y_ := ⟨_, rfl⟩
  rw [hT] at CV HIS ⊢
  unfold CvPost cvr at CV
  have hbz := build_yz
  have hbu := build_yr C T (.agg #[]) g0 g1 g2 g3 g4 g5 g6 g7
  clear hT hE hL hU ht hk hkl l0 l1 y0 y1 y2 x0 x1 n0 n1 f0 f1 hp hj hdp hd h r0 r1
  ·
    go_enter Tryz.func94, Tryz.ntmps94
    go_upto_region 4 with (go_at_call 87; refine (within_any _ _ _ _).mono ?_; rintro e w' ⟨rfl, rfl⟩)
    obtain ⟨W0, hW0⟩ : ∃ y_, w.alloc (.cells #[.pointer none, .nilIface, .int .i64 0, .int .i64 0, .int .i64 0, .int .i64 0, .int .i64 0, .int .i64 0, .int .i64 0, .int .i64 0] 89) = y_ := ⟨_, rfl⟩
    rw [hW0] at HC c16 c3 ⊢
    clear hW0 c16 c3
    go_cut [7, 8] from 26 to 46 (fun p q wx => ∃ N, p = .pointer (some ⟨N, 0, none⟩) ∧ q = .int .i64 0 ∧ Hid (IW w C R r f xs v k x n s u wx ∧ Q9 wx N (.iface T (.agg #[])) g0 g1 g2 g3 g4 g5 g6 g7 ∧ w.heap.size + 1 ≤ N))
    case first =>
      obtain ⟨k0, k1, k2, _⟩ := HIS.out _ HC.out
      have hszD : w.heap.size + 1 ≤ W0.heap.size := HC.out.sz
      have hsz : w.heap.size + 1 ≤ W0.drew.heap.size := hszD
      have hq := True.intro
      have hsT := True.intro
      go_region_held3 (fun W9 => W9.cell? ⟨C, 0, none⟩ = some (.pointer (some ⟨R, 0, none⟩)) ∧ W9.cell? ⟨C, 2, none⟩ = some (.int .i64 x) ∧ W9.cell? ⟨C, 7, none⟩ = some (.iface (T) (.agg #[])) ∧ Hid (IW w C R r f xs v k x n s u W9))
        (first
          | (with_reducible exact HIS.out _ (IW.set9 HSp.out hsT))
          | (go_split_ands; with_reducible exact HIS.out _ (Hid.out (by with_reducible assumption)))
          | (go_split_ands; with_reducible exact HIS.out _ (IW.on (Hid.out (by with_reducible assumption)) hb))
          | (go_split_ands; with_reducible exact HIS.out _ (IW.on (Hid.out (by with_reducible assumption)) (Below.drew (Below.refl _ _))))
          | (go_split_ands; with_reducible exact HIS.out _ (IW.on (Hid.out (by with_reducible assumption)) (box_b _ _)))
          | (go_split_ands; with_reducible exact HIS.out _ (IW.on HSp.out (box_b _ _)))
          | fail)
        (first
          | (go_split_ands; go_at_call 68; ((with_reducible refine (CV.out _ (by with_reducible assumption)).mono ?_); rintro e w' ⟨rfl, hb⟩; have HSp : Hid (IW w C R r f xs v k x n s u w') := Lib.hid (IW.on (Hid.out (by with_reducible assumption)) hb); (first | ((with_reducible have hr := cq_newD hb hszD); obtain ⟨hq, hsT, hsz⟩ := hr; obtain ⟨n0, n1, n2, n3, n4, n5, n6, n7, n8, m0, m1, m2, m3, m4, m5, m6, m7, m8⟩ := hq.f9) | ((with_reducible have hr := cq_new hb hsz); obtain ⟨hq, hsT, hsz⟩ := hr; obtain ⟨n0, n1, n2, n3, n4, n5, n6, n7, n8, m0, m1, m2, m3, m4, m5, m6, m7, m8⟩ := hq.f9) | ((with_reducible have hr := cq_old hq hb hsz); obtain ⟨hq, hsz⟩ := hr; clear n0 n1 n2 n3 n4 n5 n6 n7 n8 m0 m1 m2 m3 m4 m5 m6 m7 m8; obtain ⟨n0, n1, n2, n3, n4, n5, n6, n7, n8, m0, m1, m2, m3, m4, m5, m6, m7, m8⟩ := hq.f9) | (have hsz := Nat.le_trans hsz hb.size))))
          | fail)
      all_goals
        go_split_ands
        go_wp2_with fail
        go_meet
        case rel =>
          first
            | (with_reducible exact ⟨_, rfl, rfl, Lib.hid ⟨Hid.out (by with_reducible assumption), hq.set9 _ _ _ _ _ _ _ _ _, hsT⟩⟩)
            | (with_reducible exact ⟨_, rfl, rfl, Lib.hid ⟨Hid.out (by with_reducible assumption), q9_new _ _ _ _ _ _ _ _ _ _, hsz⟩⟩)
            | fail
    case rest =>
      obtain ⟨N, rfl, rfl, HQ⟩ := hcut
      obtain ⟨n0, n1, n2, n3, n4, n5, n6, n7, n8, m0, m1, m2, m3, m4, m5, m6, m7, m8⟩ := HQ.out.2.1.f9
      obtain ⟨c0, c1, c2, c3, c4, c5, c6, c7, c8, c9⟩ := HQ.out.1.box.c10
      have z0 := HQ.out.1.box.free 0
      have z1 := HQ.out.1.box.free 1
      have z2 := HQ.out.1.box.free 2
      have z3 := HQ.out.1.box.free 3
      have z4 := HQ.out.1.box.free 4
      have z5 := HQ.out.1.box.free 5
      have z6 := HQ.out.1.box.free 6
      have z7 := HQ.out.1.box.free 7
      have z8 := HQ.out.1.box.free 8
      have z9 := HQ.out.1.box.free 9
      have HL := Lib.hid HQ.out.1.low
      clear HQ
      go_wp2_with fail
      refine bodyPost_ret (v := .tuple #[.agg #[.pointer (some ⟨C, 0, none⟩), .iface T (.agg #[]), .int .i64 g0, .int .i64 g1, .int .i64 g2, .int .i64 g3, .int .i64 g4, .int .i64 g5, .int .i64 g6, .int .i64 g7], .int .i64 0]) ?_ rfl ⟨rfl, ?_⟩
      · simp [results, Tryz.results94, go_sem, c0, c1, c2, c3, c4, c5, c6, c7, c8, c9]
      · exact ((((((((((HL.out.setCell (p := ⟨w.heap.size, 0, none⟩) (Nat.le_refl _) _).setCell (p := ⟨w.heap.size, 1, none⟩) (Nat.le_refl _) _).setCell (p := ⟨w.heap.size, 2, none⟩) (Nat.le_refl _) _).setCell (p := ⟨w.heap.size, 3, none⟩) (Nat.le_refl _) _).setCell (p := ⟨w.heap.size, 4, none⟩) (Nat.le_refl _) _).setCell (p := ⟨w.heap.size, 5, none⟩) (Nat.le_refl _) _).setCell (p := ⟨w.heap.size, 6, none⟩) (Nat.le_refl _) _).setCell (p := ⟨w.heap.size, 7, none⟩) (Nat.le_refl _) _).setCell (p := ⟨w.heap.size, 8, none⟩) (Nat.le_refl _) _).setCell (p := ⟨w.heap.size, 9, none⟩) (Nat.le_refl _) _)

set_option maxHeartbeats 16000000 in
theorem iin_zero (C R : Nat) (r f : Int) (xs : List Int) (v : Value) (k x n s u j : Int) (w : World) (h : Crs C R r f xs v k x n s u w) (hp : poB r f xs k x n s u = true) (hi : inB j 0 (durN f xs k x n - 1) = true) (hd : dvN r f xs x j = 0) :
    Calls Tryz.prog 94 #[.pointer (some ⟨C, 0, none⟩), .int .i64 j] w (YrPost yrZ 5 w) := by
  have hdp := dur_pos hp
  have q1 : IntKind.i64.wrap (durN f xs k x n - 1) = durN f xs k x n - 1 := IntWalk.i64_in _ (by omega)
  have hj := (inB_iff _ _ _).1 hi
  obtain ⟨ht, ⟨r0, r1⟩, ⟨hk, hkl⟩, ⟨l0, l1⟩, ⟨y0, y1, y2⟩, ⟨x0, x1⟩, ⟨n0, n1⟩, f0, f1⟩ := rv_in hp hj
  have q2 : IntKind.i64.wrap (x + j) = x + j := IntWalk.i64_in _ (by omega)
  have HC := Lib.hid (IW.new h)
  have CV : Hid (∀ W, Hid (IW w C R r f xs v k x n s u W) → Calls Tryz.prog 68 #[.pointer (some ⟨R, 0, none⟩), .iface (kT k) (.agg #[]), .int .i64 (x + j), .int .i64 (lfN k n j)] W (CvPost .nilIface 0 0 0 0 0 0 0 0 5 W)) :=
    Lib.hid (fun W hW => cvz_any (kT k) (.agg #[]) r f xs v R (x + j) (lfN k n j) W hW.out.crs.cols f0 y0 (by omega) hd)
  have c16 := HC.out.crs.dur
  have c3 := HC.out.crs.years
  have hU : (n - j < 0 ∧ lfN k n j = 0) ∨ (n - j = 0 ∧ lfN k n j = 0) ∨ (0 < n - j ∧ lfN k n j = n - j) := by
    have hkn : k = 0 ↔ n = 0 := by
      have hz := (poB_iff.1 hp).1
      unfold asE at hz
      exact (as_in hz).2.1.2
    unfold lfN at l0 hkl ⊢
    by_cases h0 : k = 0
    · rw [if_pos h0]; have := hkn.1 h0; omega
    · rw [if_neg h0] at hkl l0 ⊢
      have : ¬ n - j = 0 := fun e => h0 (hkl.2 e)
      omega
  have hmx : max (wrap64 (n - j)) 0 = lfN k n j := by
    rw [IntWalk.wrap64_in _ (by omega)]
    omega
  obtain ⟨L, hL⟩ : ∃ y_, lfN k n j = y_ := ⟨_, rfl⟩
  rw [hL] at hmx
  obtain ⟨E, hE⟩ : ∃ y_, durN f xs k x n = y_ := ⟨_, rfl⟩
  rw [hE] at q1 hi c16
  rw [hL] at CV
  unfold YrPost yrZ
  have HIS : Hid (∀ W, IW w C R r f xs v k x n s u W → W.cell? ⟨C, 0, none⟩ = some (.pointer (some ⟨R, 0, none⟩)) ∧ W.cell? ⟨C, 2, none⟩ = some (.int .i64 x) ∧ W.cell? ⟨C, 7, none⟩ = some (.iface (kT k) (.agg #[])) ∧ Hid (IW w C R r f xs v k x n s u W)) := Lib.hid (fun W hW => iwS hW)
  obtain ⟨T, hT⟩ : ∃ y_, kT k = y_ := ⟨_, rfl⟩
  rw [hT] at CV HIS
  unfold CvPost cvr at CV
  have hbz := build_yz
  
  clear hT hE hL hU ht hk hkl l0 l1 y0 y1 y2 x0 x1 n0 n1 f0 f1 hp hj hdp hd h r0 r1
  ·
    go_enter Tryz.func94, Tryz.ntmps94
    go_upto_region 4 with (go_at_call 87; refine (within_any _ _ _ _).mono ?_; rintro e w' ⟨rfl, rfl⟩)
    obtain ⟨W0, hW0⟩ : ∃ y_, w.alloc (.cells #[.pointer none, .nilIface, .int .i64 0, .int .i64 0, .int .i64 0, .int .i64 0, .int .i64 0, .int .i64 0, .int .i64 0, .int .i64 0] 89) = y_ := ⟨_, rfl⟩
    rw [hW0] at HC c16 c3 ⊢
    clear hW0 c16 c3
    go_cut [7, 8] from 26 to 46 (fun p q wx => ∃ N, p = .pointer (some ⟨N, 0, none⟩) ∧ q = .int .i64 5 ∧ Hid (IW w C R r f xs v k x n s u wx ∧ Q9 wx N .nilIface 0 0 0 0 0 0 0 0 ∧ w.heap.size + 1 ≤ N))
    case first =>
      obtain ⟨k0, k1, k2, _⟩ := HIS.out _ HC.out
      have hszD : w.heap.size + 1 ≤ W0.heap.size := HC.out.sz
      have hsz : w.heap.size + 1 ≤ W0.drew.heap.size := hszD
      have hq := True.intro
      have hsT := True.intro
      go_region_held3 (fun W9 => W9.cell? ⟨C, 0, none⟩ = some (.pointer (some ⟨R, 0, none⟩)) ∧ W9.cell? ⟨C, 2, none⟩ = some (.int .i64 x) ∧ W9.cell? ⟨C, 7, none⟩ = some (.iface (T) (.agg #[])) ∧ Hid (IW w C R r f xs v k x n s u W9))
        (first
          | (with_reducible exact HIS.out _ (IW.set9 HSp.out hsT))
          | (go_split_ands; with_reducible exact HIS.out _ (Hid.out (by with_reducible assumption)))
          | (go_split_ands; with_reducible exact HIS.out _ (IW.on (Hid.out (by with_reducible assumption)) hb))
          | (go_split_ands; with_reducible exact HIS.out _ (IW.on (Hid.out (by with_reducible assumption)) (Below.drew (Below.refl _ _))))
          | (go_split_ands; with_reducible exact HIS.out _ (IW.on (Hid.out (by with_reducible assumption)) (box_b _ _)))
          | (go_split_ands; with_reducible exact HIS.out _ (IW.on HSp.out (box_b _ _)))
          | fail)
        (first
          | (go_split_ands; go_at_call 68; ((with_reducible refine (CV.out _ (by with_reducible assumption)).mono ?_); rintro e w' ⟨rfl, hb⟩; have HSp : Hid (IW w C R r f xs v k x n s u w') := Lib.hid (IW.on (Hid.out (by with_reducible assumption)) hb); (first | ((with_reducible have hr := cq_newD hb hszD); obtain ⟨hq, hsT, hsz⟩ := hr; obtain ⟨n0, n1, n2, n3, n4, n5, n6, n7, n8, m0, m1, m2, m3, m4, m5, m6, m7, m8⟩ := hq.f9) | ((with_reducible have hr := cq_new hb hsz); obtain ⟨hq, hsT, hsz⟩ := hr; obtain ⟨n0, n1, n2, n3, n4, n5, n6, n7, n8, m0, m1, m2, m3, m4, m5, m6, m7, m8⟩ := hq.f9) | ((with_reducible have hr := cq_old hq hb hsz); obtain ⟨hq, hsz⟩ := hr; clear n0 n1 n2 n3 n4 n5 n6 n7 n8 m0 m1 m2 m3 m4 m5 m6 m7 m8; obtain ⟨n0, n1, n2, n3, n4, n5, n6, n7, n8, m0, m1, m2, m3, m4, m5, m6, m7, m8⟩ := hq.f9) | (have hsz := Nat.le_trans hsz hb.size))))
          | fail)
      all_goals
        go_split_ands
        go_wp2_with fail
        go_meet
        case rel =>
          first
            | (with_reducible exact ⟨_, rfl, rfl, Lib.hid ⟨Hid.out (by with_reducible assumption), hq.set9 _ _ _ _ _ _ _ _ _, hsT⟩⟩)
            | (with_reducible exact ⟨_, rfl, rfl, Lib.hid ⟨Hid.out (by with_reducible assumption), q9_new _ _ _ _ _ _ _ _ _ _, hsz⟩⟩)
            | fail
    case rest =>
      obtain ⟨N, rfl, rfl, HQ⟩ := hcut
      obtain ⟨n0, n1, n2, n3, n4, n5, n6, n7, n8, m0, m1, m2, m3, m4, m5, m6, m7, m8⟩ := HQ.out.2.1.f9
      obtain ⟨c0, c1, c2, c3, c4, c5, c6, c7, c8, c9⟩ := HQ.out.1.box.c10
      have z0 := HQ.out.1.box.free 0
      have z1 := HQ.out.1.box.free 1
      have z2 := HQ.out.1.box.free 2
      have z3 := HQ.out.1.box.free 3
      have z4 := HQ.out.1.box.free 4
      have z5 := HQ.out.1.box.free 5
      have z6 := HQ.out.1.box.free 6
      have z7 := HQ.out.1.box.free 7
      have z8 := HQ.out.1.box.free 8
      have z9 := HQ.out.1.box.free 9
      have HL := Lib.hid HQ.out.1.low
      clear HQ
      go_wp2_with fail
      refine bodyPost_ret (v := .tuple #[.agg #[.pointer none, .nilIface, .int .i64 0, .int .i64 0, .int .i64 0, .int .i64 0, .int .i64 0, .int .i64 0, .int .i64 0, .int .i64 0], .int .i64 5]) ?_ rfl ⟨rfl, ?_⟩
      · simp [results, Tryz.results94, go_sem, c0, c1, c2, c3, c4, c5, c6, c7, c8, c9]
      · exact ((((((((((HL.out.setCell (p := ⟨w.heap.size, 0, none⟩) (Nat.le_refl _) _).setCell (p := ⟨w.heap.size, 1, none⟩) (Nat.le_refl _) _).setCell (p := ⟨w.heap.size, 2, none⟩) (Nat.le_refl _) _).setCell (p := ⟨w.heap.size, 3, none⟩) (Nat.le_refl _) _).setCell (p := ⟨w.heap.size, 4, none⟩) (Nat.le_refl _) _).setCell (p := ⟨w.heap.size, 5, none⟩) (Nat.le_refl _) _).setCell (p := ⟨w.heap.size, 6, none⟩) (Nat.le_refl _) _).setCell (p := ⟨w.heap.size, 7, none⟩) (Nat.le_refl _) _).setCell (p := ⟨w.heap.size, 8, none⟩) (Nat.le_refl _) _).setCell (p := ⟨w.heap.size, 9, none⟩) (Nat.le_refl _) _)

end Go.Proofs.YtdlfofdibooidaaGreat

/- Policies: the program's IsPolicy, NetPremium, DurationOf, PremiumGain. (Written by wip/gen/poe.py.) -/
namespace Go.Proofs.YtdlfofdibooidaaGreat
open Go.ChangeShapes Go.WideShapes Go.ChangeAt Go.RowKit
set_option linter.unusedVariables false
set_option maxRecDepth 100000

end Go.Proofs.YtdlfofdibooidaaGreat

/- Merged: Rvg. -/
import Derived.Test.YtnclncglmnbelaaGreatRl30

/- Reserves: what is told of a side, the program's three reserves and the denominator. (Written by wip/gen/rvg.py.) -/
namespace Go.Proofs.YtnclncglmnbelaaGreat
open Go.ChangeShapes Go.WideShapes Go.ChangeAt Go.RowKit
open Go.ChangeMaps (setBlock heap_setBlock_same heap_setBlock_other)
set_option linter.unusedVariables false
set_option maxRecDepth 100000

/-- while a side is told -/
structure TW (w : World) (C R : Nat) (r f : Int) (xs : List Int) (v : Value) (k x n s u : Int) (W : World) : Prop where
  crs : Crs C R r f xs v k x n s u W
  low : Below w.heap.size w W

theorem TW.on {w : World} {C R : Nat} {r f : Int} {xs : List Int} {v : Value} {k x n s u : Int} {W W' : World} (h : TW w C R r f xs v k x n s u W) (hb : Below W.heap.size W W') : TW w C R r f xs v k x n s u W' := ⟨h.crs.on hb, h.low.trans (hb.mono h.low.size)⟩

theorem itold_no (E : Int) (F : Value) (w : World) (he : E ≠ 0) :
    Calls Tryz.prog 49 #[yrZ, F, .int .i64 E] w fun e w' => e = .returned (.tuple #[.int .i64 0, .int .i64 0, .int .i64 E]) ∧ Below w.heap.size w w' := by
  have hb : (E != 0) = true := by simp [he]
  clear he
  unfold yrZ
  go_enter Tryz.func49, Tryz.ntmps49
  go_wp2_with fail
  go_ret3
  exact ⟨rfl, box_b _ _⟩

set_option maxHeartbeats 4000000 in
theorem itold_f (C R : Nat) (r f : Int) (xs : List Int) (v : Value) (k x n s u j : Int) (w : World) (h : Crs C R r f xs v k x n s u w) (hp : poB r f xs k x n s u = true) (hj : 0 ≤ j ∧ j ≤ durN f xs k x n - 1) (hd : dvN r f xs x j ≠ 0) :
    Calls Tryz.prog 49 #[yrV C r f xs k x n j, .func (.func 50) #[yrV C r f xs k x n j] #[], .int .i64 0] w fun e w' => e = .returned (.tuple #[.int .i64 (fwN r f xs k x n s j / dvN r f xs x j), .int .i64 (fwN r f xs k x n s j % dvN r f xs x j), .int .i64 0]) ∧ Below w.heap.size w w' := by
  have CS : Hid (∀ W, Hid (TW w C R r f xs v k x n s u W) → Calls Tryz.prog 50 #[yrV C r f xs k x n j] W fun e w' => e = .returned (wdV (fwN r f xs k x n s j)) ∧ Below W.heap.size W w') :=
    Lib.hid (fun W hW => ifw_any C R r f xs v k x n s u j W hW.out.crs hp hj hd)
  obtain ⟨⟨m1, m2⟩, ⟨m3, m4⟩, ⟨m5, m6⟩⟩ := rv_bds hp hj hd
  obtain ⟨t, b, d, t0, b0, p, e1, e2, e3, e4, e5, e6, ⟨t1, t2⟩, ⟨d0, d1⟩, ⟨v0, v1⟩, ⟨t3, t4⟩, ⟨v2, v3⟩, ⟨p0, p1⟩, g0, g1, s0, s1⟩ := rv_nums hp hj hd
  have hdd : 1 ≤ dvN r f xs x j ∧ dvN r f xs x j ≤ 1000000000000000 := by rw [e3]; exact ⟨d0, d1⟩
  have CO := Lib.hid (fun W => over_any (fwN r f xs k x n s j) (dvN r f xs x j) W (by omega) (by omega) hdd.1 hdd.2)
  have hdv : dvN r f xs x j = cD r xs (x + j - f).toNat := rfl
  rw [hdv] at CO ⊢
  obtain ⟨X, hX⟩ : ∃ y_, fwN r f xs k x n s j / cD r xs (x + j - f).toNat = y_ := ⟨_, rfl⟩
  obtain ⟨Y, hY⟩ : ∃ y_, fwN r f xs k x n s j % cD r xs (x + j - f).toNat = y_ := ⟨_, rfl⟩
  rw [hX, hY] at CO ⊢
  unfold wdV at CS CO
  obtain ⟨h3, qh3⟩ : ∃ y_, hiW (fwN r f xs k x n s j) = y_ := ⟨_, rfl⟩
  obtain ⟨l3, ql3⟩ : ∃ y_, loW (fwN r f xs k x n s j) = y_ := ⟨_, rfl⟩
  rw [qh3, ql3] at CS CO
  clear qh3 ql3
  unfold yrV at CS ⊢
  clear e1 e2 e3 e4 e5 e6 t1 t2 d0 d1 v0 v1 t3 t4 v2 v3 p0 p1 g0 g1 s0 s1 hX hY hdd m1 m2 m3 m4 m5 m6 hp hj hd hdv
  obtain ⟨g0, hg0⟩ : ∃ y_, cD r xs (x + j - f).toNat = y_ := ⟨_, rfl⟩
  rw [hg0] at CO CS ⊢
  clear hg0
  obtain ⟨g1, hg0⟩ : ∃ y_, cN r xs (x + j - f).toNat = y_ := ⟨_, rfl⟩
  obtain ⟨g2, hg1⟩ : ∃ y_, cC r xs (x + j - f).toNat = y_ := ⟨_, rfl⟩
  obtain ⟨g3, hg2⟩ : ∃ y_, cM r xs (x + j - f).toNat = y_ := ⟨_, rfl⟩
  rw [hg0, hg1, hg2] at CS ⊢
  clear hg0 hg1 hg2
  obtain ⟨g4, hg0⟩ : ∃ y_, cD r xs (x + j + lfN k n j - f).toNat = y_ := ⟨_, rfl⟩
  obtain ⟨g5, hg1⟩ : ∃ y_, cN r xs (x + j + lfN k n j - f).toNat = y_ := ⟨_, rfl⟩
  obtain ⟨g6, hg2⟩ : ∃ y_, cC r xs (x + j + lfN k n j - f).toNat = y_ := ⟨_, rfl⟩
  obtain ⟨g7, hg3⟩ : ∃ y_, cM r xs (x + j + lfN k n j - f).toNat = y_ := ⟨_, rfl⟩
  rw [hg0, hg1, hg2, hg3] at CS ⊢
  clear hg0 hg1 hg2 hg3
  obtain ⟨T, hT⟩ : ∃ y_, kT k = y_ := ⟨_, rfl⟩
  rw [hT] at CS ⊢
  clear hT
  have HT : Hid (TW w C R r f xs v k x n s u (w.alloc (.cells #[.pointer (some ⟨C, 0, none⟩), .iface T (.agg #[]), .int .i64 g0, .int .i64 g1, .int .i64 g2, .int .i64 g3, .int .i64 g4, .int .i64 g5, .int .i64 g6, .int .i64 g7] 74))) := Lib.hid ⟨h.on (box_b _ _), box_b _ _⟩
  have hc : (w.alloc (.cells #[.pointer (some ⟨C, 0, none⟩), .iface T (.agg #[]), .int .i64 g0, .int .i64 g1, .int .i64 g2, .int .i64 g3, .int .i64 g4, .int .i64 g5, .int .i64 g6, .int .i64 g7] 74)).cell? ⟨w.heap.size, 2, none⟩ = some (.int .i64 g0) := by go_simp
  clear h
  go_enter Tryz.func49, Tryz.ntmps49
  go_wp2_with fail
  obtain ⟨W0, hW0⟩ : ∃ y_, w.alloc (.cells #[.pointer (some ⟨C, 0, none⟩), .iface T (.agg #[]), .int .i64 g0, .int .i64 g1, .int .i64 g2, .int .i64 g3, .int .i64 g4, .int .i64 g5, .int .i64 g6, .int .i64 g7] 74) = y_ := ⟨_, rfl⟩
  rw [hW0] at HT hc ⊢
  clear hW0
  go_region_held3 (fun W9 => W9.cell? ⟨w.heap.size, 2, none⟩ = some (.int .i64 g0) ∧ Hid (TW w C R r f xs v k x n s u W9))
    (first
      | (go_split_ands; with_reducible exact ⟨by with_reducible assumption, by with_reducible assumption⟩)
      | (go_split_ands; with_reducible exact ⟨keep2 hb (by with_reducible assumption), Lib.hid (TW.on (Hid.out (by with_reducible assumption)) hb)⟩)
      | (go_split_ands; with_reducible exact ⟨cell_drew hc, Lib.hid (TW.on HT.out (Below.drew (Below.refl _ _)))⟩)
      | fail)
    (first
      | (go_split_ands; go_at_call 50; ((with_reducible refine (CS.out _ (by with_reducible assumption)).mono ?_); rintro e w' ⟨rfl, hb⟩))
      | (go_split_ands; go_at_call 80; ((with_reducible refine (CO.out _).mono ?_); rintro e w' ⟨rfl, hb⟩))
      | fail)
  all_goals
    go_split_ands
    have HZ : Hid (TW w C R r f xs v k x n s u w') := by with_reducible assumption
    go_wp2_with fail
    go_ret3
    exact ⟨rfl, HZ.out.low⟩

set_option maxHeartbeats 4000000 in
theorem itold_b (C R : Nat) (r f : Int) (xs : List Int) (v : Value) (k x n s u j : Int) (w : World) (h : Crs C R r f xs v k x n s u w) (hp : poB r f xs k x n s u = true) (hj : 0 ≤ j ∧ j ≤ durN f xs k x n - 1) (hd : dvN r f xs x j ≠ 0) :
    Calls Tryz.prog 49 #[yrV C r f xs k x n j, .func (.func 58) #[yrV C r f xs k x n j] #[], .int .i64 0] w fun e w' => e = .returned (.tuple #[.int .i64 (bwN r f xs k x n s j / dvN r f xs x j), .int .i64 (bwN r f xs k x n s j % dvN r f xs x j), .int .i64 0]) ∧ Below w.heap.size w w' := by
  have CS : Hid (∀ W, Hid (TW w C R r f xs v k x n s u W) → Calls Tryz.prog 58 #[yrV C r f xs k x n j] W fun e w' => e = .returned (wdV (bwN r f xs k x n s j)) ∧ Below W.heap.size W w') :=
    Lib.hid (fun W hW => ibw_any C R r f xs v k x n s u j W hW.out.crs hp hj hd)
  obtain ⟨⟨m1, m2⟩, ⟨m3, m4⟩, ⟨m5, m6⟩⟩ := rv_bds hp hj hd
  obtain ⟨t, b, d, t0, b0, p, e1, e2, e3, e4, e5, e6, ⟨t1, t2⟩, ⟨d0, d1⟩, ⟨v0, v1⟩, ⟨t3, t4⟩, ⟨v2, v3⟩, ⟨p0, p1⟩, g0, g1, s0, s1⟩ := rv_nums hp hj hd
  have hdd : 1 ≤ dvN r f xs x j ∧ dvN r f xs x j ≤ 1000000000000000 := by rw [e3]; exact ⟨d0, d1⟩
  have CO := Lib.hid (fun W => over_any (bwN r f xs k x n s j) (dvN r f xs x j) W (by omega) (by omega) hdd.1 hdd.2)
  have hdv : dvN r f xs x j = cD r xs (x + j - f).toNat := rfl
  rw [hdv] at CO ⊢
  obtain ⟨X, hX⟩ : ∃ y_, bwN r f xs k x n s j / cD r xs (x + j - f).toNat = y_ := ⟨_, rfl⟩
  obtain ⟨Y, hY⟩ : ∃ y_, bwN r f xs k x n s j % cD r xs (x + j - f).toNat = y_ := ⟨_, rfl⟩
  rw [hX, hY] at CO ⊢
  unfold wdV at CS CO
  obtain ⟨h3, qh3⟩ : ∃ y_, hiW (bwN r f xs k x n s j) = y_ := ⟨_, rfl⟩
  obtain ⟨l3, ql3⟩ : ∃ y_, loW (bwN r f xs k x n s j) = y_ := ⟨_, rfl⟩
  rw [qh3, ql3] at CS CO
  clear qh3 ql3
  unfold yrV at CS ⊢
  clear e1 e2 e3 e4 e5 e6 t1 t2 d0 d1 v0 v1 t3 t4 v2 v3 p0 p1 g0 g1 s0 s1 hX hY hdd m1 m2 m3 m4 m5 m6 hp hj hd hdv
  obtain ⟨g0, hg0⟩ : ∃ y_, cD r xs (x + j - f).toNat = y_ := ⟨_, rfl⟩
  rw [hg0] at CO CS ⊢
  clear hg0
  obtain ⟨g1, hg0⟩ : ∃ y_, cN r xs (x + j - f).toNat = y_ := ⟨_, rfl⟩
  obtain ⟨g2, hg1⟩ : ∃ y_, cC r xs (x + j - f).toNat = y_ := ⟨_, rfl⟩
  obtain ⟨g3, hg2⟩ : ∃ y_, cM r xs (x + j - f).toNat = y_ := ⟨_, rfl⟩
  rw [hg0, hg1, hg2] at CS ⊢
  clear hg0 hg1 hg2
  obtain ⟨g4, hg0⟩ : ∃ y_, cD r xs (x + j + lfN k n j - f).toNat = y_ := ⟨_, rfl⟩
  obtain ⟨g5, hg1⟩ : ∃ y_, cN r xs (x + j + lfN k n j - f).toNat = y_ := ⟨_, rfl⟩
  obtain ⟨g6, hg2⟩ : ∃ y_, cC r xs (x + j + lfN k n j - f).toNat = y_ := ⟨_, rfl⟩
  obtain ⟨g7, hg3⟩ : ∃ y_, cM r xs (x + j + lfN k n j - f).toNat = y_ := ⟨_, rfl⟩
  rw [hg0, hg1, hg2, hg3] at CS ⊢
  clear hg0 hg1 hg2 hg3
  obtain ⟨T, hT⟩ : ∃ y_, kT k = y_ := ⟨_, rfl⟩
  rw [hT] at CS ⊢
  clear hT
  have HT : Hid (TW w C R r f xs v k x n s u (w.alloc (.cells #[.pointer (some ⟨C, 0, none⟩), .iface T (.agg #[]), .int .i64 g0, .int .i64 g1, .int .i64 g2, .int .i64 g3, .int .i64 g4, .int .i64 g5, .int .i64 g6, .int .i64 g7] 74))) := Lib.hid ⟨h.on (box_b _ _), box_b _ _⟩
  have hc : (w.alloc (.cells #[.pointer (some ⟨C, 0, none⟩), .iface T (.agg #[]), .int .i64 g0, .int .i64 g1, .int .i64 g2, .int .i64 g3, .int .i64 g4, .int .i64 g5, .int .i64 g6, .int .i64 g7] 74)).cell? ⟨w.heap.size, 2, none⟩ = some (.int .i64 g0) := by go_simp
  clear h
  go_enter Tryz.func49, Tryz.ntmps49
  go_wp2_with fail
  obtain ⟨W0, hW0⟩ : ∃ y_, w.alloc (.cells #[.pointer (some ⟨C, 0, none⟩), .iface T (.agg #[]), .int .i64 g0, .int .i64 g1, .int .i64 g2, .int .i64 g3, .int .i64 g4, .int .i64 g5, .int .i64 g6, .int .i64 g7] 74) = y_ := ⟨_, rfl⟩
  rw [hW0] at HT hc ⊢
  clear hW0
  go_region_held3 (fun W9 => W9.cell? ⟨w.heap.size, 2, none⟩ = some (.int .i64 g0) ∧ Hid (TW w C R r f xs v k x n s u W9))
    (first
      | (go_split_ands; with_reducible exact ⟨by with_reducible assumption, by with_reducible assumption⟩)
      | (go_split_ands; with_reducible exact ⟨keep2 hb (by with_reducible assumption), Lib.hid (TW.on (Hid.out (by with_reducible assumption)) hb)⟩)
      | (go_split_ands; with_reducible exact ⟨cell_drew hc, Lib.hid (TW.on HT.out (Below.drew (Below.refl _ _)))⟩)
      | fail)
    (first
      | (go_split_ands; go_at_call 58; ((with_reducible refine (CS.out _ (by with_reducible assumption)).mono ?_); rintro e w' ⟨rfl, hb⟩))
      | (go_split_ands; go_at_call 80; ((with_reducible refine (CO.out _).mono ?_); rintro e w' ⟨rfl, hb⟩))
      | fail)
  all_goals
    go_split_ands
    have HZ : Hid (TW w C R r f xs v k x n s u w') := by with_reducible assumption
    go_wp2_with fail
    go_ret3
    exact ⟨rfl, HZ.out.low⟩

set_option maxHeartbeats 4000000 in
theorem itold_g (C R : Nat) (r f : Int) (xs : List Int) (v : Value) (k x n s u j : Int) (w : World) (h : Crs C R r f xs v k x n s u w) (hp : poB r f xs k x n s u = true) (hj : 0 ≤ j ∧ j ≤ durN f xs k x n - 1) (hd : dvN r f xs x j ≠ 0) :
    Calls Tryz.prog 49 #[yrV C r f xs k x n j, .func (.func 59) #[yrV C r f xs k x n j] #[], .int .i64 0] w fun e w' => e = .returned (.tuple #[.int .i64 (gnN r f xs k x n s / dvN r f xs x j), .int .i64 (gnN r f xs k x n s % dvN r f xs x j), .int .i64 0]) ∧ Below w.heap.size w w' := by
  have CS : Hid (∀ W, Hid (TW w C R r f xs v k x n s u W) → Calls Tryz.prog 59 #[yrV C r f xs k x n j] W fun e w' => e = .returned (wdV (gnN r f xs k x n s)) ∧ Below W.heap.size W w') :=
    Lib.hid (fun W hW => ign_any C R r f xs v k x n s u j W hW.out.crs hp hj hd)
  obtain ⟨⟨m1, m2⟩, ⟨m3, m4⟩, ⟨m5, m6⟩⟩ := rv_bds hp hj hd
  obtain ⟨t, b, d, t0, b0, p, e1, e2, e3, e4, e5, e6, ⟨t1, t2⟩, ⟨d0, d1⟩, ⟨v0, v1⟩, ⟨t3, t4⟩, ⟨v2, v3⟩, ⟨p0, p1⟩, g0, g1, s0, s1⟩ := rv_nums hp hj hd
  have hdd : 1 ≤ dvN r f xs x j ∧ dvN r f xs x j ≤ 1000000000000000 := by rw [e3]; exact ⟨d0, d1⟩
  have CO := Lib.hid (fun W => over_any (gnN r f xs k x n s) (dvN r f xs x j) W (by omega) (by omega) hdd.1 hdd.2)
  have hdv : dvN r f xs x j = cD r xs (x + j - f).toNat := rfl
  rw [hdv] at CO ⊢
  obtain ⟨X, hX⟩ : ∃ y_, gnN r f xs k x n s / cD r xs (x + j - f).toNat = y_ := ⟨_, rfl⟩
  obtain ⟨Y, hY⟩ : ∃ y_, gnN r f xs k x n s % cD r xs (x + j - f).toNat = y_ := ⟨_, rfl⟩
  rw [hX, hY] at CO ⊢
  unfold wdV at CS CO
  obtain ⟨h3, qh3⟩ : ∃ y_, hiW (gnN r f xs k x n s) = y_ := ⟨_, rfl⟩
  obtain ⟨l3, ql3⟩ : ∃ y_, loW (gnN r f xs k x n s) = y_ := ⟨_, rfl⟩
  rw [qh3, ql3] at CS CO
  clear qh3 ql3
  unfold yrV at CS ⊢
  clear e1 e2 e3 e4 e5 e6 t1 t2 d0 d1 v0 v1 t3 t4 v2 v3 p0 p1 g0 g1 s0 s1 hX hY hdd m1 m2 m3 m4 m5 m6 hp hj hd hdv
  obtain ⟨g0, hg0⟩ : ∃ y_, cD r xs (x + j - f).toNat = y_ := ⟨_, rfl⟩
  rw [hg0] at CO CS ⊢
  clear hg0
  obtain ⟨g1, hg0⟩ : ∃ y_, cN r xs (x + j - f).toNat = y_ := ⟨_, rfl⟩
  obtain ⟨g2, hg1⟩ : ∃ y_, cC r xs (x + j - f).toNat = y_ := ⟨_, rfl⟩
  obtain ⟨g3, hg2⟩ : ∃ y_, cM r xs (x + j - f).toNat = y_ := ⟨_, rfl⟩
  rw [hg0, hg1, hg2] at CS ⊢
  clear hg0 hg1 hg2
  obtain ⟨g4, hg0⟩ : ∃ y_, cD r xs (x + j + lfN k n j - f).toNat = y_ := ⟨_, rfl⟩
  obtain ⟨g5, hg1⟩ : ∃ y_, cN r xs (x + j + lfN k n j - f).toNat = y_ := ⟨_, rfl⟩
  obtain ⟨g6, hg2⟩ : ∃ y_, cC r xs (x + j + lfN k n j - f).toNat = y_ := ⟨_, rfl⟩
  obtain ⟨g7, hg3⟩ : ∃ y_, cM r xs (x + j + lfN k n j - f).toNat = y_ := ⟨_, rfl⟩
  rw [hg0, hg1, hg2, hg3] at CS ⊢
  clear hg0 hg1 hg2 hg3
  obtain ⟨T, hT⟩ : ∃ y_, kT k = y_ := ⟨_, rfl⟩
  rw [hT] at CS ⊢
  clear hT
  have HT : Hid (TW w C R r f xs v k x n s u (w.alloc (.cells #[.pointer (some ⟨C, 0, none⟩), .iface T (.agg #[]), .int .i64 g0, .int .i64 g1, .int .i64 g2, .int .i64 g3, .int .i64 g4, .int .i64 g5, .int .i64 g6, .int .i64 g7] 74))) := Lib.hid ⟨h.on (box_b _ _), box_b _ _⟩
  have hc : (w.alloc (.cells #[.pointer (some ⟨C, 0, none⟩), .iface T (.agg #[]), .int .i64 g0, .int .i64 g1, .int .i64 g2, .int .i64 g3, .int .i64 g4, .int .i64 g5, .int .i64 g6, .int .i64 g7] 74)).cell? ⟨w.heap.size, 2, none⟩ = some (.int .i64 g0) := by go_simp
  clear h
  go_enter Tryz.func49, Tryz.ntmps49
  go_wp2_with fail
  obtain ⟨W0, hW0⟩ : ∃ y_, w.alloc (.cells #[.pointer (some ⟨C, 0, none⟩), .iface T (.agg #[]), .int .i64 g0, .int .i64 g1, .int .i64 g2, .int .i64 g3, .int .i64 g4, .int .i64 g5, .int .i64 g6, .int .i64 g7] 74) = y_ := ⟨_, rfl⟩
  rw [hW0] at HT hc ⊢
  clear hW0
  go_region_held3 (fun W9 => W9.cell? ⟨w.heap.size, 2, none⟩ = some (.int .i64 g0) ∧ Hid (TW w C R r f xs v k x n s u W9))
    (first
      | (go_split_ands; with_reducible exact ⟨by with_reducible assumption, by with_reducible assumption⟩)
      | (go_split_ands; with_reducible exact ⟨keep2 hb (by with_reducible assumption), Lib.hid (TW.on (Hid.out (by with_reducible assumption)) hb)⟩)
      | (go_split_ands; with_reducible exact ⟨cell_drew hc, Lib.hid (TW.on HT.out (Below.drew (Below.refl _ _)))⟩)
      | fail)
    (first
      | (go_split_ands; go_at_call 59; ((with_reducible refine (CS.out _ (by with_reducible assumption)).mono ?_); rintro e w' ⟨rfl, hb⟩))
      | (go_split_ands; go_at_call 80; ((with_reducible refine (CO.out _).mono ?_); rintro e w' ⟨rfl, hb⟩))
      | fail)
  all_goals
    go_split_ands
    have HZ : Hid (TW w C R r f xs v k x n s u w') := by with_reducible assumption
    go_wp2_with fail
    go_ret3
    exact ⟨rfl, HZ.out.low⟩

set_option maxHeartbeats 4000000 in
theorem ifr_any (r f : Int) (xs : List Int) (a : Option Addr) (l c : Nat) (k x n s u j : Int) (w : World) (h : Ints w a l xs) (hlc : l ≤ c) :
    Calls Tryz.prog 23 #[.agg #[.int .i64 f, .slice a l c, .int .i64 r], .agg #[.int .i64 k, .int .i64 x, .int .i64 n, .int .i64 s, .int .i64 u], .int .i64 j] w (IIIPost (qdV (rvE r f xs k x n s u j) (fwN r f xs k x n s j) (dvN r f xs x j)) (rdV (rvE r f xs k x n s u j) (fwN r f xs k x n s j) (dvN r f xs x j)) (rvE r f xs k x n s u j) w) := by
  have H := Lib.hid h
  clear h
  have HP := Lib.hid (BP.new w f (.slice a l c) r k x n s u 28 30)
  unfold IIIPost
  by_cases he : rvE r f xs k x n s u j = 0
  · have HV : Hid (qdV (rvE r f xs k x n s u j) (fwN r f xs k x n s j) (dvN r f xs x j) = fwN r f xs k x n s j / dvN r f xs x j ∧ rdV (rvE r f xs k x n s u j) (fwN r f xs k x n s j) (dvN r f xs x j) = fwN r f xs k x n s j % dvN r f xs x j) := Lib.hid (by unfold qdV rdV; rw [if_pos he, if_pos he]; exact ⟨rfl, rfl⟩)
    rw [HV.out.1, HV.out.2, he]
    have CT : Hid (∀ W, Hid (BP w f (.slice a l c) r k x n s u W) → Calls Tryz.prog 46 #[.agg #[.int .i64 f, .slice a l c, .int .i64 r], .agg #[.int .i64 k, .int .i64 x, .int .i64 n, .int .i64 s, .int .i64 u], .int .i64 j] W (YoYes r f xs (.slice a l c) k x n s u j W)) := Lib.hid (fun W hW => iyo_yes r f xs a l c k x n s u j W (H.out.on hW.out.low) hlc he)
    unfold YoYes at CT
    obtain ⟨hp, hj, hd⟩ := rvE_iff.1 he
    have CS : Hid (∀ C R W, Crs C R r f xs (.slice a l c) k x n s u W → Calls Tryz.prog 49 #[yrV C r f xs k x n j, .func (.func 50) #[yrV C r f xs k x n j] #[], .int .i64 0] W fun e w' => e = .returned (.tuple #[.int .i64 (fwN r f xs k x n s j / dvN r f xs x j), .int .i64 (fwN r f xs k x n s j % dvN r f xs x j), .int .i64 0]) ∧ Below W.heap.size W w') :=
      Lib.hid (fun C R W hW => itold_f C R r f xs (.slice a l c) k x n s u j W hW hp hj hd)
    obtain ⟨X, hX⟩ : ∃ y_, fwN r f xs k x n s j / dvN r f xs x j = y_ := ⟨_, rfl⟩
    obtain ⟨Y, hY⟩ : ∃ y_, fwN r f xs k x n s j % dvN r f xs x j = y_ := ⟨_, rfl⟩
    rw [hX, hY] at CS ⊢
    unfold yrV at CT CS
    have HCB : Hid (∀ C R (W W' : World), Crs C R r f xs (.slice a l c) k x n s u W → Below W.heap.size W W' → Crs C R r f xs (.slice a l c) k x n s u W') := Lib.hid (fun C R W W' h1 h2 => h1.on h2)
    clear hX hY HV he hp hj hd
    obtain ⟨g0, hg0⟩ : ∃ y_, cD r xs (x + j - f).toNat = y_ := ⟨_, rfl⟩
    obtain ⟨g1, hg1⟩ : ∃ y_, cN r xs (x + j - f).toNat = y_ := ⟨_, rfl⟩
    obtain ⟨g2, hg2⟩ : ∃ y_, cC r xs (x + j - f).toNat = y_ := ⟨_, rfl⟩
    obtain ⟨g3, hg3⟩ : ∃ y_, cM r xs (x + j - f).toNat = y_ := ⟨_, rfl⟩
    rw [hg0, hg1, hg2, hg3] at CT CS
    clear hg0 hg1 hg2 hg3
    obtain ⟨g4, hg0⟩ : ∃ y_, cD r xs (x + j + lfN k n j - f).toNat = y_ := ⟨_, rfl⟩
    obtain ⟨g5, hg1⟩ : ∃ y_, cN r xs (x + j + lfN k n j - f).toNat = y_ := ⟨_, rfl⟩
    obtain ⟨g6, hg2⟩ : ∃ y_, cC r xs (x + j + lfN k n j - f).toNat = y_ := ⟨_, rfl⟩
    obtain ⟨g7, hg3⟩ : ∃ y_, cM r xs (x + j + lfN k n j - f).toNat = y_ := ⟨_, rfl⟩
    rw [hg0, hg1, hg2, hg3] at CT CS
    clear hg0 hg1 hg2 hg3
    obtain ⟨T, hT⟩ : ∃ y_, kT k = y_ := ⟨_, rfl⟩
    rw [hT] at CT CS
    clear hT
    go_enter Tryz.func23, Tryz.ntmps23
    go_wp2_with fail
    obtain ⟨W1, hW1⟩ : ∃ W1, ((w.alloc (.cells #[.int .i64 f, .slice a l c, .int .i64 r] 28)).alloc (.cells #[.int .i64 k, .int .i64 x, .int .i64 n, .int .i64 s, .int .i64 u] 30)) = W1 := ⟨_, rfl⟩
    rw [hW1] at HP ⊢
    clear hW1
    with_reducible refine (CT.out _ HP).mono ?_
    rintro e w1 ⟨C, R, rfl, hcr, hb⟩
    have HP := Lib.hid (HP.out.on hb)
    have HCR := Lib.hid (HCB.out _ _ _ _ hcr (box_b w1 (.cells #[.pointer (some ⟨C, 0, none⟩), .iface T (.agg #[]), .int .i64 g0, .int .i64 g1, .int .i64 g2, .int .i64 g3, .int .i64 g4, .int .i64 g5, .int .i64 g6, .int .i64 g7] 74)))
    have HL := Lib.hid (HP.out.low.trans ((box_b w1 (.cells #[.pointer (some ⟨C, 0, none⟩), .iface T (.agg #[]), .int .i64 g0, .int .i64 g1, .int .i64 g2, .int .i64 g3, .int .i64 g4, .int .i64 g5, .int .i64 g6, .int .i64 g7] 74)).mono HP.out.low.size))
    clear hb hcr CT
    go_wp2_with fail
    with_reducible refine (CS.out C R _ HCR.out).mono ?_
    rintro e w2 ⟨rfl, hb⟩
    have HL2 := Lib.hid (HL.out.trans (hb.mono HL.out.size))
    clear hb
    go_wp2_with fail
    go_ret3
    exact ⟨rfl, HL2.out⟩
  · have HV : Hid (qdV (rvE r f xs k x n s u j) (fwN r f xs k x n s j) (dvN r f xs x j) = 0 ∧ rdV (rvE r f xs k x n s u j) (fwN r f xs k x n s j) (dvN r f xs x j) = 0) := Lib.hid (by unfold qdV rdV; rw [if_neg he, if_neg he]; exact ⟨rfl, rfl⟩)
    rw [HV.out.1, HV.out.2]
    have CT : Hid (∀ W, Hid (BP w f (.slice a l c) r k x n s u W) → Calls Tryz.prog 46 #[.agg #[.int .i64 f, .slice a l c, .int .i64 r], .agg #[.int .i64 k, .int .i64 x, .int .i64 n, .int .i64 s, .int .i64 u], .int .i64 j] W (YrPost yrZ (rvE r f xs k x n s u j) W)) := Lib.hid (fun W hW => iyo_no r f xs a l c k x n s u j W (H.out.on hW.out.low) hlc he)
    unfold YrPost yrZ at CT
    obtain ⟨E, hE⟩ : ∃ y_, rvE r f xs k x n s u j = y_ := ⟨_, rfl⟩
    rw [hE] at CT he ⊢
    have CS := Lib.hid (fun F W => itold_no E F W he)
    unfold yrZ at CS
    clear hE HV he
    go_enter Tryz.func23, Tryz.ntmps23
    go_wp2_with fail
    obtain ⟨W1, hW1⟩ : ∃ W1, ((w.alloc (.cells #[.int .i64 f, .slice a l c, .int .i64 r] 28)).alloc (.cells #[.int .i64 k, .int .i64 x, .int .i64 n, .int .i64 s, .int .i64 u] 30)) = W1 := ⟨_, rfl⟩
    rw [hW1] at HP ⊢
    clear hW1
    with_reducible refine (CT.out _ HP).mono ?_
    rintro e w1 ⟨rfl, hb⟩
    have HP := Lib.hid (HP.out.on hb)
    have HL := Lib.hid (HP.out.low.trans ((box_b w1 (.cells #[.pointer none, .nilIface, .int .i64 0, .int .i64 0, .int .i64 0, .int .i64 0, .int .i64 0, .int .i64 0, .int .i64 0, .int .i64 0] 74)).mono HP.out.low.size))
    clear hb CT
    go_wp2_with fail
    with_reducible refine (CS.out _ _).mono ?_
    rintro e w2 ⟨rfl, hb⟩
    have HL2 := Lib.hid (HL.out.trans (hb.mono HL.out.size))
    clear hb
    go_wp2_with fail
    go_ret3
    exact ⟨rfl, HL2.out⟩

set_option maxHeartbeats 4000000 in
theorem ibr_any (r f : Int) (xs : List Int) (a : Option Addr) (l c : Nat) (k x n s u j : Int) (w : World) (h : Ints w a l xs) (hlc : l ≤ c) :
    Calls Tryz.prog 30 #[.agg #[.int .i64 f, .slice a l c, .int .i64 r], .agg #[.int .i64 k, .int .i64 x, .int .i64 n, .int .i64 s, .int .i64 u], .int .i64 j] w (IIIPost (qdV (rvE r f xs k x n s u j) (bwN r f xs k x n s j) (dvN r f xs x j)) (rdV (rvE r f xs k x n s u j) (bwN r f xs k x n s j) (dvN r f xs x j)) (rvE r f xs k x n s u j) w) := by
  have H := Lib.hid h
  clear h
  have HP := Lib.hid (BP.new w f (.slice a l c) r k x n s u 28 30)
  unfold IIIPost
  by_cases he : rvE r f xs k x n s u j = 0
  · have HV : Hid (qdV (rvE r f xs k x n s u j) (bwN r f xs k x n s j) (dvN r f xs x j) = bwN r f xs k x n s j / dvN r f xs x j ∧ rdV (rvE r f xs k x n s u j) (bwN r f xs k x n s j) (dvN r f xs x j) = bwN r f xs k x n s j % dvN r f xs x j) := Lib.hid (by unfold qdV rdV; rw [if_pos he, if_pos he]; exact ⟨rfl, rfl⟩)
    rw [HV.out.1, HV.out.2, he]
    have CT : Hid (∀ W, Hid (BP w f (.slice a l c) r k x n s u W) → Calls Tryz.prog 46 #[.agg #[.int .i64 f, .slice a l c, .int .i64 r], .agg #[.int .i64 k, .int .i64 x, .int .i64 n, .int .i64 s, .int .i64 u], .int .i64 j] W (YoYes r f xs (.slice a l c) k x n s u j W)) := Lib.hid (fun W hW => iyo_yes r f xs a l c k x n s u j W (H.out.on hW.out.low) hlc he)
    unfold YoYes at CT
    obtain ⟨hp, hj, hd⟩ := rvE_iff.1 he
    have CS : Hid (∀ C R W, Crs C R r f xs (.slice a l c) k x n s u W → Calls Tryz.prog 49 #[yrV C r f xs k x n j, .func (.func 58) #[yrV C r f xs k x n j] #[], .int .i64 0] W fun e w' => e = .returned (.tuple #[.int .i64 (bwN r f xs k x n s j / dvN r f xs x j), .int .i64 (bwN r f xs k x n s j % dvN r f xs x j), .int .i64 0]) ∧ Below W.heap.size W w') :=
      Lib.hid (fun C R W hW => itold_b C R r f xs (.slice a l c) k x n s u j W hW hp hj hd)
    obtain ⟨X, hX⟩ : ∃ y_, bwN r f xs k x n s j / dvN r f xs x j = y_ := ⟨_, rfl⟩
    obtain ⟨Y, hY⟩ : ∃ y_, bwN r f xs k x n s j % dvN r f xs x j = y_ := ⟨_, rfl⟩
    rw [hX, hY] at CS ⊢
    unfold yrV at CT CS
    have HCB : Hid (∀ C R (W W' : World), Crs C R r f xs (.slice a l c) k x n s u W → Below W.heap.size W W' → Crs C R r f xs (.slice a l c) k x n s u W') := Lib.hid (fun C R W W' h1 h2 => h1.on h2)
    clear hX hY HV he hp hj hd
    obtain ⟨g0, hg0⟩ : ∃ y_, cD r xs (x + j - f).toNat = y_ := ⟨_, rfl⟩
    obtain ⟨g1, hg1⟩ : ∃ y_, cN r xs (x + j - f).toNat = y_ := ⟨_, rfl⟩
    obtain ⟨g2, hg2⟩ : ∃ y_, cC r xs (x + j - f).toNat = y_ := ⟨_, rfl⟩
    obtain ⟨g3, hg3⟩ : ∃ y_, cM r xs (x + j - f).toNat = y_ := ⟨_, rfl⟩
    rw [hg0, hg1, hg2, hg3] at CT CS
    clear hg0 hg1 hg2 hg3
    obtain ⟨g4, hg0⟩ : ∃ y_, cD r xs (x + j + lfN k n j - f).toNat = y_ := ⟨_, rfl⟩
    obtain ⟨g5, hg1⟩ : ∃ y_, cN r xs (x + j + lfN k n j - f).toNat = y_ := ⟨_, rfl⟩
    obtain ⟨g6, hg2⟩ : ∃ y_, cC r xs (x + j + lfN k n j - f).toNat = y_ := ⟨_, rfl⟩
    obtain ⟨g7, hg3⟩ : ∃ y_, cM r xs (x + j + lfN k n j - f).toNat = y_ := ⟨_, rfl⟩
    rw [hg0, hg1, hg2, hg3] at CT CS
    clear hg0 hg1 hg2 hg3
    obtain ⟨T, hT⟩ : ∃ y_, kT k = y_ := ⟨_, rfl⟩
    rw [hT] at CT CS
    clear hT
    go_enter Tryz.func30, Tryz.ntmps30
    go_wp2_with fail
    obtain ⟨W1, hW1⟩ : ∃ W1, ((w.alloc (.cells #[.int .i64 f, .slice a l c, .int .i64 r] 28)).alloc (.cells #[.int .i64 k, .int .i64 x, .int .i64 n, .int .i64 s, .int .i64 u] 30)) = W1 := ⟨_, rfl⟩
    rw [hW1] at HP ⊢
    clear hW1
    with_reducible refine (CT.out _ HP).mono ?_
    rintro e w1 ⟨C, R, rfl, hcr, hb⟩
    have HP := Lib.hid (HP.out.on hb)
    have HCR := Lib.hid (HCB.out _ _ _ _ hcr (box_b w1 (.cells #[.pointer (some ⟨C, 0, none⟩), .iface T (.agg #[]), .int .i64 g0, .int .i64 g1, .int .i64 g2, .int .i64 g3, .int .i64 g4, .int .i64 g5, .int .i64 g6, .int .i64 g7] 74)))
    have HL := Lib.hid (HP.out.low.trans ((box_b w1 (.cells #[.pointer (some ⟨C, 0, none⟩), .iface T (.agg #[]), .int .i64 g0, .int .i64 g1, .int .i64 g2, .int .i64 g3, .int .i64 g4, .int .i64 g5, .int .i64 g6, .int .i64 g7] 74)).mono HP.out.low.size))
    clear hb hcr CT
    go_wp2_with fail
    with_reducible refine (CS.out C R _ HCR.out).mono ?_
    rintro e w2 ⟨rfl, hb⟩
    have HL2 := Lib.hid (HL.out.trans (hb.mono HL.out.size))
    clear hb
    go_wp2_with fail
    go_ret3
    exact ⟨rfl, HL2.out⟩
  · have HV : Hid (qdV (rvE r f xs k x n s u j) (bwN r f xs k x n s j) (dvN r f xs x j) = 0 ∧ rdV (rvE r f xs k x n s u j) (bwN r f xs k x n s j) (dvN r f xs x j) = 0) := Lib.hid (by unfold qdV rdV; rw [if_neg he, if_neg he]; exact ⟨rfl, rfl⟩)
    rw [HV.out.1, HV.out.2]
    have CT : Hid (∀ W, Hid (BP w f (.slice a l c) r k x n s u W) → Calls Tryz.prog 46 #[.agg #[.int .i64 f, .slice a l c, .int .i64 r], .agg #[.int .i64 k, .int .i64 x, .int .i64 n, .int .i64 s, .int .i64 u], .int .i64 j] W (YrPost yrZ (rvE r f xs k x n s u j) W)) := Lib.hid (fun W hW => iyo_no r f xs a l c k x n s u j W (H.out.on hW.out.low) hlc he)
    unfold YrPost yrZ at CT
    obtain ⟨E, hE⟩ : ∃ y_, rvE r f xs k x n s u j = y_ := ⟨_, rfl⟩
    rw [hE] at CT he ⊢
    have CS := Lib.hid (fun F W => itold_no E F W he)
    unfold yrZ at CS
    clear hE HV he
    go_enter Tryz.func30, Tryz.ntmps30
    go_wp2_with fail
    obtain ⟨W1, hW1⟩ : ∃ W1, ((w.alloc (.cells #[.int .i64 f, .slice a l c, .int .i64 r] 28)).alloc (.cells #[.int .i64 k, .int .i64 x, .int .i64 n, .int .i64 s, .int .i64 u] 30)) = W1 := ⟨_, rfl⟩
    rw [hW1] at HP ⊢
    clear hW1
    with_reducible refine (CT.out _ HP).mono ?_
    rintro e w1 ⟨rfl, hb⟩
    have HP := Lib.hid (HP.out.on hb)
    have HL := Lib.hid (HP.out.low.trans ((box_b w1 (.cells #[.pointer none, .nilIface, .int .i64 0, .int .i64 0, .int .i64 0, .int .i64 0, .int .i64 0, .int .i64 0, .int .i64 0, .int .i64 0] 74)).mono HP.out.low.size))
    clear hb CT
    go_wp2_with fail
    with_reducible refine (CS.out _ _).mono ?_
    rintro e w2 ⟨rfl, hb⟩
    have HL2 := Lib.hid (HL.out.trans (hb.mono HL.out.size))
    clear hb
    go_wp2_with fail
    go_ret3
    exact ⟨rfl, HL2.out⟩

set_option maxHeartbeats 4000000 in
theorem iga_any (r f : Int) (xs : List Int) (a : Option Addr) (l c : Nat) (k x n s u j : Int) (w : World) (h : Ints w a l xs) (hlc : l ≤ c) :
    Calls Tryz.prog 32 #[.agg #[.int .i64 f, .slice a l c, .int .i64 r], .agg #[.int .i64 k, .int .i64 x, .int .i64 n, .int .i64 s, .int .i64 u], .int .i64 j] w (IIIPost (qdV (rvE r f xs k x n s u j) (gnN r f xs k x n s) (dvN r f xs x j)) (rdV (rvE r f xs k x n s u j) (gnN r f xs k x n s) (dvN r f xs x j)) (rvE r f xs k x n s u j) w) := by
  have H := Lib.hid h
  clear h
  have HP := Lib.hid (BP.new w f (.slice a l c) r k x n s u 28 30)
  unfold IIIPost
  by_cases he : rvE r f xs k x n s u j = 0
  · have HV : Hid (qdV (rvE r f xs k x n s u j) (gnN r f xs k x n s) (dvN r f xs x j) = gnN r f xs k x n s / dvN r f xs x j ∧ rdV (rvE r f xs k x n s u j) (gnN r f xs k x n s) (dvN r f xs x j) = gnN r f xs k x n s % dvN r f xs x j) := Lib.hid (by unfold qdV rdV; rw [if_pos he, if_pos he]; exact ⟨rfl, rfl⟩)
    rw [HV.out.1, HV.out.2, he]
    have CT : Hid (∀ W, Hid (BP w f (.slice a l c) r k x n s u W) → Calls Tryz.prog 46 #[.agg #[.int .i64 f, .slice a l c, .int .i64 r], .agg #[.int .i64 k, .int .i64 x, .int .i64 n, .int .i64 s, .int .i64 u], .int .i64 j] W (YoYes r f xs (.slice a l c) k x n s u j W)) := Lib.hid (fun W hW => iyo_yes r f xs a l c k x n s u j W (H.out.on hW.out.low) hlc he)
    unfold YoYes at CT
    obtain ⟨hp, hj, hd⟩ := rvE_iff.1 he
    have CS : Hid (∀ C R W, Crs C R r f xs (.slice a l c) k x n s u W → Calls Tryz.prog 49 #[yrV C r f xs k x n j, .func (.func 59) #[yrV C r f xs k x n j] #[], .int .i64 0] W fun e w' => e = .returned (.tuple #[.int .i64 (gnN r f xs k x n s / dvN r f xs x j), .int .i64 (gnN r f xs k x n s % dvN r f xs x j), .int .i64 0]) ∧ Below W.heap.size W w') :=
      Lib.hid (fun C R W hW => itold_g C R r f xs (.slice a l c) k x n s u j W hW hp hj hd)
    obtain ⟨X, hX⟩ : ∃ y_, gnN r f xs k x n s / dvN r f xs x j = y_ := ⟨_, rfl⟩
    obtain ⟨Y, hY⟩ : ∃ y_, gnN r f xs k x n s % dvN r f xs x j = y_ := ⟨_, rfl⟩
    rw [hX, hY] at CS ⊢
    unfold yrV at CT CS
    have HCB : Hid (∀ C R (W W' : World), Crs C R r f xs (.slice a l c) k x n s u W → Below W.heap.size W W' → Crs C R r f xs (.slice a l c) k x n s u W') := Lib.hid (fun C R W W' h1 h2 => h1.on h2)
    clear hX hY HV he hp hj hd
    obtain ⟨g0, hg0⟩ : ∃ y_, cD r xs (x + j - f).toNat = y_ := ⟨_, rfl⟩
    obtain ⟨g1, hg1⟩ : ∃ y_, cN r xs (x + j - f).toNat = y_ := ⟨_, rfl⟩
    obtain ⟨g2, hg2⟩ : ∃ y_, cC r xs (x + j - f).toNat = y_ := ⟨_, rfl⟩
    obtain ⟨g3, hg3⟩ : ∃ y_, cM r xs (x + j - f).toNat = y_ := ⟨_, rfl⟩
    rw [hg0, hg1, hg2, hg3] at CT CS
    clear hg0 hg1 hg2 hg3
    obtain ⟨g4, hg0⟩ : ∃ y_, cD r xs (x + j + lfN k n j - f).toNat = y_ := ⟨_, rfl⟩
    obtain ⟨g5, hg1⟩ : ∃ y_, cN r xs (x + j + lfN k n j - f).toNat = y_ := ⟨_, rfl⟩
    obtain ⟨g6, hg2⟩ : ∃ y_, cC r xs (x + j + lfN k n j - f).toNat = y_ := ⟨_, rfl⟩
    obtain ⟨g7, hg3⟩ : ∃ y_, cM r xs (x + j + lfN k n j - f).toNat = y_ := ⟨_, rfl⟩
    rw [hg0, hg1, hg2, hg3] at CT CS
    clear hg0 hg1 hg2 hg3
    obtain ⟨T, hT⟩ : ∃ y_, kT k = y_ := ⟨_, rfl⟩
    rw [hT] at CT CS
    clear hT
    go_enter Tryz.func32, Tryz.ntmps32
    go_wp2_with fail
    obtain ⟨W1, hW1⟩ : ∃ W1, ((w.alloc (.cells #[.int .i64 f, .slice a l c, .int .i64 r] 28)).alloc (.cells #[.int .i64 k, .int .i64 x, .int .i64 n, .int .i64 s, .int .i64 u] 30)) = W1 := ⟨_, rfl⟩
    rw [hW1] at HP ⊢
    clear hW1
    with_reducible refine (CT.out _ HP).mono ?_
    rintro e w1 ⟨C, R, rfl, hcr, hb⟩
    have HP := Lib.hid (HP.out.on hb)
    have HCR := Lib.hid (HCB.out _ _ _ _ hcr (box_b w1 (.cells #[.pointer (some ⟨C, 0, none⟩), .iface T (.agg #[]), .int .i64 g0, .int .i64 g1, .int .i64 g2, .int .i64 g3, .int .i64 g4, .int .i64 g5, .int .i64 g6, .int .i64 g7] 74)))
    have HL := Lib.hid (HP.out.low.trans ((box_b w1 (.cells #[.pointer (some ⟨C, 0, none⟩), .iface T (.agg #[]), .int .i64 g0, .int .i64 g1, .int .i64 g2, .int .i64 g3, .int .i64 g4, .int .i64 g5, .int .i64 g6, .int .i64 g7] 74)).mono HP.out.low.size))
    clear hb hcr CT
    go_wp2_with fail
    with_reducible refine (CS.out C R _ HCR.out).mono ?_
    rintro e w2 ⟨rfl, hb⟩
    have HL2 := Lib.hid (HL.out.trans (hb.mono HL.out.size))
    clear hb
    go_wp2_with fail
    go_ret3
    exact ⟨rfl, HL2.out⟩
  · have HV : Hid (qdV (rvE r f xs k x n s u j) (gnN r f xs k x n s) (dvN r f xs x j) = 0 ∧ rdV (rvE r f xs k x n s u j) (gnN r f xs k x n s) (dvN r f xs x j) = 0) := Lib.hid (by unfold qdV rdV; rw [if_neg he, if_neg he]; exact ⟨rfl, rfl⟩)
    rw [HV.out.1, HV.out.2]
    have CT : Hid (∀ W, Hid (BP w f (.slice a l c) r k x n s u W) → Calls Tryz.prog 46 #[.agg #[.int .i64 f, .slice a l c, .int .i64 r], .agg #[.int .i64 k, .int .i64 x, .int .i64 n, .int .i64 s, .int .i64 u], .int .i64 j] W (YrPost yrZ (rvE r f xs k x n s u j) W)) := Lib.hid (fun W hW => iyo_no r f xs a l c k x n s u j W (H.out.on hW.out.low) hlc he)
    unfold YrPost yrZ at CT
    obtain ⟨E, hE⟩ : ∃ y_, rvE r f xs k x n s u j = y_ := ⟨_, rfl⟩
    rw [hE] at CT he ⊢
    have CS := Lib.hid (fun F W => itold_no E F W he)
    unfold yrZ at CS
    clear hE HV he
    go_enter Tryz.func32, Tryz.ntmps32
    go_wp2_with fail
    obtain ⟨W1, hW1⟩ : ∃ W1, ((w.alloc (.cells #[.int .i64 f, .slice a l c, .int .i64 r] 28)).alloc (.cells #[.int .i64 k, .int .i64 x, .int .i64 n, .int .i64 s, .int .i64 u] 30)) = W1 := ⟨_, rfl⟩
    rw [hW1] at HP ⊢
    clear hW1
    with_reducible refine (CT.out _ HP).mono ?_
    rintro e w1 ⟨rfl, hb⟩
    have HP := Lib.hid (HP.out.on hb)
    have HL := Lib.hid (HP.out.low.trans ((box_b w1 (.cells #[.pointer none, .nilIface, .int .i64 0, .int .i64 0, .int .i64 0, .int .i64 0, .int .i64 0, .int .i64 0, .int .i64 0, .int .i64 0] 74)).mono HP.out.low.size))
    clear hb CT
    go_wp2_with fail
    with_reducible refine (CS.out _ _).mono ?_
    rintro e w2 ⟨rfl, hb⟩
    have HL2 := Lib.hid (HL.out.trans (hb.mono HL.out.size))
    clear hb
    go_wp2_with fail
    go_ret3
    exact ⟨rfl, HL2.out⟩

set_option maxHeartbeats 4000000 in
theorem ide_any (r f : Int) (xs : List Int) (a : Option Addr) (l c : Nat) (k x n s u j : Int) (w : World) (h : Ints w a l xs) (hlc : l ≤ c) :
    Calls Tryz.prog 20 #[.agg #[.int .i64 f, .slice a l c, .int .i64 r], .agg #[.int .i64 k, .int .i64 x, .int .i64 n, .int .i64 s, .int .i64 u], .int .i64 j] w (IIPost (deV r f xs k x n s u j) (rvE r f xs k x n s u j) w) := by
  have H := Lib.hid h
  clear h
  have HP := Lib.hid (BP.new w f (.slice a l c) r k x n s u 28 30)
  unfold IIPost
  by_cases he : rvE r f xs k x n s u j = 0
  · have HV : Hid (deV r f xs k x n s u j = cD r xs (x + j - f).toNat) := Lib.hid (by unfold deV dvN; rw [if_pos he])
    rw [HV.out, he]
    have CT : Hid (∀ W, Hid (BP w f (.slice a l c) r k x n s u W) → Calls Tryz.prog 46 #[.agg #[.int .i64 f, .slice a l c, .int .i64 r], .agg #[.int .i64 k, .int .i64 x, .int .i64 n, .int .i64 s, .int .i64 u], .int .i64 j] W (YoYes r f xs (.slice a l c) k x n s u j W)) := Lib.hid (fun W hW => iyo_yes r f xs a l c k x n s u j W (H.out.on hW.out.low) hlc he)
    unfold YoYes at CT
    unfold yrV at CT
    clear HV he
    obtain ⟨g0, hg0⟩ : ∃ y_, cD r xs (x + j - f).toNat = y_ := ⟨_, rfl⟩
    obtain ⟨g1, hg1⟩ : ∃ y_, cN r xs (x + j - f).toNat = y_ := ⟨_, rfl⟩
    obtain ⟨g2, hg2⟩ : ∃ y_, cC r xs (x + j - f).toNat = y_ := ⟨_, rfl⟩
    obtain ⟨g3, hg3⟩ : ∃ y_, cM r xs (x + j - f).toNat = y_ := ⟨_, rfl⟩
    rw [hg0, hg1, hg2, hg3] at CT
    rw [hg0]
    clear hg0 hg1 hg2 hg3
    obtain ⟨g4, hg0⟩ : ∃ y_, cD r xs (x + j + lfN k n j - f).toNat = y_ := ⟨_, rfl⟩
    obtain ⟨g5, hg1⟩ : ∃ y_, cN r xs (x + j + lfN k n j - f).toNat = y_ := ⟨_, rfl⟩
    obtain ⟨g6, hg2⟩ : ∃ y_, cC r xs (x + j + lfN k n j - f).toNat = y_ := ⟨_, rfl⟩
    obtain ⟨g7, hg3⟩ : ∃ y_, cM r xs (x + j + lfN k n j - f).toNat = y_ := ⟨_, rfl⟩
    rw [hg0, hg1, hg2, hg3] at CT
    clear hg0 hg1 hg2 hg3
    obtain ⟨T, hT⟩ : ∃ y_, kT k = y_ := ⟨_, rfl⟩
    rw [hT] at CT
    clear hT
    go_enter Tryz.func20, Tryz.ntmps20
    go_wp2_with fail
    obtain ⟨W1, hW1⟩ : ∃ W1, ((w.alloc (.cells #[.int .i64 f, .slice a l c, .int .i64 r] 28)).alloc (.cells #[.int .i64 k, .int .i64 x, .int .i64 n, .int .i64 s, .int .i64 u] 30)) = W1 := ⟨_, rfl⟩
    rw [hW1] at HP ⊢
    clear hW1
    with_reducible refine (CT.out _ HP).mono ?_
    rintro e w1 ⟨C, R, rfl, hcr, hb⟩
    have HP := Lib.hid (HP.out.on hb)
    have HL := Lib.hid (HP.out.low.trans ((box_b w1 (.cells #[.pointer (some ⟨C, 0, none⟩), .iface T (.agg #[]), .int .i64 g0, .int .i64 g1, .int .i64 g2, .int .i64 g3, .int .i64 g4, .int .i64 g5, .int .i64 g6, .int .i64 g7] 74)).mono HP.out.low.size))
    clear hb hcr CT
    go_wp2_with fail
    go_ret2
    exact ⟨rfl, HL.out⟩
  · have HV : Hid (deV r f xs k x n s u j = 0) := Lib.hid (by unfold deV; rw [if_neg he])
    rw [HV.out]
    have CT : Hid (∀ W, Hid (BP w f (.slice a l c) r k x n s u W) → Calls Tryz.prog 46 #[.agg #[.int .i64 f, .slice a l c, .int .i64 r], .agg #[.int .i64 k, .int .i64 x, .int .i64 n, .int .i64 s, .int .i64 u], .int .i64 j] W (YrPost yrZ (rvE r f xs k x n s u j) W)) := Lib.hid (fun W hW => iyo_no r f xs a l c k x n s u j W (H.out.on hW.out.low) hlc he)
    unfold YrPost yrZ at CT
    obtain ⟨E, hE⟩ : ∃ y_, rvE r f xs k x n s u j = y_ := ⟨_, rfl⟩
    rw [hE] at CT ⊢
    clear hE HV he
    go_enter Tryz.func20, Tryz.ntmps20
    go_wp2_with fail
    obtain ⟨W1, hW1⟩ : ∃ W1, ((w.alloc (.cells #[.int .i64 f, .slice a l c, .int .i64 r] 28)).alloc (.cells #[.int .i64 k, .int .i64 x, .int .i64 n, .int .i64 s, .int .i64 u] 30)) = W1 := ⟨_, rfl⟩
    rw [hW1] at HP ⊢
    clear hW1
    with_reducible refine (CT.out _ HP).mono ?_
    rintro e w1 ⟨rfl, hb⟩
    have HP := Lib.hid (HP.out.on hb)
    have HL := Lib.hid (HP.out.low.trans ((box_b w1 (.cells #[.pointer none, .nilIface, .int .i64 0, .int .i64 0, .int .i64 0, .int .i64 0, .int .i64 0, .int .i64 0, .int .i64 0, .int .i64 0] 74)).mono HP.out.low.size))
    clear hb CT
    go_wp2_with fail
    go_ret2
    exact ⟨rfl, HL.out⟩

end Go.Proofs.YtnclncglmnbelaaGreat
